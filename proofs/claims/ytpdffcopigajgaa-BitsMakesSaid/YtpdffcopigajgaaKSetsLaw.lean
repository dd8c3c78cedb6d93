/-
  BitsSets: any bit of any bits, and bits with one changed, are the document's. No condition beyond the form's own.
-/
import Derived.Test.YtpdffcopigajgaaKOpen
namespace Go.Proofs.Ytpdffcopigajgaa
open Go.ChangeShapes Go.WideShapes Go.ChangeAt Go.RowKit Go.Deep
set_option linter.unusedVariables false

theorem brd_onD {W w9 : World} {a : Option Addr} {l : List UInt8} (h : BRd W a l) (hb : Below W.drew.heap.size W.drew w9) : BRd w9 a l := BRd.below (w := W.drew) h hb
set_option maxHeartbeats 16000000 in
set_option maxRecDepth 100000 in
theorem bitsSets_walk (N : Int) (A : Option Addr) (c : Nat) (l : List UInt8) (i : Int) (y : Bool) (w : World) (hA : BRd w A l) (hc : l.length ≤ c) (hl : l.length ≤ 140737488355328) :
    Calls Try.prog 4 #[.agg #[.int .i64 N, .slice A l.length c], .int .i64 i, .bool y] w fun e w' => e = .returned (.bool true) ∧ Below w.heap.size w w' := by
  have HSM := Lib.hid (fun W => small_any N A c l W hc hl)
  have hs4 : (smallL l).length ≤ 4096 := by rw [small_len]; omega
  have HA : Hid (∀ W : World, Below w.heap.size w W → BRd W A (smallL l)) := fun W h => brd_take' (hA.below h) 4096
  clear hA hl
  generalize hn1 : (smallL l) = m at *
  clear hn1
  have HS := Lib.hid (fun (W : World) (h : BRd W A m) => set_any N A c m i y W h (by omega))
  have HRS := Lib.hid (fun (W : World) (h : BRd W A m) => rset_any N A c m i y W h (by omega))
  have HG := Lib.hid (fun (W : World) (h : BRd W A m) => get_any N A c m i W h (by omega))
  have HRG := Lib.hid (fun (W : World) (h : BRd W A m) => rget_any N A c m i W h (by omega))
  generalize setV N m i y = o at *
  generalize getB N m i = gv at *
  have HE := Lib.hid (fun (W : World) (a a' : Option Addr) (c c' : Nat) (h : BRd W a (pkB (oT o))) (h' : BRd W a' (pkB (oT o))) => exact_any ((oT o).length : Int) ((oT o).length : Int) a a' c c' (pkB (oT o)) (pkB (oT o)) W h h')
  rw [show (decide (((oT o).length : Int) = ((oT o).length : Int)) && (pkB (oT o) == pkB (oT o))) = true by simp] at HE
  unfold OPost at HS HRS
  generalize pkB (oT o) = P at *
  generalize ((oT o).length : Int) = L at *
  generalize oE o = E at *
  have HX3 := Lib.hid (box_new w (.cells #[.int .i64 N, .slice A l.length c] 25))
  have HB := Lib.hid (alloc_below w (.cells #[.int .i64 N, .slice A l.length c] 25))
  go_enter Try.func4, Try.ntmps4
  go_wp2_with fail
  refine (HSM.out _).mono ?_
  rintro e w1 ⟨rfl, hb⟩
  have X3 := box_next HX3.out hb
  have hf := set2_fr w1 w.heap.size (.int .i64 N) (.slice A m.length c)
  have Y3 := Lib.hid (box_set2 X3 (.int .i64 N) (.slice A m.length c))
  have hB1 := bt HB.out hb
  have B1 := Lib.hid (below_tr hB1 (hf.below (B := w.heap.size) (fun j e => by omega) hB1.size))
  obtain ⟨⟨r0, r1⟩, rf⟩ := box_cells2 X3
  clear X3 hf hB1 hb HX3 HB HSM
  go_wp2_with fail
  generalize ((w1.setCell ⟨w.heap.size, 0, none⟩ (.int .i64 N)).setCell ⟨w.heap.size, 1, none⟩ (.slice A m.length c)) = W1 at *
  clear r0 r1 rf
  refine (HS.out _ (HA.out _ B1.out)).mono ?_
  rintro e w2 ⟨a2, c2, rfl, ho2, -, hb2⟩
  have x2 := box_next (box_next Y3.out hb2) (alloc_below w2 (.cells #[.int .i64 L, .slice a2 P.length c2] 25))
  have Z3 := Lib.hid x2
  have Z7 := Lib.hid (box_new w2 (.cells #[.int .i64 L, .slice a2 P.length c2] 25))
  have RX := Lib.hid (ho2.alloc (.cells #[.int .i64 L, .slice a2 P.length c2] 25)).brd
  have B2 := Lib.hid (bt (bt B1.out hb2) (alloc_below w2 (.cells #[.int .i64 L, .slice a2 P.length c2] 25)))
  obtain ⟨⟨r0, r1⟩, rf⟩ := box_cells2 Z3.out
  clear ho2 hb2 x2 Y3 B1 HS
  go_wp2_with fail
  refine (HRS.out _ (HA.out _ B2.out)).mono ?_
  rintro e w3 ⟨a3, c3, rfl, ho3, -, hb3⟩
  have hal := alloc_below w3 (.cells #[.int .i64 L, .slice a3 P.length c3] 25)
  have U3 := Lib.hid (box_next (box_next Z3.out hb3) hal)
  have U7 := Lib.hid (box_next (box_next Z7.out hb3) hal)
  have U9 := Lib.hid (box_new w3 (.cells #[.int .i64 L, .slice a3 P.length c3] 25))
  have RX := Lib.hid ((RX.out.below hb3).below hal)
  have RY := Lib.hid (ho3.alloc (.cells #[.int .i64 L, .slice a3 P.length c3] 25)).brd
  have hp := Lib.hid (bt (bt B2.out hb3) hal)
  clear ho3 hb3 hal Z3 Z7 B2 HRS r0 r1 rf
  have HLT := Lib.hid (show _ ∧ _ ∧ _ from ⟨box_lt U3.out, box_lt U7.out, box_lt U9.out⟩)
  obtain ⟨⟨k0, k1⟩, -⟩ := box_cells2 U3.out
  obtain ⟨⟨j0, j1⟩, -⟩ := box_cells2 U7.out
  obtain ⟨⟨m0, m1⟩, -⟩ := box_cells2 U9.out
  clear U3 U7 U9
  go_wp2_with fail
  have hgg : (gv == gv) = true := by simp
  have hEE : (E == E) = true := by simp
  go_region_held3 (fun W => (W.cell? ⟨w.heap.size, 0, none⟩ = some (.int .i64 N) ∧ W.cell? ⟨w.heap.size, 1, none⟩ = some (.slice A m.length c)) ∧ (W.cell? ⟨w2.heap.size, 0, none⟩ = some (.int .i64 L) ∧ W.cell? ⟨w2.heap.size, 1, none⟩ = some (.slice a2 P.length c2)) ∧ (W.cell? ⟨w3.heap.size, 0, none⟩ = some (.int .i64 L) ∧ W.cell? ⟨w3.heap.size, 1, none⟩ = some (.slice a3 P.length c3))) (first | exact ⟨⟨k0, k1⟩, ⟨j0, j1⟩, ⟨m0, m1⟩⟩ | go_keep) (first
    | (go_at_call 12; go_loud (refine (begun_any _).mono ?_); rintro e w9 ⟨rfl, hb9⟩; have k0 := ((bcell hb9).1 _ _ HLT.out.1).trans k0; have k1 := ((bcell hb9).1 _ _ HLT.out.1).trans k1; have j0 := ((bcell hb9).1 _ _ HLT.out.2.1).trans j0; have j1 := ((bcell hb9).1 _ _ HLT.out.2.1).trans j1; have m0 := ((bcell hb9).1 _ _ HLT.out.2.2).trans m0; have m1 := ((bcell hb9).1 _ _ HLT.out.2.2).trans m1; have hp := Lib.hid (show Below w.heap.size w w9 from by first | exact bt hp.out hb9 | exact bt hp.out.drew hb9); have RX : Hid (BRd w9 a2 P) := (by first | exact RX.out.below hb9 | exact brd_onD RX.out hb9); have RY : Hid (BRd w9 a3 P) := (by first | exact RY.out.below hb9 | exact brd_onD RY.out hb9); have HLT := Lib.hid (show _ ∧ _ ∧ _ from ⟨Nat.lt_of_lt_of_le HLT.out.1 hb9.size, Nat.lt_of_lt_of_le HLT.out.2.1 hb9.size, Nat.lt_of_lt_of_le HLT.out.2.2 hb9.size⟩); clear hb9)
    | (go_at_call 25; refine (HG.out _ (HA.out _ (by first | exact hp.out | exact hp.out.drew))).mono ?_; rintro e w9 ⟨rfl, hb9⟩; have k0 := ((bcell hb9).1 _ _ HLT.out.1).trans k0; have k1 := ((bcell hb9).1 _ _ HLT.out.1).trans k1; have j0 := ((bcell hb9).1 _ _ HLT.out.2.1).trans j0; have j1 := ((bcell hb9).1 _ _ HLT.out.2.1).trans j1; have m0 := ((bcell hb9).1 _ _ HLT.out.2.2).trans m0; have m1 := ((bcell hb9).1 _ _ HLT.out.2.2).trans m1; have hp := Lib.hid (show Below w.heap.size w w9 from by first | exact bt hp.out hb9 | exact bt hp.out.drew hb9); have RX : Hid (BRd w9 a2 P) := (by first | exact RX.out.below hb9 | exact brd_onD RX.out hb9); have RY : Hid (BRd w9 a3 P) := (by first | exact RY.out.below hb9 | exact brd_onD RY.out hb9); have HLT := Lib.hid (show _ ∧ _ ∧ _ from ⟨Nat.lt_of_lt_of_le HLT.out.1 hb9.size, Nat.lt_of_lt_of_le HLT.out.2.1 hb9.size, Nat.lt_of_lt_of_le HLT.out.2.2 hb9.size⟩); clear hb9)
    | (go_at_call 26; refine (HRG.out _ (HA.out _ (by first | exact hp.out | exact hp.out.drew))).mono ?_; rintro e w9 ⟨rfl, hb9⟩; have k0 := ((bcell hb9).1 _ _ HLT.out.1).trans k0; have k1 := ((bcell hb9).1 _ _ HLT.out.1).trans k1; have j0 := ((bcell hb9).1 _ _ HLT.out.2.1).trans j0; have j1 := ((bcell hb9).1 _ _ HLT.out.2.1).trans j1; have m0 := ((bcell hb9).1 _ _ HLT.out.2.2).trans m0; have m1 := ((bcell hb9).1 _ _ HLT.out.2.2).trans m1; have hp := Lib.hid (show Below w.heap.size w w9 from by first | exact bt hp.out hb9 | exact bt hp.out.drew hb9); have RX : Hid (BRd w9 a2 P) := (by first | exact RX.out.below hb9 | exact brd_onD RX.out hb9); have RY : Hid (BRd w9 a3 P) := (by first | exact RY.out.below hb9 | exact brd_onD RY.out hb9); have HLT := Lib.hid (show _ ∧ _ ∧ _ from ⟨Nat.lt_of_lt_of_le HLT.out.1 hb9.size, Nat.lt_of_lt_of_le HLT.out.2.1 hb9.size, Nat.lt_of_lt_of_le HLT.out.2.2 hb9.size⟩); clear hb9)
    | (go_at_call 13; refine (HE.out _ _ _ _ _ RX.out RY.out).mono ?_; rintro e w9 ⟨rfl, hb9⟩; have k0 := ((bcell hb9).1 _ _ HLT.out.1).trans k0; have k1 := ((bcell hb9).1 _ _ HLT.out.1).trans k1; have j0 := ((bcell hb9).1 _ _ HLT.out.2.1).trans j0; have j1 := ((bcell hb9).1 _ _ HLT.out.2.1).trans j1; have m0 := ((bcell hb9).1 _ _ HLT.out.2.2).trans m0; have m1 := ((bcell hb9).1 _ _ HLT.out.2.2).trans m1; have hp := Lib.hid (show Below w.heap.size w w9 from by first | exact bt hp.out hb9 | exact bt hp.out.drew hb9); have RX : Hid (BRd w9 a2 P) := (by first | exact RX.out.below hb9 | exact brd_onD RX.out hb9); have RY : Hid (BRd w9 a3 P) := (by first | exact RY.out.below hb9 | exact brd_onD RY.out hb9); have HLT := Lib.hid (show _ ∧ _ ∧ _ from ⟨Nat.lt_of_lt_of_le HLT.out.1 hb9.size, Nat.lt_of_lt_of_le HLT.out.2.1 hb9.size, Nat.lt_of_lt_of_le HLT.out.2.2 hb9.size⟩); clear hb9))
  go_wp2_with fail
  go_ret
  exact ⟨rfl, hp.out⟩

set_option maxRecDepth 100000 in
theorem bitsSets_lifted (os : Os) (started : os.Started) (H : Type) (enc : TypeId × Value → H) :
    ReturnsInHanded {} Try.checked os 4 .any (Rows.bitsSetsSpec.pre6 enc Try.prog Try.f4 Rows.bitsSetsRow.domain false) (Rows.bitsSetsSpec.post enc Try.prog Try.f4 false true false false) := by
  refine returnsInHanded_of_change_sized (C := Try.checked) own started (by kernel_rfl) Try.func4
    (ChangeSpec.witness6 (enc := enc) (C := Try.checked) false ⟨#[], #[.agg #[.int .i64 0, .slice none 0 0], .int .i64 0, .bool false], []⟩ 8 (by kernel_rfl) (by kernel_rfl) (by kernel_rfl) (by kernel_rfl)) ?_
  intro W base args ds gs before hval0 hW _ hsz _
  have hval : ∀ (j : Nat) t v, Try.f4.params[j]? = some t → args[j]? = some v → Value.okWide Try.prog W .any base t v := hval0
  have hW' := hW
  obtain ⟨p, q, hA0, hV, rfl, hfz, hnd⟩ := hW
  have hA : DataW.TrodAll enc Try.prog W 0 (fun _ => true) true Try.f4.params.toList args.toList ds p := hA0
  rw [Try.params4] at hA hval
  obtain ⟨v0, vs0, d0, ds0, p0, q0, hargs, rfl, rfl, h0, r0⟩ := trodAll_cons hA
  obtain ⟨v1, vs1, d1, ds1, p1, q1, rfl, rfl, rfl, h1, r1⟩ := trodAll_cons r0
  obtain ⟨v2, vs2, d2, ds2, p2, q2, rfl, rfl, rfl, h2, r2⟩ := trodAll_cons r1
  obtain ⟨rfl, rfl, rfl⟩ := trodAll_nil r2
  obtain rfl : args = #[v0, v1, v2] := by cases args; simp_all
  obtain ⟨rfl, rfl⟩ := trodVars_none hV
  simp only [List.append_nil] at hW'
  have hlt0 : ∀ x ∈ p0, x.block < W.heap.size := fun x hx => hW'.lt x (by simp [hx])
  have hlt1 : ∀ x ∈ p1, x.block < W.heap.size := fun x hx => hW'.lt x (by simp [hx])
  have hlt2 : ∀ x ∈ p2, x.block < W.heap.size := fun x hx => hW'.lt x (by simp [hx])
  have hreach : reachBytes ≤ 140737488351232 := by decide
  obtain ⟨bb, rfl, rd0, ok0, sy0⟩ := open_bits (hval 0 25 v0 rfl rfl) h0
  have b0 : bb.l.length ≤ reachBytes := by
    rcases sy0.weight with h0 | ⟨n, hn, hle⟩
    · rw [h0]; exact Nat.zero_le _
    · have := List.all_eq_true.1 hsz _ (DataW.weights_mem_each (j := 0) (t := 25) rfl rfl _ hn)
      have : n ≤ reachBytes := by simpa using this
      omega
  obtain ⟨ii, rfl, -, -, w1⟩ := open_int Try.underlying3 (hval 1 3 v1 rfl rfl) h1
  have i1 := in64_of w1
  obtain ⟨yy, rfl, -, -⟩ := open_bool Try.underlying4 (hval 2 4 v2 rfl rfl) h2
  clear hA0 hval0
  refine (bitsSets_walk bb.N bb.A bb.c bb.l ii yy W rd0 ok0.c (by omega)).mono fun e W' ⟨he, hg⟩ => ?_
  subst he
  have hpost : Rows.bitsSetsSpec.post enc Try.prog Try.f4 false true false false W _ _ W' := post_of_below (pa := p0 ++ (p1 ++ (p2 ++ []))) (pv := []) hW' (fun _ _ _ => (trodAll_cons_mk (shut_bool Try.underlying4 _) trodAll_mk0)) (fun sp hsp => (trodAll_cons_mk (WideElems.Trod_stays laidOut (by kernel_rfl) (of_decide_eq_true (by kernel_rfl)) h0 (fun x hx => hg.same (hlt0 x hx)) (fun x hx => hsp x (by simp [hx]))) (trodAll_cons_mk (WideElems.Trod_stays laidOut (by kernel_rfl) (of_decide_eq_true (by kernel_rfl)) h1 (fun x hx => hg.same (hlt1 x hx)) (fun x hx => hsp x (by simp [hx]))) (trodAll_cons_mk (WideElems.Trod_stays laidOut (by kernel_rfl) (of_decide_eq_true (by kernel_rfl)) h2 (fun x hx => hg.same (hlt2 x hx)) (fun x hx => hsp x (by simp [hx]))) trodAll_mk0)))) (fun _ _ => rfl) (by simp) hg (ok_one (by kernel_rfl) rfl (okWide_bool_mk Try.underlying4 _))
  exact ⟨_, rfl, hpost⟩

theorem bitsSets_holds : Rows.BitsSetsSaid :=
  OpenClaim.holds_of_wide 4 Try.f4 rfl rfl rfl rfl rfl rfl rfl ⟨rfl, rfl, rfl, rfl, rfl⟩ rfl rfl rfl rfl rfl (by kernel_rfl) Try.func4 (by kernel_rfl)
    (of_decide_eq_true (by kernel_rfl)) (by unfold Func.isWrapper; first | (rw [if_pos (by decide +kernel)]; kernel_rfl) | (rw [if_neg (by decide +kernel)]; exact ⟨rfl, rfl⟩))
    (fun os started H enc _ => bitsSets_lifted os started H enc)
end Go.Proofs.Ytpdffcopigajgaa
