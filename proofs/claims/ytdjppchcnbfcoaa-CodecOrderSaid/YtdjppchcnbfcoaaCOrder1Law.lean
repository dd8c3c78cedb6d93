/-
  CodecOrder: rows of ints, and texts, are in just the order of their bytes. No condition beyond the form's own.
-/
import Derived.Test.YtdjppchcnbfcoaaCRow2
import Derived.Test.YtdjppchcnbfcoaaCApartLaw
namespace Go.Proofs.Ytdjppchcnbfcoaa
open Go.ChangeShapes Go.WideShapes Go.ChangeAt Go.RowKit Go.Deep
set_option linter.unusedVariables false

theorem strings_cmp (s t : List UInt8) (w : World) : Calls Try.prog 34 #[.string ⟨s.toArray⟩, .string ⟨t.toArray⟩] w fun e w' => e = .returned (.int .i64 (Lib.compareBytes s t)) ∧ w = w' :=
  (Try.strings_Compare ⟨s.toArray⟩ ⟨t.toArray⟩ w).mono fun e w' ⟨he, hw⟩ => ⟨he, hw.symm⟩

set_option maxHeartbeats 6400000 in
set_option maxRecDepth 100000 in
theorem codecOrder_walk (A0 A1 : Option Addr) (c0 c1 : Nat) (xs ys : List Int) (s t : List UInt8) (w : World) (h0 : IRd w A0 xs) (h1 : IRd w A1 ys) (ok0 : ∀ z ∈ xs, In8 z) (ok1 : ∀ z ∈ ys, In8 z) (la : xs.length ≤ 17592186043904) (lb : ys.length ≤ 17592186043904) (hs : s.length ≤ 140737488355328) (ht : t.length ≤ 140737488355328) :
    Calls Try.prog 8 #[.slice A0 xs.length c0, .slice A1 ys.length c1, .string ⟨s.toArray⟩, .string ⟨t.toArray⟩] w fun e w' => e = .returned (.bool true) ∧ Below w.heap.size w w' := by
  have HRA := Lib.hid (fun (W : World) (hW : Below w.heap.size w W) => row_anyB A0 c0 xs W (h0.below hW) ok0 (by omega))
  have HRB := Lib.hid (fun (W : World) (hW : Below w.heap.size w W) => row_anyB A1 c1 ys W (h1.below hW) ok1 (by omega))
  have hw1 := wrs_new w
  have hA1 := alloc_below w (.cells #[.bool true, .slice none 0 0] 67)
  have hw1b := hw1.below (alloc_below _ (.cells #[.bool true, .slice none 0 0] 67))
  have hw2 := wrs_new (w.alloc (.cells #[.bool true, .slice none 0 0] 67))
  have hA2 := bt hA1 (alloc_below _ (.cells #[.bool true, .slice none 0 0] 67))
  rw [show (w.alloc (.cells #[.bool true, .slice none 0 0] 67)).heap.size = w.heap.size + 1 by simp] at hw2
  have HW1 := Lib.hid hw1b
  have HW2 := Lib.hid hw2
  have HA2 := Lib.hid hA2
  clear hw1 hA1 hw1b hw2 hA2
  go_enter Try.func8, Try.ntmps8
  go_wp2_with (go_at_call 12; refine (newWriter_any _).mono ?_; rintro e w' ⟨rfl, rfl⟩)
  refine (begun_any _).mono ?_
  rintro e w1 ⟨rfl, h1x⟩
  have W1 := Lib.hid (HW1.out.below h1x)
  have W2 := Lib.hid (HW2.out.below h1x)
  have B1 := Lib.hid (bt HA2.out h1x)
  have hBr : w.heap.size ≤ w1.heap.size := B1.out.size
  have hBr2 : w.heap.size + 1 ≤ w1.heap.size := by have := h1x.size; simp at this; omega
  clear h1x HW1 HW2 HA2
  have HT1 := Lib.hid (wText_any w1 _ _ _ _ s hs W1.out (by decide) hBr)
  go_wp2_with fail
  refine HT1.out.mono ?_
  rintro e w2 ⟨v2, rfl, h2, g2⟩
  have B2 := Lib.hid (below_tr B1.out (WGr.below W1.out g2 hBr))
  have X1 := Lib.hid h2
  have X2 := Lib.hid (W1.out.other W2.out g2 (by omega) (fun k hk => by simp [Value.ownBlock] at hk))
  have hBr3 : w.heap.size + 1 ≤ w2.heap.size := Nat.le_trans hBr2 g2.size
  have hBr4 : w.heap.size ≤ w2.heap.size := Nat.le_trans hBr g2.size
  clear h2 g2 HT1 W1 W2
  have HT2 := Lib.hid (wText_any w2 _ _ _ _ t ht X2.out (by decide) hBr3)
  by_cases hps : ([] : List UInt8).length + (encB s).length ≤ 1048576
  · have HE : Hid (putE [] (encB s) = 0) := if_pos hps
    have HL : Hid (putL [] (encB s) = encB s) := if_pos hps
    rw [HE.out]
    rw [HL.out] at X1
    go_wp2_with fail
    refine HT2.out.mono ?_
    rintro e w3 ⟨v3, rfl, h3, g3⟩
    have B3 := Lib.hid (below_tr B2.out ((WGr.below X2.out g3 hBr3).mono (Nat.le_succ _)))
    have Y1 := Lib.hid (X2.out.other X1.out g3 (by omega) (fun k hk => by simp [Value.ownBlock]))
    have Y2 := Lib.hid h3
    clear h3 g3 X1 X2 HT2
    by_cases hpt : ([] : List UInt8).length + (encB t).length ≤ 1048576
    · have HE2 : Hid (putE [] (encB t) = 0) := if_pos hpt
      have HL2 : Hid (putL [] (encB t) = encB t) := if_pos hpt
      rw [HE2.out]
      rw [HL2.out] at Y2
      have hl1 : (encB s).length ≤ 140737488355328 := by simp at hps; omega
      have hl2 : (encB t).length ≤ 140737488355328 := by simp at hpt; omega
      clear hps hpt
      have HO1 := Lib.hid (out_any w3 _ _ _ _ Y1.out hl1)
      go_wp2_with fail
      refine HO1.out.mono ?_
      rintro e w4 ⟨v4, rfl, hown4, hb4⟩
      obtain ⟨a4, cap4, rfl, hcap4, _⟩ := hown4.slice
      have R4 := Lib.hid hown4.brd
      have B4 := Lib.hid (bt B3.out hb4)
      have Y3 := Lib.hid (Y2.out.below hb4)
      have HO2 := Lib.hid (out_any w4 _ _ _ _ Y3.out hl2)
      clear hown4 hb4 hcap4 HO1
      go_wp2_with fail
      refine HO2.out.mono ?_
      rintro e w5 ⟨v5, rfl, hown5, hb5⟩
      obtain ⟨a5, cap5, rfl, hcap5, _⟩ := hown5.slice
      have R5 := Lib.hid hown5.brd
      have R4b := Lib.hid (R4.out.below hb5)
      have B5 := Lib.hid (bt B4.out hb5)
      have HC := Lib.hid (compare_any a4 a5 cap4 cap5 _ _ w5 R4b.out R5.out)
      rw [encB_cmp s t] at HC
      have HSC := Lib.hid (strings_cmp s t w5)
      clear hown5 hb5 hcap5 HO2
      go_wp2_with fail
      refine HC.out.mono ?_
      rintro e w' ⟨rfl, rfl⟩
      generalize Lib.compareBytes s t = z at *
      have hzz : (z != z) = false := by simp
      go_wp2_with fail
      refine HSC.out.mono ?_
      rintro e w' ⟨rfl, rfl⟩
      go_wp2_with fail
      refine (HRA.out _ B5.out).mono ?_
      rintro e w6 ⟨v6, rfl, hown6, hb6⟩
      obtain ⟨a6, cap6, rfl, hcap6, _⟩ := hown6.slice
      have R6 := Lib.hid hown6.brd
      have B6 := Lib.hid (bt B5.out hb6)
      clear hown6 hb6 hcap6
      go_wp2_with fail
      refine (HRB.out _ B6.out).mono ?_
      rintro e w7 ⟨v7, rfl, hown7, hb7⟩
      obtain ⟨a7, cap7, rfl, hcap7, _⟩ := hown7.slice
      have R7 := Lib.hid hown7.brd
      have R6b := Lib.hid (R6.out.below hb7)
      have B7 := Lib.hid (bt B6.out hb7)
      have HC1 := Lib.hid (compare_any a6 a7 cap6 cap7 _ _ w7 R6b.out R7.out)
      rw [row_cmp xs ys ok0 ok1] at HC1
      have HC2 := Lib.hid (compareS_anyB A0 A1 c0 c1 xs ys w7 (h0.below B7.out) (h1.below B7.out) (by omega) (by omega))
      clear hown7 hb7 hcap7 R6
      go_wp2_with fail
      refine HC1.out.mono ?_
      rintro e w' ⟨rfl, rfl⟩
      generalize cmpInts xs ys = r at *
      have hrr : (r == r) = true := by simp
      go_wp2_with fail
      refine HC2.out.mono ?_
      rintro e w' ⟨rfl, rfl⟩
      go_wp2_with fail
      go_ret
      exact ⟨rfl, B7.out⟩
    · have HE2 : Hid (putE [] (encB t) = 3) := if_neg hpt
      rw [HE2.out]
      clear hps hpt
      go_wp2_with fail
      refine (HRA.out _ B3.out).mono ?_
      rintro e w6 ⟨v6, rfl, hown6, hb6⟩
      obtain ⟨a6, cap6, rfl, hcap6, _⟩ := hown6.slice
      have R6 := Lib.hid hown6.brd
      have B6 := Lib.hid (bt B3.out hb6)
      clear hown6 hb6 hcap6
      go_wp2_with fail
      refine (HRB.out _ B6.out).mono ?_
      rintro e w7 ⟨v7, rfl, hown7, hb7⟩
      obtain ⟨a7, cap7, rfl, hcap7, _⟩ := hown7.slice
      have R7 := Lib.hid hown7.brd
      have R6b := Lib.hid (R6.out.below hb7)
      have B7 := Lib.hid (bt B6.out hb7)
      have HC1 := Lib.hid (compare_any a6 a7 cap6 cap7 _ _ w7 R6b.out R7.out)
      rw [row_cmp xs ys ok0 ok1] at HC1
      have HC2 := Lib.hid (compareS_anyB A0 A1 c0 c1 xs ys w7 (h0.below B7.out) (h1.below B7.out) (by omega) (by omega))
      clear hown7 hb7 hcap7 R6
      go_wp2_with fail
      refine HC1.out.mono ?_
      rintro e w' ⟨rfl, rfl⟩
      generalize cmpInts xs ys = r at *
      have hrr : (r == r) = true := by simp
      go_wp2_with fail
      refine HC2.out.mono ?_
      rintro e w' ⟨rfl, rfl⟩
      go_wp2_with fail
      go_ret
      exact ⟨rfl, B7.out⟩
  · have HE : Hid (putE [] (encB s) = 3) := if_neg hps
    rw [HE.out]
    clear hps
    go_wp2_with fail
    refine (HRA.out _ B2.out).mono ?_
    rintro e w6 ⟨v6, rfl, hown6, hb6⟩
    obtain ⟨a6, cap6, rfl, hcap6, _⟩ := hown6.slice
    have R6 := Lib.hid hown6.brd
    have B6 := Lib.hid (bt B2.out hb6)
    clear hown6 hb6 hcap6
    go_wp2_with fail
    refine (HRB.out _ B6.out).mono ?_
    rintro e w7 ⟨v7, rfl, hown7, hb7⟩
    obtain ⟨a7, cap7, rfl, hcap7, _⟩ := hown7.slice
    have R7 := Lib.hid hown7.brd
    have R6b := Lib.hid (R6.out.below hb7)
    have B7 := Lib.hid (bt B6.out hb7)
    have HC1 := Lib.hid (compare_any a6 a7 cap6 cap7 _ _ w7 R6b.out R7.out)
    rw [row_cmp xs ys ok0 ok1] at HC1
    have HC2 := Lib.hid (compareS_anyB A0 A1 c0 c1 xs ys w7 (h0.below B7.out) (h1.below B7.out) (by omega) (by omega))
    clear hown7 hb7 hcap7 R6
    go_wp2_with fail
    refine HC1.out.mono ?_
    rintro e w' ⟨rfl, rfl⟩
    generalize cmpInts xs ys = r at *
    have hrr : (r == r) = true := by simp
    go_wp2_with fail
    refine HC2.out.mono ?_
    rintro e w' ⟨rfl, rfl⟩
    go_wp2_with fail
    go_ret
    exact ⟨rfl, B7.out⟩

set_option maxRecDepth 100000 in
theorem codecOrder_lifted (os : Os) (started : os.Started) (H : Type) (enc : TypeId × Value → H) :
    ReturnsInHanded {} Try.checked os 8 .any (Rows.codecOrderSpec.pre6 enc Try.prog Try.f8 Rows.codecOrderRow.domain false) (Rows.codecOrderSpec.post enc Try.prog Try.f8 false true false false) := by
  refine returnsInHanded_of_change_sized (C := Try.checked) own started (by kernel_rfl) Try.func8
    (ChangeSpec.witness6 (enc := enc) (C := Try.checked) false ⟨#[], #[.slice none 0 0, .slice none 0 0, .string ⟨#[]⟩, .string ⟨#[]⟩], []⟩ 8 (by kernel_rfl) (by kernel_rfl) (by kernel_rfl) (by kernel_rfl)) ?_
  intro W base args ds gs before hval0 hW _ hsz _
  have hval : ∀ (j : Nat) t v, Try.f8.params[j]? = some t → args[j]? = some v → Value.okWide Try.prog W .any base t v := hval0
  have hW' := hW
  obtain ⟨p, q, hA0, hV, rfl, hfz, hnd⟩ := hW
  have hA : DataW.TrodAll enc Try.prog W 0 (fun _ => true) true Try.f8.params.toList args.toList ds p := hA0
  rw [Try.params8] at hA hval
  obtain ⟨v0, vs0, d0, ds0, p0, q0, hargs, rfl, rfl, h0, r0⟩ := trodAll_cons hA
  obtain ⟨v1, vs1, d1, ds1, p1, q1, rfl, rfl, rfl, h1, r1⟩ := trodAll_cons r0
  obtain ⟨v2, vs2, d2, ds2, p2, q2, rfl, rfl, rfl, h2, r2⟩ := trodAll_cons r1
  obtain ⟨v3, vs3, d3, ds3, p3, q3, rfl, rfl, rfl, h3, r3⟩ := trodAll_cons r2
  obtain ⟨rfl, rfl, rfl⟩ := trodAll_nil r3
  obtain rfl : args = #[v0, v1, v2, v3] := by cases args; simp_all
  obtain ⟨rfl, rfl⟩ := trodVars_none hV
  simp only [List.append_nil] at hW'
  have hlt0 : ∀ x ∈ p0, x.block < W.heap.size := fun x hx => hW'.lt x (by simp [hx])
  have hlt1 : ∀ x ∈ p1, x.block < W.heap.size := fun x hx => hW'.lt x (by simp [hx])
  have hlt2 : ∀ x ∈ p2, x.block < W.heap.size := fun x hx => hW'.lt x (by simp [hx])
  have hlt3 : ∀ x ∈ p3, x.block < W.heap.size := fun x hx => hW'.lt x (by simp [hx])
  have hreach : reachBytes ≤ 140737488351232 := by decide
  obtain ⟨A0, cap0, xs, rfl, hR0, ok0, hd0⟩ := open_in64 (hval 0 50 v0 rfl rfl) h0
  have b0 : xs.length * 8 ≤ reachBytes := by
    rcases hd0 with h0 | ⟨el, sp, e, he⟩
    · rw [h0]; simp
    · have hs : (el.length + sp.length) * Try.prog.bytesOf 2 ≤ reachBytes := sized_slice hsz (j := 0) (t := 50) (e := 2) rfl (by rw [e]; rfl) Try.underlying50
      rw [show Try.prog.bytesOf 2 = 8 by kernel_rfl] at hs
      omega
  obtain ⟨A1, cap1, ys, rfl, hR1, ok1, hd1⟩ := open_in64 (hval 1 50 v1 rfl rfl) h1
  have b1 : ys.length * 8 ≤ reachBytes := by
    rcases hd1 with h0 | ⟨el, sp, e, he⟩
    · rw [h0]; simp
    · have hs : (el.length + sp.length) * Try.prog.bytesOf 2 ≤ reachBytes := sized_slice hsz (j := 1) (t := 50) (e := 2) rfl (by rw [e]; rfl) Try.underlying50
      rw [show Try.prog.bytesOf 2 = 8 by kernel_rfl] at hs
      omega
  obtain ⟨s0, rfl, e2, -, w2⟩ := ChangeMaps.open_string Try.underlying9 (hval 2 9 v2 rfl rfl) h2
  obtain ⟨s, rfl⟩ : ∃ l : List UInt8, s0 = ⟨l.toArray⟩ := ⟨s0.data.toList, by cases s0; simp⟩
  have ed2 : d2 = .lit (.string s) := e2
  have b2 : s.length ≤ reachBytes := sized_string hsz (j := 2) (t := 9) rfl (by rw [ed2]; rfl)
  obtain ⟨t0, rfl, e3, -, w3⟩ := ChangeMaps.open_string Try.underlying9 (hval 3 9 v3 rfl rfl) h3
  obtain ⟨t, rfl⟩ : ∃ l : List UInt8, t0 = ⟨l.toArray⟩ := ⟨t0.data.toList, by cases t0; simp⟩
  have ed3 : d3 = .lit (.string t) := e3
  have b3 : t.length ≤ reachBytes := sized_string hsz (j := 3) (t := 9) rfl (by rw [ed3]; rfl)
  clear hA0 hval0
  refine (codecOrder_walk A0 A1 cap0 cap1 xs ys s t W hR0 hR1 ok0 ok1 (by omega) (by omega) (by omega) (by omega)).mono fun e W' ⟨he, hg⟩ => ?_
  subst he
  have hpost : Rows.codecOrderSpec.post enc Try.prog Try.f8 false true false false W _ _ W' := post_of_below (pa := p0 ++ (p1 ++ (p2 ++ (p3 ++ [])))) (pv := []) hW' (fun _ _ _ => (trodAll_cons_mk (shut_bool Try.underlying4 _) trodAll_mk0)) (fun sp hsp => (trodAll_cons_mk (WideElems.Trod_stays laidOut (by kernel_rfl) (of_decide_eq_true (by kernel_rfl)) h0 (fun x hx => hg.same (hlt0 x hx)) (fun x hx => hsp x (by simp [hx]))) (trodAll_cons_mk (WideElems.Trod_stays laidOut (by kernel_rfl) (of_decide_eq_true (by kernel_rfl)) h1 (fun x hx => hg.same (hlt1 x hx)) (fun x hx => hsp x (by simp [hx]))) (trodAll_cons_mk (WideElems.Trod_stays laidOut (by kernel_rfl) (of_decide_eq_true (by kernel_rfl)) h2 (fun x hx => hg.same (hlt2 x hx)) (fun x hx => hsp x (by simp [hx]))) (trodAll_cons_mk (WideElems.Trod_stays laidOut (by kernel_rfl) (of_decide_eq_true (by kernel_rfl)) h3 (fun x hx => hg.same (hlt3 x hx)) (fun x hx => hsp x (by simp [hx]))) trodAll_mk0))))) (fun _ _ => rfl) (by simp) hg (ok_one (by kernel_rfl) rfl (okWide_bool_mk Try.underlying4 _))
  exact ⟨_, rfl, hpost⟩

theorem codecOrder_holds : Rows.CodecOrderSaid :=
  OpenClaim.holds_of_wide 8 Try.f8 rfl rfl rfl rfl rfl rfl rfl ⟨rfl, rfl, rfl, rfl, rfl⟩ rfl rfl rfl rfl rfl (by kernel_rfl) Try.func8 (by kernel_rfl)
    (of_decide_eq_true (by kernel_rfl)) (by unfold Func.isWrapper; first | (rw [if_pos (by decide +kernel)]; kernel_rfl) | (rw [if_neg (by decide +kernel)]; exact ⟨rfl, rfl⟩))
    (fun os started H enc _ => codecOrder_lifted os started H enc)
end Go.Proofs.Ytdjppchcnbfcoaa
