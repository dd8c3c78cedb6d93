/-
  BitsCounts: how many bits are set, ahead of any place, and which they are, is the document's. No condition beyond the form's own.
-/
import Derived.Test.YtpdffcopigajgaaKTold
import Derived.Test.YtpdffcopigajgaaKOpen
namespace Go.Proofs.Ytpdffcopigajgaa
open Go.ChangeShapes Go.WideShapes Go.ChangeAt Go.RowKit Go.Deep
set_option linter.unusedVariables false

theorem ird_onD {W w9 : World} {a : Option Addr} {l : List Int} (h : IRd W a l) (hb : Below W.drew.heap.size W.drew w9) : IRd w9 a l := IRd.below (w := W.drew) h hb
theorem where_cnt (t : List Bool) : (whereT t t.length).length = cntT t := by
  have key : ∀ n, n ≤ t.length → (whereT t n).length = cntT (t.take n) := by
    intro n hn
    induction n with
    | zero => simp [whereT, cntT]
    | succ n ih =>
      have hnl : n < t.length := by omega
      have ih := ih (by omega)
      have hgd : t.getD n false = t[n] := getD_lt hnl
      rw [List.take_succ_eq_append_getElem hnl]
      unfold cntT at ih ⊢
      rw [List.count_append]
      cases hy : t[n] with
      | false => rw [whereT_skip t n (hgd.trans hy), ih]; simp
      | true => rw [whereT_snoc t n (hgd.trans hy), List.length_append, ih]; simp
  have h := key t.length (Nat.le_refl _)
  rwa [List.take_length] at h
set_option maxHeartbeats 32000000 in
set_option maxRecDepth 100000 in
theorem bitsCounts_walk (N : Int) (A : Option Addr) (c : Nat) (l : List UInt8) (i k stop : Int) (w : World) (hA : BRd w A l) (hc : l.length ≤ c) (hac : A = none → c = 0) (hl : l.length ≤ 140737488355328) :
    Calls Try.prog 6 #[.agg #[.int .i64 N, .slice A l.length c], .int .i64 i, .int .i64 k, .int .i64 stop] w fun e w' => e = .returned (.bool true) ∧ Below w.heap.size w w' := by
  have HSM := Lib.hid (fun W => small_any N A c l W hc hl)
  have hs4 : (smallL l).length ≤ 4096 := by rw [small_len]; omega
  have hs5 : (smallL l).length ≤ c := by rw [small_len]; omega
  have HA : Hid (∀ W : World, Below w.heap.size w W → BRd W A (smallL l)) := fun W h => brd_take' (hA.below h) 4096
  clear hA hl
  generalize hn1 : (smallL l) = m at *
  clear hn1
  have HRW := Lib.hid (fun (W : World) (h : BRd W A m) => rwhere_any N A c m W h (by omega))
  have HPK := Lib.hid (fun (W : World) (h : BRd W A m) => pick_any N A c m k W h (by omega))
  have HAL := Lib.hid (fun (W : World) (h : BRd W A m) => all_any N A c m W h (by omega))
  have HCN := Lib.hid (fun (W : World) (h : BRd W A m) => count_any N A c m W h (by omega) hs5 hac)
  have HRK := Lib.hid (fun (W : World) (h : BRd W A m) => rank_any N A c m i W h (by omega) hs5 hac)
  have HRR := Lib.hid (fun (W : World) (h : BRd W A m) => rrank_any N A c m i W h (by omega))
  have htl : (trB N m).length ≤ 32768 := by have := sz_le N m; rw [tr_len]; omega
  generalize rankV (trB N m) i = R at *
  have hwe := where_eq (trB N m)
  have hwc := where_cnt (trB N m)
  rw [← hwe] at hwc HRW
  rw [← hwc] at HCN
  have hpl : (pkB (trB N m)).length ≤ 100000 := by rw [pk_len]; omega
  unfold AllPost at HAL
  unfold IPost at HRW
  rw [intsOf_len] at HRW
  generalize trB N m = t at *
  clear hwe hwc
  have HV : Hid (pickV (pkB t) k = if 0 ≤ k ∧ k < ((whereL (pkB t)).length : Int) then ((((whereL (pkB t)).getD k.toNat 0 : Nat) : Int), true) else (0, false)) := rfl
  generalize pkB t = P at *
  have HPB := Lib.hid hpl
  obtain ⟨n, hn⟩ : ∃ n, n = (whereL P).length := ⟨_, rfl⟩
  rw [← hn] at HRW HCN HV
  have HNW := Lib.hid hn
  have hnB : n ≤ 800000 := by
    have h1 := List.length_filter_le (fun x => bitL P x) (List.range (8 * P.length))
    rw [List.length_range] at h1
    have h3 : (whereL P).length ≤ 8 * P.length := h1
    omega
  obtain ⟨zs, hzs⟩ : ∃ zs, zs = intsOf (whereL P) := ⟨_, rfl⟩
  rw [← hzs] at HRW
  have HZS := Lib.hid hzs
  have HZG : Hid (∀ q (h : q < (whereL P).length), ∃ h2 : q < zs.length, zs[q] = ((whereL P).getD q 0 : Nat)) := fun q h => by
    subst hzs
    exact ⟨by rw [intsOf_len]; exact h, by rw [intsOf_get _ _ h, getD_lt h]⟩
  have HX3 := Lib.hid (box_new w (.cells #[.int .i64 N, .slice A l.length c] 25))
  have HB := Lib.hid (alloc_below w (.cells #[.int .i64 N, .slice A l.length c] 25))
  clear htl hpl hn hzs hc hac
  go_enter Try.func6, Try.ntmps6
  go_wp2_with fail
  refine (HSM.out _).mono ?_
  rintro e w1 ⟨rfl, hb⟩
  have X3 := box_next HX3.out hb
  have hf := set2_fr w1 w.heap.size (.int .i64 N) (.slice A m.length c)
  have Y3 := Lib.hid (box_set2 X3 (.int .i64 N) (.slice A m.length c))
  have hB1 := bt HB.out hb
  have hp := Lib.hid (below_tr hB1 (hf.below (B := w.heap.size) (fun j e => by omega) hB1.size))
  obtain ⟨⟨r0, r1⟩, rf⟩ := box_cells2 X3
  clear X3 hf hB1 hb HX3 HB HSM
  go_wp2_with fail
  generalize ((w1.setCell ⟨w.heap.size, 0, none⟩ (.int .i64 N)).setCell ⟨w.heap.size, 1, none⟩ (.slice A m.length c)) = W1 at *
  clear r0 r1 rf
  refine (HRW.out _ (HA.out _ hp.out)).mono ?_
  rintro e w2 ⟨aw, cw, rfl, hir, hb2⟩
  have HLT := Lib.hid (box_lt (box_next Y3.out hb2))
  obtain ⟨⟨k0, k1⟩, -⟩ := box_cells2 (box_next Y3.out hb2)
  have hp := Lib.hid (bt hp.out hb2)
  have WI := Lib.hid hir
  clear hb2 hir Y3
  go_wp2_with fail
  refine (HPK.out _ (HA.out _ hp.out)).mono ?_
  rintro e w3 ⟨rfl, hb3⟩
  have WI := Lib.hid (WI.out.below hb3)
  have hp := Lib.hid (bt hp.out hb3)
  have k0 := ((bcell hb3).1 _ _ HLT.out).trans k0
  have k1 := ((bcell hb3).1 _ _ HLT.out).trans k1
  have HLT := Lib.hid (Nat.lt_of_lt_of_le HLT.out hb3.size)
  clear hb3
  have hRR : ((R : Int) == (R : Int)) = true := by simp
  have hnn : ((n : Int) == (n : Int)) = true := by simp
  by_cases hk0 : 0 ≤ k
  · obtain ⟨q, rfl⟩ : ∃ q : Nat, k = (q : Int) := ⟨k.toNat, by omega⟩
    by_cases hk1 : q < n
    · have hv := HV.out
      rw [if_pos ⟨hk0, by omega⟩] at hv
      rw [hv]
      obtain ⟨h2, hz⟩ := HZG.out q (by rw [← HNW.out]; exact hk1)
      obtain ⟨gw, ow, rfl, _, hcw⟩ := WI.out (by omega)
      have cw0 := hcw q h2
      rw [hz] at cw0
      have kI : (q : Int) < (n : Int) := by omega
      simp only [Int.toNat_natCast]
      clear hcw hz h2 hv HV HZG
      generalize (whereL P).getD q 0 = y at *
      have hyy : ((y : Int) != (y : Int)) = false := by simp
      go_wp2_with fail
      refine (HAL.out _ (HA.out _ hp.out)).mono ?_
      rintro e w5 ⟨Bs, aB, cB, rfl, hBs, hbx, hbr, hba, hb5⟩
      have WI := Lib.hid (WI.out.below hb5)
      have hp := Lib.hid (bt hp.out hb5)
      have k0 := ((bcell hb5).1 _ _ HLT.out).trans k0
      have k1 := ((bcell hb5).1 _ _ HLT.out).trans k1
      have HLT := Lib.hid (Nat.lt_of_lt_of_le HLT.out hb5.size)
      have ZB := Lib.hid hbx
      have RA := Lib.hid hbr
      have AA := Lib.hid (fun (x : Addr) (e : aB = some x) => (hba x e).2)
      have HTD := Lib.hid (fun (stop : Int) (W : World) (h1 : W.heap[Bs]? = some (.cells #[.int .i64 (t.length : Int), .slice aB P.length cB] 25 (0, 0))) (h2 : BRd W aB P) (h3 : ∀ x, aB = some x → x.block < W.heap.size) (h4 : IRd W (some ⟨gw, ow, none⟩) zs) => told_any Bs (t.length : Int) aB cB P (some ⟨gw, ow, none⟩) cw n stop W HPB.out h1 h2 h3 HNW.out (by rw [← HZS.out]; exact h4))
      clear hBs hbx hbr hba hb5
      go_wp2_with fail
      go_region_held3 (fun W => W.cell? ⟨w.heap.size, 0, none⟩ = some (.int .i64 N) ∧ W.cell? ⟨w.heap.size, 1, none⟩ = some (.slice A m.length c)) (first | exact ⟨k0, k1⟩ | go_keep) (first
        | (go_at_call 12; refine (begun_any _).mono ?_; rintro e w9 ⟨rfl, hb9⟩; replace k0 := ((bcell hb9).1 _ _ HLT.out).trans k0; replace k1 := ((bcell hb9).1 _ _ HLT.out).trans k1; replace hp := Lib.hid (show Below w.heap.size w w9 from by first | exact bt hp.out hb9 | exact bt hp.out.drew hb9); (first | replace WI := Lib.hid (WI.out.below hb9) | replace WI := Lib.hid (ird_onD WI.out hb9) | skip); (first | replace RA := Lib.hid (RA.out.below hb9) | replace RA := Lib.hid (brd_onD RA.out hb9) | skip); replace HLT := Lib.hid (Nat.lt_of_lt_of_le HLT.out hb9.size); (first | replace ZB := Lib.hid (box_next ZB.out hb9) | replace ZB := Lib.hid (box_onD ZB.out hb9) | skip); replace AA := Lib.hid (fun (x : Addr) (e : aB = some x) => Nat.lt_of_lt_of_le (AA.out x e) hb9.size); clear hb9)
        | (go_at_call 43; refine (HCN.out _ (HA.out _ (by first | exact hp.out | exact hp.out.drew))).mono ?_; rintro e w9 ⟨rfl, hb9⟩; replace k0 := ((bcell hb9).1 _ _ HLT.out).trans k0; replace k1 := ((bcell hb9).1 _ _ HLT.out).trans k1; replace hp := Lib.hid (show Below w.heap.size w w9 from by first | exact bt hp.out hb9 | exact bt hp.out.drew hb9); (first | replace WI := Lib.hid (WI.out.below hb9) | replace WI := Lib.hid (ird_onD WI.out hb9) | skip); (first | replace RA := Lib.hid (RA.out.below hb9) | replace RA := Lib.hid (brd_onD RA.out hb9) | skip); replace HLT := Lib.hid (Nat.lt_of_lt_of_le HLT.out hb9.size); (first | replace ZB := Lib.hid (box_next ZB.out hb9) | replace ZB := Lib.hid (box_onD ZB.out hb9) | skip); replace AA := Lib.hid (fun (x : Addr) (e : aB = some x) => Nat.lt_of_lt_of_le (AA.out x e) hb9.size); clear hb9)
        | (go_at_call 44; refine (HRK.out _ (HA.out _ (by first | exact hp.out | exact hp.out.drew))).mono ?_; rintro e w9 ⟨rfl, hb9⟩; replace k0 := ((bcell hb9).1 _ _ HLT.out).trans k0; replace k1 := ((bcell hb9).1 _ _ HLT.out).trans k1; replace hp := Lib.hid (show Below w.heap.size w w9 from by first | exact bt hp.out hb9 | exact bt hp.out.drew hb9); (first | replace WI := Lib.hid (WI.out.below hb9) | replace WI := Lib.hid (ird_onD WI.out hb9) | skip); (first | replace RA := Lib.hid (RA.out.below hb9) | replace RA := Lib.hid (brd_onD RA.out hb9) | skip); replace HLT := Lib.hid (Nat.lt_of_lt_of_le HLT.out hb9.size); (first | replace ZB := Lib.hid (box_next ZB.out hb9) | replace ZB := Lib.hid (box_onD ZB.out hb9) | skip); replace AA := Lib.hid (fun (x : Addr) (e : aB = some x) => Nat.lt_of_lt_of_le (AA.out x e) hb9.size); clear hb9)
        | (go_at_call 45; refine (HRR.out _ (HA.out _ (by first | exact hp.out | exact hp.out.drew))).mono ?_; rintro e w9 ⟨rfl, hb9⟩; replace k0 := ((bcell hb9).1 _ _ HLT.out).trans k0; replace k1 := ((bcell hb9).1 _ _ HLT.out).trans k1; replace hp := Lib.hid (show Below w.heap.size w w9 from by first | exact bt hp.out hb9 | exact bt hp.out.drew hb9); (first | replace WI := Lib.hid (WI.out.below hb9) | replace WI := Lib.hid (ird_onD WI.out hb9) | skip); (first | replace RA := Lib.hid (RA.out.below hb9) | replace RA := Lib.hid (brd_onD RA.out hb9) | skip); replace HLT := Lib.hid (Nat.lt_of_lt_of_le HLT.out hb9.size); (first | replace ZB := Lib.hid (box_next ZB.out hb9) | replace ZB := Lib.hid (box_onD ZB.out hb9) | skip); replace AA := Lib.hid (fun (x : Addr) (e : aB = some x) => Nat.lt_of_lt_of_le (AA.out x e) hb9.size); clear hb9)
        | (go_at_call 46; refine (HTD.out _ _ ZB.out RA.out AA.out WI.out).mono ?_; rintro e w9 ⟨rfl, hb9⟩; replace k0 := ((bcell hb9).1 _ _ HLT.out).trans k0; replace k1 := ((bcell hb9).1 _ _ HLT.out).trans k1; replace hp := Lib.hid (show Below w.heap.size w w9 from by first | exact bt hp.out hb9 | exact bt hp.out.drew hb9); (first | replace WI := Lib.hid (WI.out.below hb9) | replace WI := Lib.hid (ird_onD WI.out hb9) | skip); (first | replace RA := Lib.hid (RA.out.below hb9) | replace RA := Lib.hid (brd_onD RA.out hb9) | skip); replace HLT := Lib.hid (Nat.lt_of_lt_of_le HLT.out hb9.size); (first | replace ZB := Lib.hid (box_next ZB.out hb9) | replace ZB := Lib.hid (box_onD ZB.out hb9) | skip); replace AA := Lib.hid (fun (x : Addr) (e : aB = some x) => Nat.lt_of_lt_of_le (AA.out x e) hb9.size); clear hb9))
      go_wp2_with fail
      go_ret
      exact ⟨rfl, hp.out⟩
    · have hv := HV.out
      rw [if_neg (by omega)] at hv
      rw [hv]
      have kI : ¬ (q : Int) < (n : Int) := by omega
      clear hv HV HZG
      go_wp2_with fail
      refine (HAL.out _ (HA.out _ hp.out)).mono ?_
      rintro e w5 ⟨Bs, aB, cB, rfl, hBs, hbx, hbr, hba, hb5⟩
      have WI := Lib.hid (WI.out.below hb5)
      have hp := Lib.hid (bt hp.out hb5)
      have k0 := ((bcell hb5).1 _ _ HLT.out).trans k0
      have k1 := ((bcell hb5).1 _ _ HLT.out).trans k1
      have HLT := Lib.hid (Nat.lt_of_lt_of_le HLT.out hb5.size)
      have ZB := Lib.hid hbx
      have RA := Lib.hid hbr
      have AA := Lib.hid (fun (x : Addr) (e : aB = some x) => (hba x e).2)
      have HTD := Lib.hid (fun (stop : Int) (W : World) (h1 : W.heap[Bs]? = some (.cells #[.int .i64 (t.length : Int), .slice aB P.length cB] 25 (0, 0))) (h2 : BRd W aB P) (h3 : ∀ x, aB = some x → x.block < W.heap.size) (h4 : IRd W aw zs) => told_any Bs (t.length : Int) aB cB P aw cw n stop W HPB.out h1 h2 h3 HNW.out (by rw [← HZS.out]; exact h4))
      clear hBs hbx hbr hba hb5
      go_wp2_with fail
      go_region_held3 (fun W => W.cell? ⟨w.heap.size, 0, none⟩ = some (.int .i64 N) ∧ W.cell? ⟨w.heap.size, 1, none⟩ = some (.slice A m.length c)) (first | exact ⟨k0, k1⟩ | go_keep) (first
        | (go_at_call 12; refine (begun_any _).mono ?_; rintro e w9 ⟨rfl, hb9⟩; replace k0 := ((bcell hb9).1 _ _ HLT.out).trans k0; replace k1 := ((bcell hb9).1 _ _ HLT.out).trans k1; replace hp := Lib.hid (show Below w.heap.size w w9 from by first | exact bt hp.out hb9 | exact bt hp.out.drew hb9); (first | replace WI := Lib.hid (WI.out.below hb9) | replace WI := Lib.hid (ird_onD WI.out hb9) | skip); (first | replace RA := Lib.hid (RA.out.below hb9) | replace RA := Lib.hid (brd_onD RA.out hb9) | skip); replace HLT := Lib.hid (Nat.lt_of_lt_of_le HLT.out hb9.size); (first | replace ZB := Lib.hid (box_next ZB.out hb9) | replace ZB := Lib.hid (box_onD ZB.out hb9) | skip); replace AA := Lib.hid (fun (x : Addr) (e : aB = some x) => Nat.lt_of_lt_of_le (AA.out x e) hb9.size); clear hb9)
        | (go_at_call 43; refine (HCN.out _ (HA.out _ (by first | exact hp.out | exact hp.out.drew))).mono ?_; rintro e w9 ⟨rfl, hb9⟩; replace k0 := ((bcell hb9).1 _ _ HLT.out).trans k0; replace k1 := ((bcell hb9).1 _ _ HLT.out).trans k1; replace hp := Lib.hid (show Below w.heap.size w w9 from by first | exact bt hp.out hb9 | exact bt hp.out.drew hb9); (first | replace WI := Lib.hid (WI.out.below hb9) | replace WI := Lib.hid (ird_onD WI.out hb9) | skip); (first | replace RA := Lib.hid (RA.out.below hb9) | replace RA := Lib.hid (brd_onD RA.out hb9) | skip); replace HLT := Lib.hid (Nat.lt_of_lt_of_le HLT.out hb9.size); (first | replace ZB := Lib.hid (box_next ZB.out hb9) | replace ZB := Lib.hid (box_onD ZB.out hb9) | skip); replace AA := Lib.hid (fun (x : Addr) (e : aB = some x) => Nat.lt_of_lt_of_le (AA.out x e) hb9.size); clear hb9)
        | (go_at_call 44; refine (HRK.out _ (HA.out _ (by first | exact hp.out | exact hp.out.drew))).mono ?_; rintro e w9 ⟨rfl, hb9⟩; replace k0 := ((bcell hb9).1 _ _ HLT.out).trans k0; replace k1 := ((bcell hb9).1 _ _ HLT.out).trans k1; replace hp := Lib.hid (show Below w.heap.size w w9 from by first | exact bt hp.out hb9 | exact bt hp.out.drew hb9); (first | replace WI := Lib.hid (WI.out.below hb9) | replace WI := Lib.hid (ird_onD WI.out hb9) | skip); (first | replace RA := Lib.hid (RA.out.below hb9) | replace RA := Lib.hid (brd_onD RA.out hb9) | skip); replace HLT := Lib.hid (Nat.lt_of_lt_of_le HLT.out hb9.size); (first | replace ZB := Lib.hid (box_next ZB.out hb9) | replace ZB := Lib.hid (box_onD ZB.out hb9) | skip); replace AA := Lib.hid (fun (x : Addr) (e : aB = some x) => Nat.lt_of_lt_of_le (AA.out x e) hb9.size); clear hb9)
        | (go_at_call 45; refine (HRR.out _ (HA.out _ (by first | exact hp.out | exact hp.out.drew))).mono ?_; rintro e w9 ⟨rfl, hb9⟩; replace k0 := ((bcell hb9).1 _ _ HLT.out).trans k0; replace k1 := ((bcell hb9).1 _ _ HLT.out).trans k1; replace hp := Lib.hid (show Below w.heap.size w w9 from by first | exact bt hp.out hb9 | exact bt hp.out.drew hb9); (first | replace WI := Lib.hid (WI.out.below hb9) | replace WI := Lib.hid (ird_onD WI.out hb9) | skip); (first | replace RA := Lib.hid (RA.out.below hb9) | replace RA := Lib.hid (brd_onD RA.out hb9) | skip); replace HLT := Lib.hid (Nat.lt_of_lt_of_le HLT.out hb9.size); (first | replace ZB := Lib.hid (box_next ZB.out hb9) | replace ZB := Lib.hid (box_onD ZB.out hb9) | skip); replace AA := Lib.hid (fun (x : Addr) (e : aB = some x) => Nat.lt_of_lt_of_le (AA.out x e) hb9.size); clear hb9)
        | (go_at_call 46; refine (HTD.out _ _ ZB.out RA.out AA.out WI.out).mono ?_; rintro e w9 ⟨rfl, hb9⟩; replace k0 := ((bcell hb9).1 _ _ HLT.out).trans k0; replace k1 := ((bcell hb9).1 _ _ HLT.out).trans k1; replace hp := Lib.hid (show Below w.heap.size w w9 from by first | exact bt hp.out hb9 | exact bt hp.out.drew hb9); (first | replace WI := Lib.hid (WI.out.below hb9) | replace WI := Lib.hid (ird_onD WI.out hb9) | skip); (first | replace RA := Lib.hid (RA.out.below hb9) | replace RA := Lib.hid (brd_onD RA.out hb9) | skip); replace HLT := Lib.hid (Nat.lt_of_lt_of_le HLT.out hb9.size); (first | replace ZB := Lib.hid (box_next ZB.out hb9) | replace ZB := Lib.hid (box_onD ZB.out hb9) | skip); replace AA := Lib.hid (fun (x : Addr) (e : aB = some x) => Nat.lt_of_lt_of_le (AA.out x e) hb9.size); clear hb9))
      go_wp2_with fail
      go_ret
      exact ⟨rfl, hp.out⟩
  · have hv := HV.out
    rw [if_neg (by omega)] at hv
    rw [hv]
    clear hv HV HZG
    · go_wp2_with fail
      refine (HAL.out _ (HA.out _ hp.out)).mono ?_
      rintro e w5 ⟨Bs, aB, cB, rfl, hBs, hbx, hbr, hba, hb5⟩
      have WI := Lib.hid (WI.out.below hb5)
      have hp := Lib.hid (bt hp.out hb5)
      have k0 := ((bcell hb5).1 _ _ HLT.out).trans k0
      have k1 := ((bcell hb5).1 _ _ HLT.out).trans k1
      have HLT := Lib.hid (Nat.lt_of_lt_of_le HLT.out hb5.size)
      have ZB := Lib.hid hbx
      have RA := Lib.hid hbr
      have AA := Lib.hid (fun (x : Addr) (e : aB = some x) => (hba x e).2)
      have HTD := Lib.hid (fun (stop : Int) (W : World) (h1 : W.heap[Bs]? = some (.cells #[.int .i64 (t.length : Int), .slice aB P.length cB] 25 (0, 0))) (h2 : BRd W aB P) (h3 : ∀ x, aB = some x → x.block < W.heap.size) (h4 : IRd W aw zs) => told_any Bs (t.length : Int) aB cB P aw cw n stop W HPB.out h1 h2 h3 HNW.out (by rw [← HZS.out]; exact h4))
      clear hBs hbx hbr hba hb5
      go_wp2_with fail
      go_region_held3 (fun W => W.cell? ⟨w.heap.size, 0, none⟩ = some (.int .i64 N) ∧ W.cell? ⟨w.heap.size, 1, none⟩ = some (.slice A m.length c)) (first | exact ⟨k0, k1⟩ | go_keep) (first
        | (go_at_call 12; refine (begun_any _).mono ?_; rintro e w9 ⟨rfl, hb9⟩; replace k0 := ((bcell hb9).1 _ _ HLT.out).trans k0; replace k1 := ((bcell hb9).1 _ _ HLT.out).trans k1; replace hp := Lib.hid (show Below w.heap.size w w9 from by first | exact bt hp.out hb9 | exact bt hp.out.drew hb9); (first | replace WI := Lib.hid (WI.out.below hb9) | replace WI := Lib.hid (ird_onD WI.out hb9) | skip); (first | replace RA := Lib.hid (RA.out.below hb9) | replace RA := Lib.hid (brd_onD RA.out hb9) | skip); replace HLT := Lib.hid (Nat.lt_of_lt_of_le HLT.out hb9.size); (first | replace ZB := Lib.hid (box_next ZB.out hb9) | replace ZB := Lib.hid (box_onD ZB.out hb9) | skip); replace AA := Lib.hid (fun (x : Addr) (e : aB = some x) => Nat.lt_of_lt_of_le (AA.out x e) hb9.size); clear hb9)
        | (go_at_call 43; refine (HCN.out _ (HA.out _ (by first | exact hp.out | exact hp.out.drew))).mono ?_; rintro e w9 ⟨rfl, hb9⟩; replace k0 := ((bcell hb9).1 _ _ HLT.out).trans k0; replace k1 := ((bcell hb9).1 _ _ HLT.out).trans k1; replace hp := Lib.hid (show Below w.heap.size w w9 from by first | exact bt hp.out hb9 | exact bt hp.out.drew hb9); (first | replace WI := Lib.hid (WI.out.below hb9) | replace WI := Lib.hid (ird_onD WI.out hb9) | skip); (first | replace RA := Lib.hid (RA.out.below hb9) | replace RA := Lib.hid (brd_onD RA.out hb9) | skip); replace HLT := Lib.hid (Nat.lt_of_lt_of_le HLT.out hb9.size); (first | replace ZB := Lib.hid (box_next ZB.out hb9) | replace ZB := Lib.hid (box_onD ZB.out hb9) | skip); replace AA := Lib.hid (fun (x : Addr) (e : aB = some x) => Nat.lt_of_lt_of_le (AA.out x e) hb9.size); clear hb9)
        | (go_at_call 44; refine (HRK.out _ (HA.out _ (by first | exact hp.out | exact hp.out.drew))).mono ?_; rintro e w9 ⟨rfl, hb9⟩; replace k0 := ((bcell hb9).1 _ _ HLT.out).trans k0; replace k1 := ((bcell hb9).1 _ _ HLT.out).trans k1; replace hp := Lib.hid (show Below w.heap.size w w9 from by first | exact bt hp.out hb9 | exact bt hp.out.drew hb9); (first | replace WI := Lib.hid (WI.out.below hb9) | replace WI := Lib.hid (ird_onD WI.out hb9) | skip); (first | replace RA := Lib.hid (RA.out.below hb9) | replace RA := Lib.hid (brd_onD RA.out hb9) | skip); replace HLT := Lib.hid (Nat.lt_of_lt_of_le HLT.out hb9.size); (first | replace ZB := Lib.hid (box_next ZB.out hb9) | replace ZB := Lib.hid (box_onD ZB.out hb9) | skip); replace AA := Lib.hid (fun (x : Addr) (e : aB = some x) => Nat.lt_of_lt_of_le (AA.out x e) hb9.size); clear hb9)
        | (go_at_call 45; refine (HRR.out _ (HA.out _ (by first | exact hp.out | exact hp.out.drew))).mono ?_; rintro e w9 ⟨rfl, hb9⟩; replace k0 := ((bcell hb9).1 _ _ HLT.out).trans k0; replace k1 := ((bcell hb9).1 _ _ HLT.out).trans k1; replace hp := Lib.hid (show Below w.heap.size w w9 from by first | exact bt hp.out hb9 | exact bt hp.out.drew hb9); (first | replace WI := Lib.hid (WI.out.below hb9) | replace WI := Lib.hid (ird_onD WI.out hb9) | skip); (first | replace RA := Lib.hid (RA.out.below hb9) | replace RA := Lib.hid (brd_onD RA.out hb9) | skip); replace HLT := Lib.hid (Nat.lt_of_lt_of_le HLT.out hb9.size); (first | replace ZB := Lib.hid (box_next ZB.out hb9) | replace ZB := Lib.hid (box_onD ZB.out hb9) | skip); replace AA := Lib.hid (fun (x : Addr) (e : aB = some x) => Nat.lt_of_lt_of_le (AA.out x e) hb9.size); clear hb9)
        | (go_at_call 46; refine (HTD.out _ _ ZB.out RA.out AA.out WI.out).mono ?_; rintro e w9 ⟨rfl, hb9⟩; replace k0 := ((bcell hb9).1 _ _ HLT.out).trans k0; replace k1 := ((bcell hb9).1 _ _ HLT.out).trans k1; replace hp := Lib.hid (show Below w.heap.size w w9 from by first | exact bt hp.out hb9 | exact bt hp.out.drew hb9); (first | replace WI := Lib.hid (WI.out.below hb9) | replace WI := Lib.hid (ird_onD WI.out hb9) | skip); (first | replace RA := Lib.hid (RA.out.below hb9) | replace RA := Lib.hid (brd_onD RA.out hb9) | skip); replace HLT := Lib.hid (Nat.lt_of_lt_of_le HLT.out hb9.size); (first | replace ZB := Lib.hid (box_next ZB.out hb9) | replace ZB := Lib.hid (box_onD ZB.out hb9) | skip); replace AA := Lib.hid (fun (x : Addr) (e : aB = some x) => Nat.lt_of_lt_of_le (AA.out x e) hb9.size); clear hb9))
      go_wp2_with fail
      go_ret
      exact ⟨rfl, hp.out⟩

set_option maxRecDepth 100000 in
theorem bitsCounts_lifted (os : Os) (started : os.Started) (H : Type) (enc : TypeId × Value → H) :
    ReturnsInHanded {} Try.checked os 6 .any (Rows.bitsCountsSpec.pre6 enc Try.prog Try.f6 Rows.bitsCountsRow.domain false) (Rows.bitsCountsSpec.post enc Try.prog Try.f6 false true false false) := by
  refine returnsInHanded_of_change_sized (C := Try.checked) own started (by kernel_rfl) Try.func6
    (ChangeSpec.witness6 (enc := enc) (C := Try.checked) false ⟨#[], #[.agg #[.int .i64 0, .slice none 0 0], .int .i64 0, .int .i64 0, .int .i64 0], []⟩ 8 (by kernel_rfl) (by kernel_rfl) (by kernel_rfl) (by kernel_rfl)) ?_
  intro W base args ds gs before hval0 hW _ hsz _
  have hval : ∀ (j : Nat) t v, Try.f6.params[j]? = some t → args[j]? = some v → Value.okWide Try.prog W .any base t v := hval0
  have hW' := hW
  obtain ⟨p, q, hA0, hV, rfl, hfz, hnd⟩ := hW
  have hA : DataW.TrodAll enc Try.prog W 0 (fun _ => true) true Try.f6.params.toList args.toList ds p := hA0
  rw [Try.params6] at hA hval
  obtain ⟨v0, vs0, d0, ds0, p0, q0, hargs, rfl, rfl, h0, r0⟩ := trodAll_cons hA
  obtain ⟨v1, vs1, d1, ds1, p1, q1, rfl, rfl, rfl, h1, r1⟩ := trodAll_cons r0
  obtain ⟨v2, vs2, d2, ds2, p2, q2, rfl, rfl, rfl, h2, r2⟩ := trodAll_cons r1
  obtain ⟨v3, vs3, d3, ds3, p3, q3, rfl, rfl, rfl, h3, r3⟩ := trodAll_cons r2
  obtain ⟨rfl, rfl, rfl⟩ := trodAll_nil r3
  obtain rfl : args = #[v0, v1, v2, v3] := by cases args; simp_all
  obtain ⟨rfl, rfl⟩ := trodVars_none hV
  simp only [List.append_nil] at hW'
  have hlt0 : ∀ x ∈ p0, x.block < W.heap.size := fun x hx => hW'.lt x (by simp [hx])
  have hlt1 : ∀ x ∈ p1, x.block < W.heap.size := fun x hx => hW'.lt x (by simp [hx])
  have hlt2 : ∀ x ∈ p2, x.block < W.heap.size := fun x hx => hW'.lt x (by simp [hx])
  have hlt3 : ∀ x ∈ p3, x.block < W.heap.size := fun x hx => hW'.lt x (by simp [hx])
  have hreach : reachBytes ≤ 140737488351232 := by decide
  obtain ⟨bb, rfl, rd0, ok0, sy0⟩ := open_bits (hval 0 25 v0 rfl rfl) h0
  have b0 : bb.l.length ≤ reachBytes := by
    rcases sy0.weight with h0 | ⟨n, hn, hle⟩
    · rw [h0]; exact Nat.zero_le _
    · have := List.all_eq_true.1 hsz _ (DataW.weights_mem_each (j := 0) (t := 25) rfl rfl _ hn)
      have : n ≤ reachBytes := by simpa using this
      omega
  obtain ⟨ii, rfl, -, -, w1⟩ := open_int Try.underlying3 (hval 1 3 v1 rfl rfl) h1
  have i1 := in64_of w1
  obtain ⟨kk, rfl, -, -, w2⟩ := open_int Try.underlying3 (hval 2 3 v2 rfl rfl) h2
  have i2 := in64_of w2
  obtain ⟨ss, rfl, -, -, w3⟩ := open_int Try.underlying3 (hval 3 3 v3 rfl rfl) h3
  have i3 := in64_of w3
  clear hA0 hval0
  refine (bitsCounts_walk bb.N bb.A bb.c bb.l ii kk ss W rd0 ok0.c ok0.a (by omega)).mono fun e W' ⟨he, hg⟩ => ?_
  subst he
  have hpost : Rows.bitsCountsSpec.post enc Try.prog Try.f6 false true false false W _ _ W' := post_of_below (pa := p0 ++ (p1 ++ (p2 ++ (p3 ++ [])))) (pv := []) hW' (fun _ _ _ => (trodAll_cons_mk (shut_bool Try.underlying4 _) trodAll_mk0)) (fun sp hsp => (trodAll_cons_mk (WideElems.Trod_stays laidOut (by kernel_rfl) (of_decide_eq_true (by kernel_rfl)) h0 (fun x hx => hg.same (hlt0 x hx)) (fun x hx => hsp x (by simp [hx]))) (trodAll_cons_mk (WideElems.Trod_stays laidOut (by kernel_rfl) (of_decide_eq_true (by kernel_rfl)) h1 (fun x hx => hg.same (hlt1 x hx)) (fun x hx => hsp x (by simp [hx]))) (trodAll_cons_mk (WideElems.Trod_stays laidOut (by kernel_rfl) (of_decide_eq_true (by kernel_rfl)) h2 (fun x hx => hg.same (hlt2 x hx)) (fun x hx => hsp x (by simp [hx]))) (trodAll_cons_mk (WideElems.Trod_stays laidOut (by kernel_rfl) (of_decide_eq_true (by kernel_rfl)) h3 (fun x hx => hg.same (hlt3 x hx)) (fun x hx => hsp x (by simp [hx]))) trodAll_mk0))))) (fun _ _ => rfl) (by simp) hg (ok_one (by kernel_rfl) rfl (okWide_bool_mk Try.underlying4 _))
  exact ⟨_, rfl, hpost⟩

theorem bitsCounts_holds : Rows.BitsCountsSaid :=
  OpenClaim.holds_of_wide 6 Try.f6 rfl rfl rfl rfl rfl rfl rfl ⟨rfl, rfl, rfl, rfl, rfl⟩ rfl rfl rfl rfl rfl (by kernel_rfl) Try.func6 (by kernel_rfl)
    (of_decide_eq_true (by kernel_rfl)) (by unfold Func.isWrapper; first | (rw [if_pos (by decide +kernel)]; kernel_rfl) | (rw [if_neg (by decide +kernel)]; exact ⟨rfl, rfl⟩))
    (fun os started H enc _ => bitsCounts_lifted os started H enc)
end Go.Proofs.Ytpdffcopigajgaa
