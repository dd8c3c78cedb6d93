/-
  NumScales: any decimal with any other number of digits behind the point, and powers of ten, are the document's. Condition: the listed tables read as the program's text lays them (the card ties them).
-/
import Derived.Test.YtflkljenkhjnfaaDoorLaid
import Derived.Test.YtflkljenkhjnfaaDoorPost
import Derived.Test.YtflkljenkhjnfaaDoorCards
import Derived.SevenTiedAt
import Derived.Test.YtflkljenkhjnfaaDoorScale2
namespace Go.Proofs.YtflkljenkhjnfaaDoor
open Go.ChangeShapes Go.WideShapes Go.ChangeAt Go.RowKit
open Cal
set_option linter.unusedVariables false

set_option maxHeartbeats 1600000 in
theorem numScales_n1 (v f t : Int) (w : World) (hf : isScaleB f = false) (hM : MLaid w) (hP : PowLaid w) :
    Calls Tryd.prog 5 #[.int .i64 v, .int .i64 f, .int .i64 t] w fun e w' => e = .returned (.bool true) ∧ Below w.heap.size w w' := by
  go_enter Tryd.func5, Tryd.ntmps5
  have hB0 : Below w.heap.size w w := Below.refl _ _
  have hM0 := hM
  have hP0 := hP
  go_wp2_with fail
  refine (scale_no1 v f t _ hf).mono ?_
  rintro e w' ⟨rfl, rfl⟩
  go_wp2_with fail
  refine (refScale_no1 v f t _ hf).mono ?_
  rintro e w' ⟨rfl, rfl⟩
  go_wp2_with fail
  refine (pow10_no f hf _).mono ?_
  rintro e w' ⟨rfl, rfl⟩
  go_wp2_with fail
  refine (refPow10_no f hf _).mono ?_
  rintro e w' ⟨rfl, rfl⟩
  go_wp2_with fail
  refine (begun_any _ hM0 hP0).mono ?_
  rintro e w1 ⟨rfl, hb1⟩
  have hB1 := hB0.trans (hb1.mono hB0.size)
  have hM1 := hM.next hB1
  have hP1 := hP.below hB1
  clear hb1
  go_wp2_with fail
  refine (fits_any v _).mono ?_
  rintro e w' ⟨rfl, rfl⟩
  go_wp2_with fail
  refine (refFits_any v _).mono ?_
  rintro e w' ⟨rfl, rfl⟩
  go_wp2
  go_ret
  exact ⟨rfl, hB1⟩

set_option maxHeartbeats 1600000 in
theorem numScales_n2 (v : Int) (f : Nat) (t : Int) (w : World) (hf : f ≤ 18) (ht : isScaleB t = false) (hM : MLaid w) (hP : PowLaid w) :
    Calls Tryd.prog 5 #[.int .i64 v, .int .i64 f, .int .i64 t] w fun e w' => e = .returned (.bool true) ∧ Below w.heap.size w w' := by
  go_enter Tryd.func5, Tryd.ntmps5
  have hB0 : Below w.heap.size w w := Below.refl _ _
  have hM0 := hM
  have hP0 := hP
  go_wp2_with fail
  refine (scale_no2 v f t _ (isScale_yes hf) ht).mono ?_
  rintro e w' ⟨rfl, rfl⟩
  go_wp2_with fail
  refine (refScale_no2 v f t _ (isScale_yes hf) ht).mono ?_
  rintro e w' ⟨rfl, rfl⟩
  go_wp2_with fail
  refine (pow10_yes f hf _).mono ?_
  rintro e w' ⟨rfl, rfl⟩
  go_wp2_with fail
  refine (refPow10_yes f hf _).mono ?_
  rintro e w' ⟨rfl, rfl⟩
  go_wp2_with fail
  refine (begun_any _ hM0 hP0).mono ?_
  rintro e w1 ⟨rfl, hb1⟩
  have hB1 := hB0.trans (hb1.mono hB0.size)
  have hM1 := hM.next hB1
  have hP1 := hP.below hB1
  clear hb1
  go_wp2_with fail
  refine (fits_any v _).mono ?_
  rintro e w' ⟨rfl, rfl⟩
  go_wp2_with fail
  refine (refFits_any v _).mono ?_
  rintro e w' ⟨rfl, rfl⟩
  go_wp2
  go_ret
  exact ⟨rfl, hB1⟩

set_option maxHeartbeats 1600000 in
theorem numScales_n3 (v : Int) (f t : Nat) (w : World) (hf : f ≤ 18) (ht : t ≤ 18) (hv : fitsB v = false) (hM : MLaid w) (hP : PowLaid w) :
    Calls Tryd.prog 5 #[.int .i64 v, .int .i64 f, .int .i64 t] w fun e w' => e = .returned (.bool true) ∧ Below w.heap.size w w' := by
  go_enter Tryd.func5, Tryd.ntmps5
  have hB0 : Below w.heap.size w w := Below.refl _ _
  have hM0 := hM
  have hP0 := hP
  go_wp2_with fail
  refine (scale_nofit v f t _ (isScale_yes hf) (isScale_yes ht) hv).mono ?_
  rintro e w' ⟨rfl, rfl⟩
  go_wp2_with fail
  refine (refScale_nofit v f t _ (isScale_yes hf) (isScale_yes ht) hv).mono ?_
  rintro e w' ⟨rfl, rfl⟩
  go_wp2_with fail
  refine (pow10_yes f hf _).mono ?_
  rintro e w' ⟨rfl, rfl⟩
  go_wp2_with fail
  refine (refPow10_yes f hf _).mono ?_
  rintro e w' ⟨rfl, rfl⟩
  go_wp2_with fail
  refine (begun_any _ hM0 hP0).mono ?_
  rintro e w1 ⟨rfl, hb1⟩
  have hB1 := hB0.trans (hb1.mono hB0.size)
  have hM1 := hM.next hB1
  have hP1 := hP.below hB1
  clear hb1
  go_wp2_with fail
  refine (fits_any v _).mono ?_
  rintro e w' ⟨rfl, rfl⟩
  go_wp2_with fail
  refine (refFits_any v _).mono ?_
  rintro e w' ⟨rfl, rfl⟩
  go_wp2
  go_ret
  exact ⟨rfl, hB1⟩

set_option maxHeartbeats 1600000 in
theorem numScales_dn (v : Int) (f t : Nat) (w : World) (hf : f ≤ 18) (ht : t < f) (hv : fitsB v = true) (hM : MLaid w) (hP : PowLaid w) :
    Calls Tryd.prog 5 #[.int .i64 v, .int .i64 f, .int .i64 t] w fun e w' => e = .returned (.bool true) ∧ Below w.heap.size w w' := by
  go_enter Tryd.func5, Tryd.ntmps5
  have hB0 : Below w.heap.size w w := Below.refl _ _
  have hM0 := hM
  have hP0 := hP
  go_wp2_with fail
  refine (scale_down v f t _ hf ht hv).mono ?_
  rintro e w1 ⟨rfl, hb1⟩
  have hB1 := hB0.trans (hb1.mono hB0.size)
  have hM1 := hM.next hB1
  have hP1 := hP.below hB1
  clear hb1
  go_wp2_with fail
  refine (refScale_down v f t _ hf ht hv).mono ?_
  rintro e w' ⟨rfl, rfl⟩
  go_wp2_with fail
  refine (pow10_yes f hf _).mono ?_
  rintro e w' ⟨rfl, rfl⟩
  go_wp2_with fail
  refine (refPow10_yes f hf _).mono ?_
  rintro e w' ⟨rfl, rfl⟩
  go_wp2_with fail
  refine (begun_any _ hM1 hP1).mono ?_
  rintro e w2 ⟨rfl, hb2⟩
  have hB2 := hB1.trans (hb2.mono hB1.size)
  have hM2 := hM.next hB2
  have hP2 := hP.below hB2
  clear hb2
  go_wp2_with fail
  refine (fits_any v _).mono ?_
  rintro e w' ⟨rfl, rfl⟩
  go_wp2_with fail
  refine (refFits_any v _).mono ?_
  rintro e w' ⟨rfl, rfl⟩
  go_wp2
  go_ret
  exact ⟨rfl, hB2⟩

set_option maxHeartbeats 1600000 in
theorem numScales_up (v : Int) (f t : Nat) (w : World) (hf : f ≤ t) (ht : t ≤ 18) (hv : fitsB v = true) (hM : MLaid w) (hP : PowLaid w) :
    Calls Tryd.prog 5 #[.int .i64 v, .int .i64 f, .int .i64 t] w fun e w' => e = .returned (.bool true) ∧ Below w.heap.size w w' := by
  go_enter Tryd.func5, Tryd.ntmps5
  have hB0 : Below w.heap.size w w := Below.refl _ _
  have hM0 := hM
  have hP0 := hP
  go_wp2_with fail
  refine (scale_up v f t _ hf ht hv).mono ?_
  rintro e w1 ⟨rfl, hb1⟩
  have hB1 := hB0.trans (hb1.mono hB0.size)
  have hM1 := hM.next hB1
  have hP1 := hP.below hB1
  clear hb1
  go_wp2_with fail
  refine (refScale_up v f t _ hf ht hv).mono ?_
  rintro e w' ⟨rfl, rfl⟩
  go_wp2_with fail
  refine (pow10_yes f (Nat.le_trans hf ht) _).mono ?_
  rintro e w' ⟨rfl, rfl⟩
  go_wp2_with fail
  refine (refPow10_yes f (Nat.le_trans hf ht) _).mono ?_
  rintro e w' ⟨rfl, rfl⟩
  go_wp2_with fail
  refine (begun_any _ hM1 hP1).mono ?_
  rintro e w2 ⟨rfl, hb2⟩
  have hB2 := hB1.trans (hb2.mono hB1.size)
  have hM2 := hM.next hB2
  have hP2 := hP.below hB2
  clear hb2
  go_wp2_with fail
  refine (fits_any v _).mono ?_
  rintro e w' ⟨rfl, rfl⟩
  go_wp2_with fail
  refine (refFits_any v _).mono ?_
  rintro e w' ⟨rfl, rfl⟩
  go_wp2
  go_ret
  exact ⟨rfl, hB2⟩

theorem numScales_walk (v f t : Int) (w : World) (_ : In64 v) (_ : In64 f) (_ : In64 t) (hM : MLaid w) (hP : PowLaid w) :
    Calls Tryd.prog 5 #[.int .i64 v, .int .i64 f, .int .i64 t] w fun e w' => e = .returned (.bool true) ∧ Below w.heap.size w w' := by
  cases hf : isScaleB f
  · exact numScales_n1 v f t w hf hM hP
  · obtain ⟨f', rfl⟩ : ∃ k : Nat, f = k := ⟨f.toNat, by have := scale_in hf; omega⟩
    have hf' : f' ≤ 18 := by have := scale_in hf; omega
    cases ht : isScaleB t
    · exact numScales_n2 v f' t w hf' ht hM hP
    · obtain ⟨t', rfl⟩ : ∃ k : Nat, t = k := ⟨t.toNat, by have := scale_in ht; omega⟩
      have ht' : t' ≤ 18 := by have := scale_in ht; omega
      cases hv : fitsB v
      · exact numScales_n3 v f' t' w hf' ht' hv hM hP
      · by_cases hc : t' < f'
        · exact numScales_dn v f' t' w hf' hc hv hM hP
        · exact numScales_up v f' t' w (by omega) ht' hv hM hP

set_option maxRecDepth 100000 in
theorem numScales_lifted (os : Os) (started : os.Started) (H : Type) (enc : TypeId × Value → H) :
    ReturnsInHanded {} Tryd.checked os 5 .any (fun w args => (Rows.numScalesSpec.pre enc Tryd.prog Tryd.f5 [] false w args ∧ laidMetH Tryd.prog laid4 w) ∧ sizedMet enc Tryd.prog Tryd.f5 (OpenSpec.ofChange Rows.numScalesSpec) false w args)
      (Rows.numScalesSpec.post enc Tryd.prog Tryd.f5 false true false false) := by
  refine returnsInHanded_of_change_and (C := Tryd.checked) (X := fun w _ => laidMetH Tryd.prog laid4 w) (fun _ _ _ hh h => h.of_heap hh) own started (by kernel_rfl) Tryd.func5
    (ChangeSpec.witness_shaped (enc := enc) (C := Tryd.checked) (os := os) (X := fun w _ => laidMetH Tryd.prog laid4 w) false (World.doorLaid Tryd.prog 400 os) #[.int .i64 0, .int .i64 0, .int .i64 0] 8 rfl (World.shaped_of_RefB (by kernel_rfl) (by kernel_rfl)) (by kernel_rfl) (by kernel_rfl) (by kernel_rfl) (door_met4 os _)) ?_
  intro W base args ds gs before hval0 hW _ _ hL _
  have hval : ∀ (j : Nat) t v, Tryd.f5.params[j]? = some t → args[j]? = some v → Value.okWide Tryd.prog W .any base t v := hval0
  have hW' := hW
  obtain ⟨p, q, hA0, hV, rfl, hfz, hnd⟩ := hW
  have hA : DataW.TrodAll enc Tryd.prog W 0 (fun _ => true) true Tryd.f5.params.toList args.toList ds p := hA0
  rw [Tryd.params5] at hA hval
  obtain ⟨v0, vs0, d0, ds0, p0, q0, hargs, rfl, rfl, h0, r0⟩ := trodAll_cons hA
  obtain ⟨v1, vs1, d1, ds1, p1, q1, rfl, rfl, rfl, h1, r1⟩ := trodAll_cons r0
  obtain ⟨v2, vs2, d2, ds2, p2, q2, rfl, rfl, rfl, h2, r2⟩ := trodAll_cons r1
  obtain ⟨rfl, rfl, rfl⟩ := trodAll_nil r2
  obtain rfl : args = #[v0, v1, v2] := by cases args; simp_all
  obtain ⟨rfl, rfl⟩ := trodVars_none hV
  obtain ⟨v, rfl, rfl, rfl, w0⟩ := open_int Tryd.underlying2 (hval 0 2 v0 rfl rfl) h0
  obtain ⟨f, rfl, rfl, rfl, w1⟩ := open_int Tryd.underlying3 (hval 1 3 v1 rfl rfl) h1
  obtain ⟨t, rfl, rfl, rfl, w2⟩ := open_int Tryd.underlying3 (hval 2 3 v2 rfl rfl) h2
  obtain ⟨hM, hP⟩ := of_laid4 hL
  clear hA0 hval0
  simp only [List.append_nil] at hW'
  refine (numScales_walk v f t W (in64_of w0) (in64_of w1) (in64_of w2) hM hP).mono fun e W' ⟨he, hg⟩ => ?_
  subst he
  exact ⟨_, rfl, post_of_below (pa := []) (pv := []) hW' (fun _ _ _ => (trodAll_cons_mk (shut_bool Tryd.underlying4 _) trodAll_mk0)) (fun sp _ => (trodAll_cons_mk (shut_int Tryd.underlying2 w0) (trodAll_cons_mk (shut_int Tryd.underlying3 w1) (trodAll_cons_mk (shut_int Tryd.underlying3 w2) trodAll_mk0)))) (fun _ _ => rfl) rfl hg (ok_one (by kernel_rfl) rfl (okWide_bool_mk Tryd.underlying4 _))⟩

theorem numScales_holds : Rows.NumScalesSaid :=
  OpenClaim.holds_of_wide 5 Tryd.f5 rfl rfl rfl rfl rfl rfl rfl ⟨rfl, rfl, rfl, rfl, rfl⟩ rfl rfl rfl rfl rfl (by kernel_rfl) Tryd.func5 (by kernel_rfl)
    (of_decide_eq_true (by kernel_rfl)) (by unfold Func.isWrapper; first | (rw [if_pos (by decide +kernel)]; kernel_rfl) | (rw [if_neg (by decide +kernel)]; exact ⟨rfl, rfl⟩))
    (fun os started H enc _ => numScales_lifted os started H enc)

theorem numScales_card : Rows.NumScalesCardSaid :=
  Claim7.holds_tied_plain_at .later [] [.data, .data, .data, .data] true Rows.numScalesCard.stood.harness true
    numScales_holds (fun _ h => by cases h) (by kernel_rfl) (fun _ h => by cases h) numScales_row_tie rfl ⟨rfl, rfl⟩ (by kernel_rfl) rfl
    (fun f fn hf hfn => by
      obtain rfl : f = 5 := Option.some.inj ((show Tryd.prog.funcNamed "colonnade/colonnadelaw01.NumScales" = some 5 by kernel_rfl).symm.trans hf) |>.symm
      obtain rfl : fn = Tryd.f5 := (Option.some.inj (Tryd.func5.symm.trans hfn)).symm
      exact ⟨by kernel_rfl, fun j t ht => by
        rw [Tryd.params5] at ht
        have hm : t ∈ [2, 3, 3] := by simpa using Array.mem_of_getElem? ht
        have hall : ([2, 3, 3].all fun u => !Tryd.prog.wantsStandIn u) = true := by kernel_rfl
        exact (show Tryd.prog.wantsStandIn t = false by simpa using List.all_eq_true.1 hall t hm)⟩)
    (by kernel_rfl)
end Go.Proofs.YtflkljenkhjnfaaDoor
