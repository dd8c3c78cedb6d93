/-
  NumDays: for every year, month, day and number Day and Civil answer as the document says. Condition: the listed tables read as the program's text lays them (the card ties them).
-/
import Derived.Test.YtflkljenkhjnfaaDoorLaid
import Derived.Test.YtflkljenkhjnfaaDoorPost
import Derived.Test.YtflkljenkhjnfaaDoorCards
import Derived.SevenTiedAt
namespace Go.Proofs.YtflkljenkhjnfaaDoor
open Go.ChangeShapes Go.WideShapes Go.ChangeAt Go.RowKit
open Cal
set_option linter.unusedVariables false

set_option maxHeartbeats 1600000 in
theorem numDays_walk_yy (y m d n : Int) (w : World) (hv : vld y m d) (h1 : -719162 ≤ n) (h2 : n ≤ 2932896) (hM : MLaid w) (hP : PowLaid w) :
    Calls Tryd.prog 8 #[.int .i64 y, .int .i64 m, .int .i64 d, .int .i64 n] w fun e w' => e = .returned (.bool true) ∧ Below w.heap.size w w' := by
  go_enter Tryd.func8, Tryd.ntmps8
  go_wp2_with (first | (go_at_call 44; refine (day_yes _ _ _ _ hM hv).mono ?_; rintro e w' ⟨rfl, rfl⟩) | (go_at_call 45; refine (refDay_yes _ _ _ _ hv).mono ?_; rintro e w' ⟨rfl, rfl⟩) | (go_at_call 46; refine (civil_yes _ _ hM h1 h2).mono ?_; rintro e w' ⟨u, v, x, rfl, hv1, hn1, rfl⟩; have HV1 := Lib.hid hv1; have HN1 := Lib.hid hn1; clear hv1 hn1) | (go_at_call 47; refine (refCivil_yes _ _ h1 h2).mono ?_; rintro e w' ⟨u', v', x', rfl, hv2, hn2, rfl⟩; obtain ⟨rfl, rfl, rfl⟩ := inj hv2 HV1.out (hn2.trans HN1.out.symm); clear hv2 hn2) | (go_at_call 19; refine (begun_any _ hM hP).mono ?_; rintro e w' ⟨rfl, hbl⟩))
  go_ret
  exact ⟨rfl, hbl⟩

set_option maxHeartbeats 1600000 in
theorem numDays_walk_yn (y m d n : Int) (w : World) (hv : vld y m d) (hn : n < -719162 ∨ 2932896 < n) (hM : MLaid w) (hP : PowLaid w) :
    Calls Tryd.prog 8 #[.int .i64 y, .int .i64 m, .int .i64 d, .int .i64 n] w fun e w' => e = .returned (.bool true) ∧ Below w.heap.size w w' := by
  go_enter Tryd.func8, Tryd.ntmps8
  go_wp2_with (first | (go_at_call 44; refine (day_yes _ _ _ _ hM hv).mono ?_; rintro e w' ⟨rfl, rfl⟩) | (go_at_call 45; refine (refDay_yes _ _ _ _ hv).mono ?_; rintro e w' ⟨rfl, rfl⟩) | (go_at_call 46; refine (civil_no _ _ hn).mono ?_; rintro e w' ⟨rfl, rfl⟩) | (go_at_call 47; refine (refCivil_no _ _ hn).mono ?_; rintro e w' ⟨rfl, rfl⟩) | (go_at_call 19; refine (begun_any _ hM hP).mono ?_; rintro e w' ⟨rfl, hbl⟩))
  go_ret
  exact ⟨rfl, hbl⟩

set_option maxHeartbeats 1600000 in
theorem numDays_walk_ny (y m d n : Int) (w : World) (hv : ¬ vld y m d) (h1 : -719162 ≤ n) (h2 : n ≤ 2932896) (hM : MLaid w) (hP : PowLaid w) :
    Calls Tryd.prog 8 #[.int .i64 y, .int .i64 m, .int .i64 d, .int .i64 n] w fun e w' => e = .returned (.bool true) ∧ Below w.heap.size w w' := by
  go_enter Tryd.func8, Tryd.ntmps8
  go_wp2_with (first | (go_at_call 44; refine (day_no _ _ _ _ hM hv).mono ?_; rintro e w' ⟨rfl, rfl⟩) | (go_at_call 45; refine (refDay_no _ _ _ _ hv).mono ?_; rintro e w' ⟨rfl, rfl⟩) | (go_at_call 46; refine (civil_yes _ _ hM h1 h2).mono ?_; rintro e w' ⟨u, v, x, rfl, hv1, hn1, rfl⟩; have HV1 := Lib.hid hv1; have HN1 := Lib.hid hn1; clear hv1 hn1) | (go_at_call 47; refine (refCivil_yes _ _ h1 h2).mono ?_; rintro e w' ⟨u', v', x', rfl, hv2, hn2, rfl⟩; obtain ⟨rfl, rfl, rfl⟩ := inj hv2 HV1.out (hn2.trans HN1.out.symm); clear hv2 hn2) | (go_at_call 19; refine (begun_any _ hM hP).mono ?_; rintro e w' ⟨rfl, hbl⟩))
  go_ret
  exact ⟨rfl, hbl⟩

set_option maxHeartbeats 1600000 in
theorem numDays_walk_nn (y m d n : Int) (w : World) (hv : ¬ vld y m d) (hn : n < -719162 ∨ 2932896 < n) (hM : MLaid w) (hP : PowLaid w) :
    Calls Tryd.prog 8 #[.int .i64 y, .int .i64 m, .int .i64 d, .int .i64 n] w fun e w' => e = .returned (.bool true) ∧ Below w.heap.size w w' := by
  go_enter Tryd.func8, Tryd.ntmps8
  go_wp2_with (first | (go_at_call 44; refine (day_no _ _ _ _ hM hv).mono ?_; rintro e w' ⟨rfl, rfl⟩) | (go_at_call 45; refine (refDay_no _ _ _ _ hv).mono ?_; rintro e w' ⟨rfl, rfl⟩) | (go_at_call 46; refine (civil_no _ _ hn).mono ?_; rintro e w' ⟨rfl, rfl⟩) | (go_at_call 47; refine (refCivil_no _ _ hn).mono ?_; rintro e w' ⟨rfl, rfl⟩) | (go_at_call 19; refine (begun_any _ hM hP).mono ?_; rintro e w' ⟨rfl, hbl⟩))
  go_ret
  exact ⟨rfl, hbl⟩

theorem numDays_walk (y m d n : Int) (w : World) (h0 : In64 y) (h1 : In64 m) (h2 : In64 d) (h3 : In64 n) (hM : MLaid w) (hP : PowLaid w) :
    Calls Tryd.prog 8 #[.int .i64 y, .int .i64 m, .int .i64 d, .int .i64 n] w fun e w' => e = .returned (.bool true) ∧ Below w.heap.size w w' := by
  by_cases hv : vld y m d <;> by_cases hn : -719162 ≤ n ∧ n ≤ 2932896
  · exact numDays_walk_yy y m d n w hv hn.1 hn.2 hM hP
  · exact numDays_walk_yn y m d n w hv (by omega) hM hP
  · exact numDays_walk_ny y m d n w hv hn.1 hn.2 hM hP
  · exact numDays_walk_nn y m d n w hv (by omega) hM hP

set_option maxRecDepth 100000 in
theorem numDays_lifted (os : Os) (started : os.Started) (H : Type) (enc : TypeId × Value → H) :
    ReturnsInHanded {} Tryd.checked os 8 .any (fun w args => (Rows.numDaysSpec.pre enc Tryd.prog Tryd.f8 [] false w args ∧ laidMetH Tryd.prog laid4 w) ∧ sizedMet enc Tryd.prog Tryd.f8 (OpenSpec.ofChange Rows.numDaysSpec) false w args)
      (Rows.numDaysSpec.post enc Tryd.prog Tryd.f8 false true false false) := by
  refine returnsInHanded_of_change_and (C := Tryd.checked) (X := fun w _ => laidMetH Tryd.prog laid4 w) (fun _ _ _ hh h => h.of_heap hh) own started (by kernel_rfl) Tryd.func8
    (ChangeSpec.witness_shaped (enc := enc) (C := Tryd.checked) (os := os) (X := fun w _ => laidMetH Tryd.prog laid4 w) false (World.doorLaid Tryd.prog 400 os) #[.int .i64 0, .int .i64 0, .int .i64 0, .int .i64 0] 8 rfl (World.shaped_of_RefB (by kernel_rfl) (by kernel_rfl)) (by kernel_rfl) (by kernel_rfl) (by kernel_rfl) (door_met4 os _)) ?_
  intro W base args ds gs before hval0 hW _ _ hL _
  have hval : ∀ (j : Nat) t v, Tryd.f8.params[j]? = some t → args[j]? = some v → Value.okWide Tryd.prog W .any base t v := hval0
  have hW' := hW
  obtain ⟨p, q, hA0, hV, rfl, hfz, hnd⟩ := hW
  have hA : DataW.TrodAll enc Tryd.prog W 0 (fun _ => true) true Tryd.f8.params.toList args.toList ds p := hA0
  rw [Tryd.params8] at hA hval
  obtain ⟨v0, vs0, d0, ds0, p0, q0, hargs, rfl, rfl, h0, r0⟩ := trodAll_cons hA
  obtain ⟨v1, vs1, d1, ds1, p1, q1, rfl, rfl, rfl, h1, r1⟩ := trodAll_cons r0
  obtain ⟨v2, vs2, d2, ds2, p2, q2, rfl, rfl, rfl, h2, r2⟩ := trodAll_cons r1
  obtain ⟨v3, vs3, d3, ds3, p3, q3, rfl, rfl, rfl, h3, r3⟩ := trodAll_cons r2
  obtain ⟨rfl, rfl, rfl⟩ := trodAll_nil r3
  obtain rfl : args = #[v0, v1, v2, v3] := by cases args; simp_all
  obtain ⟨rfl, rfl⟩ := trodVars_none hV
  obtain ⟨y, rfl, rfl, rfl, w0⟩ := open_int Tryd.underlying3 (hval 0 3 v0 rfl rfl) h0
  obtain ⟨m, rfl, rfl, rfl, w1⟩ := open_int Tryd.underlying3 (hval 1 3 v1 rfl rfl) h1
  obtain ⟨d, rfl, rfl, rfl, w2⟩ := open_int Tryd.underlying3 (hval 2 3 v2 rfl rfl) h2
  obtain ⟨n, rfl, rfl, rfl, w3⟩ := open_int Tryd.underlying2 (hval 3 2 v3 rfl rfl) h3
  obtain ⟨hM, hP⟩ := of_laid4 hL
  clear hA0 hval0
  simp only [List.append_nil] at hW'
  refine (numDays_walk y m d n W (in64_of w0) (in64_of w1) (in64_of w2) (in64_of w3) hM hP).mono fun e W' ⟨he, hg⟩ => ?_
  subst he
  exact ⟨_, rfl, post_of_below (pa := []) (pv := []) hW' (fun _ _ _ => (trodAll_cons_mk (shut_bool Tryd.underlying4 _) trodAll_mk0)) (fun sp _ => (trodAll_cons_mk (shut_int Tryd.underlying3 w0) (trodAll_cons_mk (shut_int Tryd.underlying3 w1) (trodAll_cons_mk (shut_int Tryd.underlying3 w2) (trodAll_cons_mk (shut_int Tryd.underlying2 w3) trodAll_mk0))))) (fun _ _ => rfl) rfl hg (ok_one (by kernel_rfl) rfl (okWide_bool_mk Tryd.underlying4 _))⟩

theorem numDays_holds : Rows.NumDaysSaid :=
  OpenClaim.holds_of_wide 8 Tryd.f8 rfl rfl rfl rfl rfl rfl rfl ⟨rfl, rfl, rfl, rfl, rfl⟩ rfl rfl rfl rfl rfl (by kernel_rfl) Tryd.func8 (by kernel_rfl)
    (of_decide_eq_true (by kernel_rfl)) (by unfold Func.isWrapper; first | (rw [if_pos (by decide +kernel)]; kernel_rfl) | (rw [if_neg (by decide +kernel)]; exact ⟨rfl, rfl⟩))
    (fun os started H enc _ => numDays_lifted os started H enc)

theorem numDays_card : Rows.NumDaysCardSaid :=
  Claim7.holds_tied_plain_at .later [] [.data, .data, .data, .data] true Rows.numDaysCard.stood.harness true
    numDays_holds (fun _ h => by cases h) (by kernel_rfl) (fun _ h => by cases h) numDays_row_tie rfl ⟨rfl, rfl⟩ (by kernel_rfl) rfl
    (fun f fn hf hfn => by
      obtain rfl : f = 8 := Option.some.inj ((show Tryd.prog.funcNamed "colonnade/colonnadelaw01.NumDays" = some 8 by kernel_rfl).symm.trans hf) |>.symm
      obtain rfl : fn = Tryd.f8 := (Option.some.inj (Tryd.func8.symm.trans hfn)).symm
      exact ⟨by kernel_rfl, fun j t ht => by
        rw [Tryd.params8] at ht
        have hm : t ∈ [3, 3, 3, 2] := by simpa using Array.mem_of_getElem? ht
        have hall : ([3, 3, 3, 2].all fun u => !Tryd.prog.wantsStandIn u) = true := by kernel_rfl
        exact (show Tryd.prog.wantsStandIn t = false by simpa using List.all_eq_true.1 hall t hm)⟩)
    (by kernel_rfl)
end Go.Proofs.YtflkljenkhjnfaaDoor
