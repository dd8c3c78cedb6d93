/-
  NumFollows: for every number the day of the next number is the next day, over months' and years' ends. Condition: the listed tables read as the program's text lays them (the card ties them).
-/
import Derived.Test.YtflkljenkhjnfaaDoorLaid
import Derived.Test.YtflkljenkhjnfaaDoorPost
import Derived.Test.YtflkljenkhjnfaaDoorCards
import Derived.SevenTiedAt
namespace Go.Proofs.YtflkljenkhjnfaaDoor
open Go.ChangeShapes Go.WideShapes Go.ChangeAt Go.RowKit
open Cal
set_option linter.unusedVariables false

theorem dayNum_hid {y m d n : Int} (h : dayNum y m d = n) : Hid (dayNum y m d = n) := h
set_option maxHeartbeats 1600000 in
theorem numFollows_no (n : Int) (w : World) (hn : n < -719162 ∨ 2932896 < n) (hM : MLaid w) (hP : PowLaid w) :
    Calls Tryd.prog 11 #[.int .i64 n] w fun e w' => e = .returned (.bool true) ∧ Below w.heap.size w w' := by
  go_enter Tryd.func11, Tryd.ntmps11
  go_wp2_with (first | (go_at_call 46; refine (civil_no _ _ hn).mono ?_; rintro e w' ⟨rfl, rfl⟩))
  refine (begun_any _ hM hP).mono ?_
  rintro e w1 ⟨rfl, hb1⟩
  go_wp2_with fail
  refine (begun_any _ (hM.next hb1) (hP.below hb1)).mono ?_
  rintro e w2 ⟨rfl, hb2⟩
  go_wp2
  go_ret
  exact ⟨rfl, hb1.trans (hb2.mono hb1.size)⟩
set_option maxHeartbeats 1600000 in
theorem numFollows_last (w : World) (hM : MLaid w) (hP : PowLaid w) :
    Calls Tryd.prog 11 #[.int .i64 2932896] w fun e w' => e = .returned (.bool true) ∧ Below w.heap.size w w' := by
  go_enter Tryd.func11, Tryd.ntmps11
  go_wp2_with fail
  refine (civil_yes _ _ hM (by omega) (by omega)).mono ?_
  rintro e w' ⟨u, v, x, rfl, hv1, hn1, rfl⟩
  clear hv1 hn1
  go_wp2_with fail
  refine (begun_any _ hM hP).mono ?_
  rintro e w1 ⟨rfl, hb1⟩
  go_wp2_with fail
  refine (begun_any _ (hM.next hb1) (hP.below hb1)).mono ?_
  rintro e w2 ⟨rfl, hb2⟩
  go_wp2
  go_ret
  exact ⟨rfl, hb1.trans (hb2.mono hb1.size)⟩
set_option maxHeartbeats 3200000 in
theorem numFollows_next (n : Int) (w : World) (h1 : -719162 ≤ n) (h2 : n < 2932896) (hM : MLaid w) (hP : PowLaid w) :
    Calls Tryd.prog 11 #[.int .i64 n] w fun e w' => e = .returned (.bool true) ∧ Below w.heap.size w w' := by
  go_enter Tryd.func11, Tryd.ntmps11
  go_wp2_with fail
  refine (civil_yes _ _ hM (by omega) (by omega)).mono ?_
  rintro e w' ⟨y, m, d, rfl, hv1, hn1, rfl⟩
  have hd1 := mlen_bd y m
  obtain ⟨a1, a2, a3, a4, a5, a6⟩ := id hv1
  have HV1 := Lib.hid hv1
  have HN1 := Lib.hid hn1
  clear hv1 hn1
  go_wp2_with fail
  refine (begun_any _ hM hP).mono ?_
  rintro e wb ⟨rfl, hb1⟩
  go_wp2_with fail
  refine (civil_yes _ _ (hM.next hb1) (by omega) (by omega)).mono ?_
  rintro e w' ⟨u, v, x, rfl, hv2, hn2, rfl⟩
  have hf := follows HV1.out hv2 (by rw [hn2, HN1.out])
  clear hv2 hn2
  have hday : Calls Tryd.prog 44 #[.int .i64 y, .int .i64 m, .int .i64 d] wb fun e w' => e = .returned (.tuple #[.int .i64 n, .int .i64 0]) ∧ wb = w' := (day_yes y m d wb (hM.next hb1) HV1.out).mono fun e w' ⟨h, hw⟩ => ⟨h.trans (ret_pair HN1.out rfl), hw⟩
  have HD := Lib.hid hday
  clear hday
  rcases hf with ⟨rfl, rfl, rfl⟩ | ⟨rfl, rfl, rfl⟩ | ⟨rfl, rfl, rfl, rfl, rfl⟩
  all_goals
    go_wp2_with fail
    refine HD.out.mono ?_
    rintro e w' ⟨rfl, rfl⟩
    go_wp2
    go_ret
    exact ⟨rfl, hb1⟩
theorem numFollows_walk (n : Int) (w : World) (h0 : In64 n) (hM : MLaid w) (hP : PowLaid w) :
    Calls Tryd.prog 11 #[.int .i64 n] w fun e w' => e = .returned (.bool true) ∧ Below w.heap.size w w' := by
  by_cases hn : -719162 ≤ n ∧ n ≤ 2932896
  · by_cases hl : n = 2932896
    · subst hl; exact numFollows_last w hM hP
    · exact numFollows_next n w hn.1 (by omega) hM hP
  · exact numFollows_no n w (by omega) hM hP

set_option maxRecDepth 100000 in
theorem numFollows_lifted (os : Os) (started : os.Started) (H : Type) (enc : TypeId × Value → H) :
    ReturnsInHanded {} Tryd.checked os 11 .any (fun w args => (Rows.numFollowsSpec.pre enc Tryd.prog Tryd.f11 [] false w args ∧ laidMetH Tryd.prog laid4 w) ∧ sizedMet enc Tryd.prog Tryd.f11 (OpenSpec.ofChange Rows.numFollowsSpec) false w args)
      (Rows.numFollowsSpec.post enc Tryd.prog Tryd.f11 false true false false) := by
  refine returnsInHanded_of_change_and (C := Tryd.checked) (X := fun w _ => laidMetH Tryd.prog laid4 w) (fun _ _ _ hh h => h.of_heap hh) own started (by kernel_rfl) Tryd.func11
    (ChangeSpec.witness_shaped (enc := enc) (C := Tryd.checked) (os := os) (X := fun w _ => laidMetH Tryd.prog laid4 w) false (World.doorLaid Tryd.prog 400 os) #[.int .i64 0] 8 rfl (World.shaped_of_RefB (by kernel_rfl) (by kernel_rfl)) (by kernel_rfl) (by kernel_rfl) (by kernel_rfl) (door_met4 os _)) ?_
  intro W base args ds gs before hval0 hW _ _ hL _
  have hval : ∀ (j : Nat) t v, Tryd.f11.params[j]? = some t → args[j]? = some v → Value.okWide Tryd.prog W .any base t v := hval0
  have hW' := hW
  obtain ⟨p, q, hA0, hV, rfl, hfz, hnd⟩ := hW
  have hA : DataW.TrodAll enc Tryd.prog W 0 (fun _ => true) true Tryd.f11.params.toList args.toList ds p := hA0
  rw [Tryd.params11] at hA hval
  obtain ⟨v0, vs0, d0, ds0, p0, q0, hargs, rfl, rfl, h0, r0⟩ := trodAll_cons hA
  obtain ⟨rfl, rfl, rfl⟩ := trodAll_nil r0
  obtain rfl : args = #[v0] := by cases args; simp_all
  obtain ⟨rfl, rfl⟩ := trodVars_none hV
  obtain ⟨n, rfl, rfl, rfl, w0⟩ := open_int Tryd.underlying2 (hval 0 2 v0 rfl rfl) h0
  obtain ⟨hM, hP⟩ := of_laid4 hL
  clear hA0 hval0
  simp only [List.append_nil] at hW'
  refine (numFollows_walk n W (in64_of w0) hM hP).mono fun e W' ⟨he, hg⟩ => ?_
  subst he
  exact ⟨_, rfl, post_of_below (pa := []) (pv := []) hW' (fun _ _ _ => (trodAll_cons_mk (shut_bool Tryd.underlying4 _) trodAll_mk0)) (fun sp _ => (trodAll_cons_mk (shut_int Tryd.underlying2 w0) trodAll_mk0)) (fun _ _ => rfl) rfl hg (ok_one (by kernel_rfl) rfl (okWide_bool_mk Tryd.underlying4 _))⟩

theorem numFollows_holds : Rows.NumFollowsSaid :=
  OpenClaim.holds_of_wide 11 Tryd.f11 rfl rfl rfl rfl rfl rfl rfl ⟨rfl, rfl, rfl, rfl, rfl⟩ rfl rfl rfl rfl rfl (by kernel_rfl) Tryd.func11 (by kernel_rfl)
    (of_decide_eq_true (by kernel_rfl)) (by unfold Func.isWrapper; first | (rw [if_pos (by decide +kernel)]; kernel_rfl) | (rw [if_neg (by decide +kernel)]; exact ⟨rfl, rfl⟩))
    (fun os started H enc _ => numFollows_lifted os started H enc)

theorem numFollows_card : Rows.NumFollowsCardSaid :=
  Claim7.holds_tied_plain_at .later [] [.data, .data, .data, .data] true Rows.numFollowsCard.stood.harness true
    numFollows_holds (fun _ h => by cases h) (by kernel_rfl) (fun _ h => by cases h) numFollows_row_tie rfl ⟨rfl, rfl⟩ (by kernel_rfl) rfl
    (fun f fn hf hfn => by
      obtain rfl : f = 11 := Option.some.inj ((show Tryd.prog.funcNamed "colonnade/colonnadelaw01.NumFollows" = some 11 by kernel_rfl).symm.trans hf) |>.symm
      obtain rfl : fn = Tryd.f11 := (Option.some.inj (Tryd.func11.symm.trans hfn)).symm
      exact ⟨by kernel_rfl, fun j t ht => by
        rw [Tryd.params11] at ht
        have hm : t ∈ [2] := by simpa using Array.mem_of_getElem? ht
        have hall : ([2].all fun u => !Tryd.prog.wantsStandIn u) = true := by kernel_rfl
        exact (show Tryd.prog.wantsStandIn t = false by simpa using List.all_eq_true.1 hall t hm)⟩)
    (by kernel_rfl)
end Go.Proofs.YtflkljenkhjnfaaDoor
