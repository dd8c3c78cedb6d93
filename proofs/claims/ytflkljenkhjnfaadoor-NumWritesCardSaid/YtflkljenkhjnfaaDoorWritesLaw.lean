/-
  NumWrites: every number, decimal and day as a text is the document's. Condition: the listed tables read as the program's text lays them (the card ties them).
-/
import Derived.Test.YtflkljenkhjnfaaDoorLaid
import Derived.Test.YtflkljenkhjnfaaDoorPost
import Derived.Test.YtflkljenkhjnfaaDoorCards
import Derived.SevenTiedAt
import Derived.Test.YtflkljenkhjnfaaDoorFormat
namespace Go.Proofs.YtflkljenkhjnfaaDoor
open Go.ChangeShapes Go.WideShapes Go.ChangeAt Go.RowKit
open Cal
set_option linter.unusedVariables false

set_option maxHeartbeats 3200000 in
theorem numWrites_walk_yy (n : Int) (k : Nat) (w : World) (hn : In64 n) (hk : k ≤ 18) (h1 : -719162 ≤ n) (h2 : n ≤ 2932896) (hM : MLaid w) (hP : PowLaid w) :
    Calls Tryd.prog 7 #[.int .i64 n, .int .i64 k] w fun e w' => e = .returned (.bool true) ∧ Below w.heap.size w w' := by
  go_enter Tryd.func7, Tryd.ntmps7
  have hB0 : Below w.heap.size w w := Below.refl _ _
  have hM0 := hM
  have hP0 := hP
  go_wp2_with fail
  refine (formatDec_yes n k hn hk _ hP0).mono ?_
  rintro e w1 ⟨rfl, hb1⟩
  have hB1 := hB0.trans (hb1.mono hB0.size)
  have hM1 := hM.next hB1
  have hP1 := hP.below hB1
  clear hb1
  go_wp2_with fail
  refine (refFormatDec_yes n k hn hk _).mono ?_
  rintro e w2 ⟨rfl, hb2⟩
  have hB2 := hB1.trans (hb2.mono hB1.size)
  have hM2 := hM.next hB2
  have hP2 := hP.below hB2
  clear hb2
  go_wp2_with fail
  refine (formatDay_yes n _ hM2 hP2 h1 h2).mono ?_
  rintro e w3 ⟨y, m, d, rfl, hv1, hn1, hb3⟩
  have HV1 := Lib.hid hv1
  have HN1 := Lib.hid hn1
  clear hv1 hn1
  have hB3 := hB2.trans (hb3.mono hB2.size)
  have hM3 := hM.next hB3
  have hP3 := hP.below hB3
  clear hb3
  go_wp2_with fail
  refine (refFormatDay_yes n _ h1 h2).mono ?_
  rintro e w4 ⟨y', m', d', rfl, hv2, hn2, hb4⟩
  obtain ⟨ey, em, ed⟩ := inj hv2 HV1.out (hn2.trans HN1.out.symm)
  obtain rfl := Int.ofNat.inj ey
  obtain rfl := Int.ofNat.inj em
  obtain rfl := Int.ofNat.inj ed
  clear hv2 hn2 ey em ed
  have hB4 := hB3.trans (hb4.mono hB3.size)
  have hM4 := hM.next hB4
  have hP4 := hP.below hB4
  clear hb4
  go_wp2_with fail
  refine (begun_any _ hM4 hP4).mono ?_
  rintro e w5 ⟨rfl, hb5⟩
  have hB5 := hB4.trans (hb5.mono hB4.size)
  have hM5 := hM.next hB5
  have hP5 := hP.below hB5
  clear hb5
  go_wp2_with fail
  refine (formatInt_any n hn _ hP5).mono ?_
  rintro e w6 ⟨rfl, hb6⟩
  have hB6 := hB5.trans (hb6.mono hB5.size)
  have hM6 := hM.next hB6
  have hP6 := hP.below hB6
  clear hb6
  go_wp2_with fail
  refine (refFormatInt_any n hn _).mono ?_
  rintro e w7 ⟨rfl, hb7⟩
  have hB7 := hB6.trans (hb7.mono hB6.size)
  have hM7 := hM.next hB7
  have hP7 := hP.below hB7
  clear hb7
  go_wp2
  go_ret
  exact ⟨rfl, hB7⟩

set_option maxHeartbeats 3200000 in
theorem numWrites_walk_yn (n : Int) (k : Nat) (w : World) (hn : In64 n) (hk : k ≤ 18) (ho : n < -719162 ∨ 2932896 < n) (hM : MLaid w) (hP : PowLaid w) :
    Calls Tryd.prog 7 #[.int .i64 n, .int .i64 k] w fun e w' => e = .returned (.bool true) ∧ Below w.heap.size w w' := by
  go_enter Tryd.func7, Tryd.ntmps7
  have hB0 : Below w.heap.size w w := Below.refl _ _
  have hM0 := hM
  have hP0 := hP
  go_wp2_with fail
  refine (formatDec_yes n k hn hk _ hP0).mono ?_
  rintro e w1 ⟨rfl, hb1⟩
  have hB1 := hB0.trans (hb1.mono hB0.size)
  have hM1 := hM.next hB1
  have hP1 := hP.below hB1
  clear hb1
  go_wp2_with fail
  refine (refFormatDec_yes n k hn hk _).mono ?_
  rintro e w2 ⟨rfl, hb2⟩
  have hB2 := hB1.trans (hb2.mono hB1.size)
  have hM2 := hM.next hB2
  have hP2 := hP.below hB2
  clear hb2
  go_wp2_with fail
  refine (formatDay_no n _ ho).mono ?_
  rintro e w' ⟨rfl, rfl⟩
  go_wp2_with fail
  refine (refFormatDay_no n _ ho).mono ?_
  rintro e w' ⟨rfl, rfl⟩
  go_wp2_with fail
  refine (begun_any _ hM2 hP2).mono ?_
  rintro e w3 ⟨rfl, hb3⟩
  have hB3 := hB2.trans (hb3.mono hB2.size)
  have hM3 := hM.next hB3
  have hP3 := hP.below hB3
  clear hb3
  go_wp2_with fail
  refine (formatInt_any n hn _ hP3).mono ?_
  rintro e w4 ⟨rfl, hb4⟩
  have hB4 := hB3.trans (hb4.mono hB3.size)
  have hM4 := hM.next hB4
  have hP4 := hP.below hB4
  clear hb4
  go_wp2_with fail
  refine (refFormatInt_any n hn _).mono ?_
  rintro e w5 ⟨rfl, hb5⟩
  have hB5 := hB4.trans (hb5.mono hB4.size)
  have hM5 := hM.next hB5
  have hP5 := hP.below hB5
  clear hb5
  go_wp2
  go_ret
  exact ⟨rfl, hB5⟩

set_option maxHeartbeats 3200000 in
theorem numWrites_walk_ny (n : Int) (s : Int) (w : World) (hn : In64 n) (hs : isScaleB s = false) (h1 : -719162 ≤ n) (h2 : n ≤ 2932896) (hM : MLaid w) (hP : PowLaid w) :
    Calls Tryd.prog 7 #[.int .i64 n, .int .i64 s] w fun e w' => e = .returned (.bool true) ∧ Below w.heap.size w w' := by
  go_enter Tryd.func7, Tryd.ntmps7
  have hB0 : Below w.heap.size w w := Below.refl _ _
  have hM0 := hM
  have hP0 := hP
  go_wp2_with fail
  refine (formatDec_no _ _ _ hs).mono ?_
  rintro e w' ⟨rfl, rfl⟩
  go_wp2_with fail
  refine (refFormatDec_no _ _ _ hs).mono ?_
  rintro e w' ⟨rfl, rfl⟩
  go_wp2_with fail
  refine (formatDay_yes n _ hM0 hP0 h1 h2).mono ?_
  rintro e w1 ⟨y, m, d, rfl, hv1, hn1, hb1⟩
  have HV1 := Lib.hid hv1
  have HN1 := Lib.hid hn1
  clear hv1 hn1
  have hB1 := hB0.trans (hb1.mono hB0.size)
  have hM1 := hM.next hB1
  have hP1 := hP.below hB1
  clear hb1
  go_wp2_with fail
  refine (refFormatDay_yes n _ h1 h2).mono ?_
  rintro e w2 ⟨y', m', d', rfl, hv2, hn2, hb2⟩
  obtain ⟨ey, em, ed⟩ := inj hv2 HV1.out (hn2.trans HN1.out.symm)
  obtain rfl := Int.ofNat.inj ey
  obtain rfl := Int.ofNat.inj em
  obtain rfl := Int.ofNat.inj ed
  clear hv2 hn2 ey em ed
  have hB2 := hB1.trans (hb2.mono hB1.size)
  have hM2 := hM.next hB2
  have hP2 := hP.below hB2
  clear hb2
  go_wp2_with fail
  refine (begun_any _ hM2 hP2).mono ?_
  rintro e w3 ⟨rfl, hb3⟩
  have hB3 := hB2.trans (hb3.mono hB2.size)
  have hM3 := hM.next hB3
  have hP3 := hP.below hB3
  clear hb3
  go_wp2_with fail
  refine (formatInt_any n hn _ hP3).mono ?_
  rintro e w4 ⟨rfl, hb4⟩
  have hB4 := hB3.trans (hb4.mono hB3.size)
  have hM4 := hM.next hB4
  have hP4 := hP.below hB4
  clear hb4
  go_wp2_with fail
  refine (refFormatInt_any n hn _).mono ?_
  rintro e w5 ⟨rfl, hb5⟩
  have hB5 := hB4.trans (hb5.mono hB4.size)
  have hM5 := hM.next hB5
  have hP5 := hP.below hB5
  clear hb5
  go_wp2
  go_ret
  exact ⟨rfl, hB5⟩

set_option maxHeartbeats 3200000 in
theorem numWrites_walk_nn (n : Int) (s : Int) (w : World) (hn : In64 n) (hs : isScaleB s = false) (ho : n < -719162 ∨ 2932896 < n) (hM : MLaid w) (hP : PowLaid w) :
    Calls Tryd.prog 7 #[.int .i64 n, .int .i64 s] w fun e w' => e = .returned (.bool true) ∧ Below w.heap.size w w' := by
  go_enter Tryd.func7, Tryd.ntmps7
  have hB0 : Below w.heap.size w w := Below.refl _ _
  have hM0 := hM
  have hP0 := hP
  go_wp2_with fail
  refine (formatDec_no _ _ _ hs).mono ?_
  rintro e w' ⟨rfl, rfl⟩
  go_wp2_with fail
  refine (refFormatDec_no _ _ _ hs).mono ?_
  rintro e w' ⟨rfl, rfl⟩
  go_wp2_with fail
  refine (formatDay_no n _ ho).mono ?_
  rintro e w' ⟨rfl, rfl⟩
  go_wp2_with fail
  refine (refFormatDay_no n _ ho).mono ?_
  rintro e w' ⟨rfl, rfl⟩
  go_wp2_with fail
  refine (begun_any _ hM0 hP0).mono ?_
  rintro e w1 ⟨rfl, hb1⟩
  have hB1 := hB0.trans (hb1.mono hB0.size)
  have hM1 := hM.next hB1
  have hP1 := hP.below hB1
  clear hb1
  go_wp2_with fail
  refine (formatInt_any n hn _ hP1).mono ?_
  rintro e w2 ⟨rfl, hb2⟩
  have hB2 := hB1.trans (hb2.mono hB1.size)
  have hM2 := hM.next hB2
  have hP2 := hP.below hB2
  clear hb2
  go_wp2_with fail
  refine (refFormatInt_any n hn _).mono ?_
  rintro e w3 ⟨rfl, hb3⟩
  have hB3 := hB2.trans (hb3.mono hB2.size)
  have hM3 := hM.next hB3
  have hP3 := hP.below hB3
  clear hb3
  go_wp2
  go_ret
  exact ⟨rfl, hB3⟩

theorem numWrites_walk (n s : Int) (w : World) (hn : In64 n) (hs : In64 s) (hM : MLaid w) (hP : PowLaid w) :
    Calls Tryd.prog 7 #[.int .i64 n, .int .i64 s] w fun e w' => e = .returned (.bool true) ∧ Below w.heap.size w w' := by
  by_cases h0 : 0 ≤ s ∧ s ≤ 18
  · obtain ⟨k, rfl⟩ : ∃ k : Nat, s = k := ⟨s.toNat, by omega⟩
    by_cases hd : -719162 ≤ n ∧ n ≤ 2932896
    · exact numWrites_walk_yy n k w hn (by omega) hd.1 hd.2 hM hP
    · exact numWrites_walk_yn n k w hn (by omega) (by omega) hM hP
  · have hs0 : isScaleB s = false := by simp only [isScaleB, h0]; rfl
    by_cases hd : -719162 ≤ n ∧ n ≤ 2932896
    · exact numWrites_walk_ny n s w hn hs0 hd.1 hd.2 hM hP
    · exact numWrites_walk_nn n s w hn hs0 (by omega) hM hP

set_option maxRecDepth 100000 in
theorem numWrites_lifted (os : Os) (started : os.Started) (H : Type) (enc : TypeId × Value → H) :
    ReturnsInHanded {} Tryd.checked os 7 .any (fun w args => (Rows.numWritesSpec.pre enc Tryd.prog Tryd.f7 [] false w args ∧ laidMetH Tryd.prog laid4 w) ∧ sizedMet enc Tryd.prog Tryd.f7 (OpenSpec.ofChange Rows.numWritesSpec) false w args)
      (Rows.numWritesSpec.post enc Tryd.prog Tryd.f7 false true false false) := by
  refine returnsInHanded_of_change_and (C := Tryd.checked) (X := fun w _ => laidMetH Tryd.prog laid4 w) (fun _ _ _ hh h => h.of_heap hh) own started (by kernel_rfl) Tryd.func7
    (ChangeSpec.witness_shaped (enc := enc) (C := Tryd.checked) (os := os) (X := fun w _ => laidMetH Tryd.prog laid4 w) false (World.doorLaid Tryd.prog 400 os) #[.int .i64 0, .int .i64 0] 8 rfl (World.shaped_of_RefB (by kernel_rfl) (by kernel_rfl)) (by kernel_rfl) (by kernel_rfl) (by kernel_rfl) (door_met4 os _)) ?_
  intro W base args ds gs before hval0 hW _ _ hL _
  have hval : ∀ (j : Nat) t v, Tryd.f7.params[j]? = some t → args[j]? = some v → Value.okWide Tryd.prog W .any base t v := hval0
  have hW' := hW
  obtain ⟨p, q, hA0, hV, rfl, hfz, hnd⟩ := hW
  have hA : DataW.TrodAll enc Tryd.prog W 0 (fun _ => true) true Tryd.f7.params.toList args.toList ds p := hA0
  rw [Tryd.params7] at hA hval
  obtain ⟨v0, vs0, d0, ds0, p0, q0, hargs, rfl, rfl, h0, r0⟩ := trodAll_cons hA
  obtain ⟨v1, vs1, d1, ds1, p1, q1, rfl, rfl, rfl, h1, r1⟩ := trodAll_cons r0
  obtain ⟨rfl, rfl, rfl⟩ := trodAll_nil r1
  obtain rfl : args = #[v0, v1] := by cases args; simp_all
  obtain ⟨rfl, rfl⟩ := trodVars_none hV
  obtain ⟨n, rfl, rfl, rfl, w0⟩ := open_int Tryd.underlying2 (hval 0 2 v0 rfl rfl) h0
  obtain ⟨s, rfl, rfl, rfl, w1⟩ := open_int Tryd.underlying3 (hval 1 3 v1 rfl rfl) h1
  obtain ⟨hM, hP⟩ := of_laid4 hL
  clear hA0 hval0
  simp only [List.append_nil] at hW'
  refine (numWrites_walk n s W (in64_of w0) (in64_of w1) hM hP).mono fun e W' ⟨he, hg⟩ => ?_
  subst he
  exact ⟨_, rfl, post_of_below (pa := []) (pv := []) hW' (fun _ _ _ => (trodAll_cons_mk (shut_bool Tryd.underlying4 _) trodAll_mk0)) (fun sp _ => (trodAll_cons_mk (shut_int Tryd.underlying2 w0) (trodAll_cons_mk (shut_int Tryd.underlying3 w1) trodAll_mk0))) (fun _ _ => rfl) rfl hg (ok_one (by kernel_rfl) rfl (okWide_bool_mk Tryd.underlying4 _))⟩

theorem numWrites_holds : Rows.NumWritesSaid :=
  OpenClaim.holds_of_wide 7 Tryd.f7 rfl rfl rfl rfl rfl rfl rfl ⟨rfl, rfl, rfl, rfl, rfl⟩ rfl rfl rfl rfl rfl (by kernel_rfl) Tryd.func7 (by kernel_rfl)
    (of_decide_eq_true (by kernel_rfl)) (by unfold Func.isWrapper; first | (rw [if_pos (by decide +kernel)]; kernel_rfl) | (rw [if_neg (by decide +kernel)]; exact ⟨rfl, rfl⟩))
    (fun os started H enc _ => numWrites_lifted os started H enc)

theorem numWrites_card : Rows.NumWritesCardSaid :=
  Claim7.holds_tied_plain_at .later [] [.data, .data, .data, .data] true Rows.numWritesCard.stood.harness true
    numWrites_holds (fun _ h => by cases h) (by kernel_rfl) (fun _ h => by cases h) numWrites_row_tie rfl ⟨rfl, rfl⟩ (by kernel_rfl) rfl
    (fun f fn hf hfn => by
      obtain rfl : f = 7 := Option.some.inj ((show Tryd.prog.funcNamed "colonnade/colonnadelaw01.NumWrites" = some 7 by kernel_rfl).symm.trans hf) |>.symm
      obtain rfl : fn = Tryd.f7 := (Option.some.inj (Tryd.func7.symm.trans hfn)).symm
      exact ⟨by kernel_rfl, fun j t ht => by
        rw [Tryd.params7] at ht
        have hm : t ∈ [2, 3] := by simpa using Array.mem_of_getElem? ht
        have hall : ([2, 3].all fun u => !Tryd.prog.wantsStandIn u) = true := by kernel_rfl
        exact (show Tryd.prog.wantsStandIn t = false by simpa using List.all_eq_true.1 hall t hm)⟩)
    (by kernel_rfl)
end Go.Proofs.YtflkljenkhjnfaaDoor
