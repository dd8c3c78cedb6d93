/-
  NumBack: what is written is read as it was. Condition: the listed variables read as the program's text lays them (the card ties them).
-/
import Derived.Test.YtflkljenkhjnfaaDoorLaid
import Derived.Test.YtflkljenkhjnfaaDoorPost
import Derived.Test.YtflkljenkhjnfaaDoorCards
import Derived.SevenTiedAt
import Derived.Test.YtflkljenkhjnfaaDoorLaid6
import Derived.Test.YtflkljenkhjnfaaDoorBack
namespace Go.Proofs.YtflkljenkhjnfaaDoor
open Go.ChangeShapes Go.WideShapes Go.ChangeAt Go.RowKit
open Cal
set_option linter.unusedVariables false

theorem itoa_len (n : Int) (h : In64 n) : (Lib.itoa n).length ≤ 281474976710656 := by
  have hu : n.natAbs < 18446744073709551616 := by unfold In64 at h; omega
  have hd := digits_len n.natAbs hu
  unfold Lib.itoa
  split
  · simp; omega
  · have e : n.toNat = n.natAbs := by omega
    rw [e]; omega
theorem decL_len (v : Int) (k : Nat) (h : In64 v) (hk : k ≤ 18) : (decL v k).length ≤ 140737488355328 := by
  have hu : v.natAbs < 18446744073709551616 := by unfold In64 at h; omega
  have hl := padL_len v.natAbs (k + 1) hu (by omega) (by omega)
  have hp : (ptL (padL v.natAbs (k + 1)) k).length ≤ 130 := by
    unfold ptL
    split
    · omega
    · simp [List.length_take, List.length_drop]; omega
  unfold decL
  split
  · simp; omega
  · omega
theorem backInt (n : Int) (h : In64 n) (w : World) (hV : VRange w) :
    Calls Tryd.prog 32 #[.string ⟨(Lib.itoa n).toArray⟩] w fun e w' => e = .returned (.tuple #[.int .i64 n, .int .i64 0]) ∧ Below w.heap.size w w' := by
  have hc := parseInt_any (Lib.itoa n) (itoa_len n h) w hV
  rwa [(itoa_read n h).1, (itoa_read n h).2] at hc
theorem backDec (v : Int) (k : Nat) (hv : fitsB v = true) (hk : k ≤ 18) (w : World) (hV : VRange w) :
    Calls Tryd.prog 34 #[.string ⟨(decL v k).toArray⟩] w fun e w' => e = .returned (.tuple #[.int .i64 v, .int .i64 k, .int .i64 0]) ∧ Below w.heap.size w w' := by
  have hc := parseDec_any (decL v k) (decL_len v k (fits64 hv) hk) w hV
  have hr := dec_read v k hv hk
  rwa [hr.1, hr.2.1, hr.2.2] at hc
theorem fitsT (v : Int) (b : Bool) (h : fitsB v = b) (w : World) : Calls Tryd.prog 30 #[.int .i64 v] w fun e w' => e = .returned (.bool b) ∧ w = w' := by
  have hc := fits_any v w
  rwa [h] at hc
/-- A day written and what it is read as. -/
def WDayPost (n : Int) (w : World) (e : Ending) (w' : World) : Prop :=
  ∃ l : List UInt8, e = .returned (.tuple #[.string ⟨l.toArray⟩, .int .i64 0]) ∧ (l.length : Int) = 10 ∧ (∀ W, MLaid W → Calls Tryd.prog 36 #[.string ⟨l.toArray⟩] W fun e w' => e = .returned (.tuple #[.int .i64 n, .int .i64 0]) ∧ Below W.heap.size W w') ∧ Below w.heap.size w w'
theorem backDay (n : Int) (w : World) (hM : MLaid w) (hP : PowLaid w) (h1 : -719162 ≤ n) (h2 : n ≤ 2932896) :
    Calls Tryd.prog 40 #[.int .i64 n] w (WDayPost n w) := by
  refine (formatDay_yes n w hM hP h1 h2).mono ?_
  rintro e w' ⟨y, m, d, rfl, hv, hn, hb⟩
  have hr := day_read n y m d hv hn
  refine ⟨dayL y m d, rfl, by omega, fun W hW => ?_, hb⟩
  have hc := parseDay_any (dayL y m d) (by omega) W hW
  rwa [hr.1, hr.2.1] at hc

set_option maxHeartbeats 1600000 in
theorem numBack_s0y (n k : Int) (w : World) (hn : In64 n) (hk : In64 k) (hM : MLaid w) (hP : PowLaid w) (hV : VRange w) (hs : isScaleB k = false) (hd1 : -719162 ≤ n) (hd2 : n ≤ 2932896) :
    Calls Tryd.prog 10 #[.int .i64 n, .int .i64 k] w fun e w' => e = .returned (.bool true) ∧ Below w.heap.size w w' := by
  go_enter Tryd.func10, Tryd.ntmps10
  have hB0 : Below w.heap.size w w := Below.refl _ _
  have hM0 := hM
  have hP0 := hP
  have hV0 := hV
  go_wp2_with fail
  refine (begun_any _ hM0 hP0).mono ?_
  rintro e w1 ⟨rfl, hb1⟩
  have hB1 := hB0.trans (hb1.mono hB0.size)
  have hM1 := hM.next hB1
  have hP1 := hP.below hB1
  have hV1 := hV.next hB1
  clear hb1
  go_wp2_with fail
  refine (formatInt_any n hn _ hP1).mono ?_
  rintro e w2 ⟨rfl, hb2⟩
  have hB2 := hB1.trans (hb2.mono hB1.size)
  have hM2 := hM.next hB2
  have hP2 := hP.below hB2
  have hV2 := hV.next hB2
  clear hb2
  go_wp2_with fail
  refine (backInt n hn _ hV2).mono ?_
  rintro e w3 ⟨rfl, hb3⟩
  have hB3 := hB2.trans (hb3.mono hB2.size)
  have hM3 := hM.next hB3
  have hP3 := hP.below hB3
  have hV3 := hV.next hB3
  clear hb3
  go_wp2_with fail
  refine (formatDec_no n k _ hs).mono ?_
  rintro e w' ⟨rfl, rfl⟩
  go_wp2_with fail
  refine (backDay n _ hM3 hP3 hd1 hd2).mono ?_
  rintro e w4 ⟨l, rfl, h10, HD, hb4⟩
  have hB4 := hB3.trans (hb4.mono hB3.size)
  have hM4 := hM.next hB4
  have hP4 := hP.below hB4
  have hV4 := hV.next hB4
  clear hb4
  go_wp2_with fail
  refine (HD _ hM4).mono ?_
  rintro e w5 ⟨rfl, hb5⟩
  have hB5 := hB4.trans (hb5.mono hB4.size)
  have hM5 := hM.next hB5
  have hP5 := hP.below hB5
  have hV5 := hV.next hB5
  clear hb5
  go_wp2
  go_ret
  exact ⟨rfl, hB5⟩

set_option maxHeartbeats 1600000 in
theorem numBack_s0l (n k : Int) (w : World) (hn : In64 n) (hk : In64 k) (hM : MLaid w) (hP : PowLaid w) (hV : VRange w) (hs : isScaleB k = false) (hd0 : n < -719162) :
    Calls Tryd.prog 10 #[.int .i64 n, .int .i64 k] w fun e w' => e = .returned (.bool true) ∧ Below w.heap.size w w' := by
  have hd : n < -719162 ∨ 2932896 < n := .inl hd0
  go_enter Tryd.func10, Tryd.ntmps10
  have hB0 : Below w.heap.size w w := Below.refl _ _
  have hM0 := hM
  have hP0 := hP
  have hV0 := hV
  go_wp2_with fail
  refine (begun_any _ hM0 hP0).mono ?_
  rintro e w1 ⟨rfl, hb1⟩
  have hB1 := hB0.trans (hb1.mono hB0.size)
  have hM1 := hM.next hB1
  have hP1 := hP.below hB1
  have hV1 := hV.next hB1
  clear hb1
  go_wp2_with fail
  refine (formatInt_any n hn _ hP1).mono ?_
  rintro e w2 ⟨rfl, hb2⟩
  have hB2 := hB1.trans (hb2.mono hB1.size)
  have hM2 := hM.next hB2
  have hP2 := hP.below hB2
  have hV2 := hV.next hB2
  clear hb2
  go_wp2_with fail
  refine (backInt n hn _ hV2).mono ?_
  rintro e w3 ⟨rfl, hb3⟩
  have hB3 := hB2.trans (hb3.mono hB2.size)
  have hM3 := hM.next hB3
  have hP3 := hP.below hB3
  have hV3 := hV.next hB3
  clear hb3
  go_wp2_with fail
  refine (formatDec_no n k _ hs).mono ?_
  rintro e w' ⟨rfl, rfl⟩
  go_wp2_with fail
  refine (formatDay_no n _ hd).mono ?_
  rintro e w' ⟨rfl, rfl⟩
  go_wp2
  go_ret
  exact ⟨rfl, hB3⟩

set_option maxHeartbeats 1600000 in
theorem numBack_s0g (n k : Int) (w : World) (hn : In64 n) (hk : In64 k) (hM : MLaid w) (hP : PowLaid w) (hV : VRange w) (hs : isScaleB k = false) (hd0 : 2932896 < n) :
    Calls Tryd.prog 10 #[.int .i64 n, .int .i64 k] w fun e w' => e = .returned (.bool true) ∧ Below w.heap.size w w' := by
  have hd : n < -719162 ∨ 2932896 < n := .inr hd0
  go_enter Tryd.func10, Tryd.ntmps10
  have hB0 : Below w.heap.size w w := Below.refl _ _
  have hM0 := hM
  have hP0 := hP
  have hV0 := hV
  go_wp2_with fail
  refine (begun_any _ hM0 hP0).mono ?_
  rintro e w1 ⟨rfl, hb1⟩
  have hB1 := hB0.trans (hb1.mono hB0.size)
  have hM1 := hM.next hB1
  have hP1 := hP.below hB1
  have hV1 := hV.next hB1
  clear hb1
  go_wp2_with fail
  refine (formatInt_any n hn _ hP1).mono ?_
  rintro e w2 ⟨rfl, hb2⟩
  have hB2 := hB1.trans (hb2.mono hB1.size)
  have hM2 := hM.next hB2
  have hP2 := hP.below hB2
  have hV2 := hV.next hB2
  clear hb2
  go_wp2_with fail
  refine (backInt n hn _ hV2).mono ?_
  rintro e w3 ⟨rfl, hb3⟩
  have hB3 := hB2.trans (hb3.mono hB2.size)
  have hM3 := hM.next hB3
  have hP3 := hP.below hB3
  have hV3 := hV.next hB3
  clear hb3
  go_wp2_with fail
  refine (formatDec_no n k _ hs).mono ?_
  rintro e w' ⟨rfl, rfl⟩
  go_wp2_with fail
  refine (formatDay_no n _ hd).mono ?_
  rintro e w' ⟨rfl, rfl⟩
  go_wp2
  go_ret
  exact ⟨rfl, hB3⟩

set_option maxHeartbeats 1600000 in
theorem numBack_s1f0y (n k : Int) (w : World) (hn : In64 n) (hk : In64 k) (hM : MLaid w) (hP : PowLaid w) (hV : VRange w) (hs : isScaleB k = true) (hf : fitsB n = false) (hd1 : -719162 ≤ n) (hd2 : n ≤ 2932896) :
    Calls Tryd.prog 10 #[.int .i64 n, .int .i64 k] w fun e w' => e = .returned (.bool true) ∧ Below w.heap.size w w' := by
  obtain ⟨j, rfl, hj⟩ : ∃ j : Nat, k = (j : Int) ∧ j ≤ 18 := ⟨k.toNat, by simp [isScaleB] at hs; omega, by simp [isScaleB] at hs; omega⟩
  clear hs
  go_enter Tryd.func10, Tryd.ntmps10
  have hB0 : Below w.heap.size w w := Below.refl _ _
  have hM0 := hM
  have hP0 := hP
  have hV0 := hV
  go_wp2_with fail
  refine (begun_any _ hM0 hP0).mono ?_
  rintro e w1 ⟨rfl, hb1⟩
  have hB1 := hB0.trans (hb1.mono hB0.size)
  have hM1 := hM.next hB1
  have hP1 := hP.below hB1
  have hV1 := hV.next hB1
  clear hb1
  go_wp2_with fail
  refine (formatInt_any n hn _ hP1).mono ?_
  rintro e w2 ⟨rfl, hb2⟩
  have hB2 := hB1.trans (hb2.mono hB1.size)
  have hM2 := hM.next hB2
  have hP2 := hP.below hB2
  have hV2 := hV.next hB2
  clear hb2
  go_wp2_with fail
  refine (backInt n hn _ hV2).mono ?_
  rintro e w3 ⟨rfl, hb3⟩
  have hB3 := hB2.trans (hb3.mono hB2.size)
  have hM3 := hM.next hB3
  have hP3 := hP.below hB3
  have hV3 := hV.next hB3
  clear hb3
  go_wp2_with fail
  refine (formatDec_yes n j hn hj _ hP3).mono ?_
  rintro e w4 ⟨rfl, hb4⟩
  have hB4 := hB3.trans (hb4.mono hB3.size)
  have hM4 := hM.next hB4
  have hP4 := hP.below hB4
  have hV4 := hV.next hB4
  clear hb4
  go_wp2_with fail
  refine (fitsT n false hf _).mono ?_
  rintro e w' ⟨rfl, rfl⟩
  go_wp2_with fail
  refine (backDay n _ hM4 hP4 hd1 hd2).mono ?_
  rintro e w5 ⟨l, rfl, h10, HD, hb5⟩
  have hB5 := hB4.trans (hb5.mono hB4.size)
  have hM5 := hM.next hB5
  have hP5 := hP.below hB5
  have hV5 := hV.next hB5
  clear hb5
  go_wp2_with fail
  refine (HD _ hM5).mono ?_
  rintro e w6 ⟨rfl, hb6⟩
  have hB6 := hB5.trans (hb6.mono hB5.size)
  have hM6 := hM.next hB6
  have hP6 := hP.below hB6
  have hV6 := hV.next hB6
  clear hb6
  go_wp2
  go_ret
  exact ⟨rfl, hB6⟩

set_option maxHeartbeats 1600000 in
theorem numBack_s1f0l (n k : Int) (w : World) (hn : In64 n) (hk : In64 k) (hM : MLaid w) (hP : PowLaid w) (hV : VRange w) (hs : isScaleB k = true) (hf : fitsB n = false) (hd0 : n < -719162) :
    Calls Tryd.prog 10 #[.int .i64 n, .int .i64 k] w fun e w' => e = .returned (.bool true) ∧ Below w.heap.size w w' := by
  obtain ⟨j, rfl, hj⟩ : ∃ j : Nat, k = (j : Int) ∧ j ≤ 18 := ⟨k.toNat, by simp [isScaleB] at hs; omega, by simp [isScaleB] at hs; omega⟩
  clear hs
  have hd : n < -719162 ∨ 2932896 < n := .inl hd0
  go_enter Tryd.func10, Tryd.ntmps10
  have hB0 : Below w.heap.size w w := Below.refl _ _
  have hM0 := hM
  have hP0 := hP
  have hV0 := hV
  go_wp2_with fail
  refine (begun_any _ hM0 hP0).mono ?_
  rintro e w1 ⟨rfl, hb1⟩
  have hB1 := hB0.trans (hb1.mono hB0.size)
  have hM1 := hM.next hB1
  have hP1 := hP.below hB1
  have hV1 := hV.next hB1
  clear hb1
  go_wp2_with fail
  refine (formatInt_any n hn _ hP1).mono ?_
  rintro e w2 ⟨rfl, hb2⟩
  have hB2 := hB1.trans (hb2.mono hB1.size)
  have hM2 := hM.next hB2
  have hP2 := hP.below hB2
  have hV2 := hV.next hB2
  clear hb2
  go_wp2_with fail
  refine (backInt n hn _ hV2).mono ?_
  rintro e w3 ⟨rfl, hb3⟩
  have hB3 := hB2.trans (hb3.mono hB2.size)
  have hM3 := hM.next hB3
  have hP3 := hP.below hB3
  have hV3 := hV.next hB3
  clear hb3
  go_wp2_with fail
  refine (formatDec_yes n j hn hj _ hP3).mono ?_
  rintro e w4 ⟨rfl, hb4⟩
  have hB4 := hB3.trans (hb4.mono hB3.size)
  have hM4 := hM.next hB4
  have hP4 := hP.below hB4
  have hV4 := hV.next hB4
  clear hb4
  go_wp2_with fail
  refine (fitsT n false hf _).mono ?_
  rintro e w' ⟨rfl, rfl⟩
  go_wp2_with fail
  refine (formatDay_no n _ hd).mono ?_
  rintro e w' ⟨rfl, rfl⟩
  go_wp2
  go_ret
  exact ⟨rfl, hB4⟩

set_option maxHeartbeats 1600000 in
theorem numBack_s1f0g (n k : Int) (w : World) (hn : In64 n) (hk : In64 k) (hM : MLaid w) (hP : PowLaid w) (hV : VRange w) (hs : isScaleB k = true) (hf : fitsB n = false) (hd0 : 2932896 < n) :
    Calls Tryd.prog 10 #[.int .i64 n, .int .i64 k] w fun e w' => e = .returned (.bool true) ∧ Below w.heap.size w w' := by
  obtain ⟨j, rfl, hj⟩ : ∃ j : Nat, k = (j : Int) ∧ j ≤ 18 := ⟨k.toNat, by simp [isScaleB] at hs; omega, by simp [isScaleB] at hs; omega⟩
  clear hs
  have hd : n < -719162 ∨ 2932896 < n := .inr hd0
  go_enter Tryd.func10, Tryd.ntmps10
  have hB0 : Below w.heap.size w w := Below.refl _ _
  have hM0 := hM
  have hP0 := hP
  have hV0 := hV
  go_wp2_with fail
  refine (begun_any _ hM0 hP0).mono ?_
  rintro e w1 ⟨rfl, hb1⟩
  have hB1 := hB0.trans (hb1.mono hB0.size)
  have hM1 := hM.next hB1
  have hP1 := hP.below hB1
  have hV1 := hV.next hB1
  clear hb1
  go_wp2_with fail
  refine (formatInt_any n hn _ hP1).mono ?_
  rintro e w2 ⟨rfl, hb2⟩
  have hB2 := hB1.trans (hb2.mono hB1.size)
  have hM2 := hM.next hB2
  have hP2 := hP.below hB2
  have hV2 := hV.next hB2
  clear hb2
  go_wp2_with fail
  refine (backInt n hn _ hV2).mono ?_
  rintro e w3 ⟨rfl, hb3⟩
  have hB3 := hB2.trans (hb3.mono hB2.size)
  have hM3 := hM.next hB3
  have hP3 := hP.below hB3
  have hV3 := hV.next hB3
  clear hb3
  go_wp2_with fail
  refine (formatDec_yes n j hn hj _ hP3).mono ?_
  rintro e w4 ⟨rfl, hb4⟩
  have hB4 := hB3.trans (hb4.mono hB3.size)
  have hM4 := hM.next hB4
  have hP4 := hP.below hB4
  have hV4 := hV.next hB4
  clear hb4
  go_wp2_with fail
  refine (fitsT n false hf _).mono ?_
  rintro e w' ⟨rfl, rfl⟩
  go_wp2_with fail
  refine (formatDay_no n _ hd).mono ?_
  rintro e w' ⟨rfl, rfl⟩
  go_wp2
  go_ret
  exact ⟨rfl, hB4⟩

set_option maxHeartbeats 1600000 in
theorem numBack_s1f1y (n k : Int) (w : World) (hn : In64 n) (hk : In64 k) (hM : MLaid w) (hP : PowLaid w) (hV : VRange w) (hs : isScaleB k = true) (hf : fitsB n = true) (hd1 : -719162 ≤ n) (hd2 : n ≤ 2932896) :
    Calls Tryd.prog 10 #[.int .i64 n, .int .i64 k] w fun e w' => e = .returned (.bool true) ∧ Below w.heap.size w w' := by
  obtain ⟨j, rfl, hj⟩ : ∃ j : Nat, k = (j : Int) ∧ j ≤ 18 := ⟨k.toNat, by simp [isScaleB] at hs; omega, by simp [isScaleB] at hs; omega⟩
  clear hs
  go_enter Tryd.func10, Tryd.ntmps10
  have hB0 : Below w.heap.size w w := Below.refl _ _
  have hM0 := hM
  have hP0 := hP
  have hV0 := hV
  go_wp2_with fail
  refine (begun_any _ hM0 hP0).mono ?_
  rintro e w1 ⟨rfl, hb1⟩
  have hB1 := hB0.trans (hb1.mono hB0.size)
  have hM1 := hM.next hB1
  have hP1 := hP.below hB1
  have hV1 := hV.next hB1
  clear hb1
  go_wp2_with fail
  refine (formatInt_any n hn _ hP1).mono ?_
  rintro e w2 ⟨rfl, hb2⟩
  have hB2 := hB1.trans (hb2.mono hB1.size)
  have hM2 := hM.next hB2
  have hP2 := hP.below hB2
  have hV2 := hV.next hB2
  clear hb2
  go_wp2_with fail
  refine (backInt n hn _ hV2).mono ?_
  rintro e w3 ⟨rfl, hb3⟩
  have hB3 := hB2.trans (hb3.mono hB2.size)
  have hM3 := hM.next hB3
  have hP3 := hP.below hB3
  have hV3 := hV.next hB3
  clear hb3
  go_wp2_with fail
  refine (formatDec_yes n j hn hj _ hP3).mono ?_
  rintro e w4 ⟨rfl, hb4⟩
  have hB4 := hB3.trans (hb4.mono hB3.size)
  have hM4 := hM.next hB4
  have hP4 := hP.below hB4
  have hV4 := hV.next hB4
  clear hb4
  go_wp2_with fail
  refine (fitsT n true hf _).mono ?_
  rintro e w' ⟨rfl, rfl⟩
  go_wp2_with fail
  refine (backDec n j hf hj _ hV4).mono ?_
  rintro e w5 ⟨rfl, hb5⟩
  have hB5 := hB4.trans (hb5.mono hB4.size)
  have hM5 := hM.next hB5
  have hP5 := hP.below hB5
  have hV5 := hV.next hB5
  clear hb5
  go_wp2_with fail
  refine (backDay n _ hM5 hP5 hd1 hd2).mono ?_
  rintro e w6 ⟨l, rfl, h10, HD, hb6⟩
  have hB6 := hB5.trans (hb6.mono hB5.size)
  have hM6 := hM.next hB6
  have hP6 := hP.below hB6
  have hV6 := hV.next hB6
  clear hb6
  go_wp2_with fail
  refine (HD _ hM6).mono ?_
  rintro e w7 ⟨rfl, hb7⟩
  have hB7 := hB6.trans (hb7.mono hB6.size)
  have hM7 := hM.next hB7
  have hP7 := hP.below hB7
  have hV7 := hV.next hB7
  clear hb7
  go_wp2
  go_ret
  exact ⟨rfl, hB7⟩

set_option maxHeartbeats 1600000 in
theorem numBack_s1f1l (n k : Int) (w : World) (hn : In64 n) (hk : In64 k) (hM : MLaid w) (hP : PowLaid w) (hV : VRange w) (hs : isScaleB k = true) (hf : fitsB n = true) (hd0 : n < -719162) :
    Calls Tryd.prog 10 #[.int .i64 n, .int .i64 k] w fun e w' => e = .returned (.bool true) ∧ Below w.heap.size w w' := by
  obtain ⟨j, rfl, hj⟩ : ∃ j : Nat, k = (j : Int) ∧ j ≤ 18 := ⟨k.toNat, by simp [isScaleB] at hs; omega, by simp [isScaleB] at hs; omega⟩
  clear hs
  have hd : n < -719162 ∨ 2932896 < n := .inl hd0
  go_enter Tryd.func10, Tryd.ntmps10
  have hB0 : Below w.heap.size w w := Below.refl _ _
  have hM0 := hM
  have hP0 := hP
  have hV0 := hV
  go_wp2_with fail
  refine (begun_any _ hM0 hP0).mono ?_
  rintro e w1 ⟨rfl, hb1⟩
  have hB1 := hB0.trans (hb1.mono hB0.size)
  have hM1 := hM.next hB1
  have hP1 := hP.below hB1
  have hV1 := hV.next hB1
  clear hb1
  go_wp2_with fail
  refine (formatInt_any n hn _ hP1).mono ?_
  rintro e w2 ⟨rfl, hb2⟩
  have hB2 := hB1.trans (hb2.mono hB1.size)
  have hM2 := hM.next hB2
  have hP2 := hP.below hB2
  have hV2 := hV.next hB2
  clear hb2
  go_wp2_with fail
  refine (backInt n hn _ hV2).mono ?_
  rintro e w3 ⟨rfl, hb3⟩
  have hB3 := hB2.trans (hb3.mono hB2.size)
  have hM3 := hM.next hB3
  have hP3 := hP.below hB3
  have hV3 := hV.next hB3
  clear hb3
  go_wp2_with fail
  refine (formatDec_yes n j hn hj _ hP3).mono ?_
  rintro e w4 ⟨rfl, hb4⟩
  have hB4 := hB3.trans (hb4.mono hB3.size)
  have hM4 := hM.next hB4
  have hP4 := hP.below hB4
  have hV4 := hV.next hB4
  clear hb4
  go_wp2_with fail
  refine (fitsT n true hf _).mono ?_
  rintro e w' ⟨rfl, rfl⟩
  go_wp2_with fail
  refine (backDec n j hf hj _ hV4).mono ?_
  rintro e w5 ⟨rfl, hb5⟩
  have hB5 := hB4.trans (hb5.mono hB4.size)
  have hM5 := hM.next hB5
  have hP5 := hP.below hB5
  have hV5 := hV.next hB5
  clear hb5
  go_wp2_with fail
  refine (formatDay_no n _ hd).mono ?_
  rintro e w' ⟨rfl, rfl⟩
  go_wp2
  go_ret
  exact ⟨rfl, hB5⟩

set_option maxHeartbeats 1600000 in
theorem numBack_s1f1g (n k : Int) (w : World) (hn : In64 n) (hk : In64 k) (hM : MLaid w) (hP : PowLaid w) (hV : VRange w) (hs : isScaleB k = true) (hf : fitsB n = true) (hd0 : 2932896 < n) :
    Calls Tryd.prog 10 #[.int .i64 n, .int .i64 k] w fun e w' => e = .returned (.bool true) ∧ Below w.heap.size w w' := by
  obtain ⟨j, rfl, hj⟩ : ∃ j : Nat, k = (j : Int) ∧ j ≤ 18 := ⟨k.toNat, by simp [isScaleB] at hs; omega, by simp [isScaleB] at hs; omega⟩
  clear hs
  have hd : n < -719162 ∨ 2932896 < n := .inr hd0
  go_enter Tryd.func10, Tryd.ntmps10
  have hB0 : Below w.heap.size w w := Below.refl _ _
  have hM0 := hM
  have hP0 := hP
  have hV0 := hV
  go_wp2_with fail
  refine (begun_any _ hM0 hP0).mono ?_
  rintro e w1 ⟨rfl, hb1⟩
  have hB1 := hB0.trans (hb1.mono hB0.size)
  have hM1 := hM.next hB1
  have hP1 := hP.below hB1
  have hV1 := hV.next hB1
  clear hb1
  go_wp2_with fail
  refine (formatInt_any n hn _ hP1).mono ?_
  rintro e w2 ⟨rfl, hb2⟩
  have hB2 := hB1.trans (hb2.mono hB1.size)
  have hM2 := hM.next hB2
  have hP2 := hP.below hB2
  have hV2 := hV.next hB2
  clear hb2
  go_wp2_with fail
  refine (backInt n hn _ hV2).mono ?_
  rintro e w3 ⟨rfl, hb3⟩
  have hB3 := hB2.trans (hb3.mono hB2.size)
  have hM3 := hM.next hB3
  have hP3 := hP.below hB3
  have hV3 := hV.next hB3
  clear hb3
  go_wp2_with fail
  refine (formatDec_yes n j hn hj _ hP3).mono ?_
  rintro e w4 ⟨rfl, hb4⟩
  have hB4 := hB3.trans (hb4.mono hB3.size)
  have hM4 := hM.next hB4
  have hP4 := hP.below hB4
  have hV4 := hV.next hB4
  clear hb4
  go_wp2_with fail
  refine (fitsT n true hf _).mono ?_
  rintro e w' ⟨rfl, rfl⟩
  go_wp2_with fail
  refine (backDec n j hf hj _ hV4).mono ?_
  rintro e w5 ⟨rfl, hb5⟩
  have hB5 := hB4.trans (hb5.mono hB4.size)
  have hM5 := hM.next hB5
  have hP5 := hP.below hB5
  have hV5 := hV.next hB5
  clear hb5
  go_wp2_with fail
  refine (formatDay_no n _ hd).mono ?_
  rintro e w' ⟨rfl, rfl⟩
  go_wp2
  go_ret
  exact ⟨rfl, hB5⟩

theorem numBack_walk (n k : Int) (w : World) (hn : In64 n) (hk : In64 k) (hM : MLaid w) (hP : PowLaid w) (hV : VRange w) :
    Calls Tryd.prog 10 #[.int .i64 n, .int .i64 k] w fun e w' => e = .returned (.bool true) ∧ Below w.heap.size w w' := by
  have hd : n < -719162 ∨ 2932896 < n ∨ (-719162 ≤ n ∧ n ≤ 2932896) := by omega
  cases hs : isScaleB k
  · skip
    rcases hd with hd | hd | ⟨hd1, hd2⟩
    · exact numBack_s0l n k w hn hk hM hP hV hs hd
    · exact numBack_s0g n k w hn hk hM hP hV hs hd
    · exact numBack_s0y n k w hn hk hM hP hV hs hd1 hd2
  · cases hf : fitsB n
    · skip
      rcases hd with hd | hd | ⟨hd1, hd2⟩
      · exact numBack_s1f0l n k w hn hk hM hP hV hs hf hd
      · exact numBack_s1f0g n k w hn hk hM hP hV hs hf hd
      · exact numBack_s1f0y n k w hn hk hM hP hV hs hf hd1 hd2
    · skip
      rcases hd with hd | hd | ⟨hd1, hd2⟩
      · exact numBack_s1f1l n k w hn hk hM hP hV hs hf hd
      · exact numBack_s1f1g n k w hn hk hM hP hV hs hf hd
      · exact numBack_s1f1y n k w hn hk hM hP hV hs hf hd1 hd2

set_option maxRecDepth 100000 in
theorem numBack_lifted (os : Os) (started : os.Started) (H : Type) (enc : TypeId × Value → H) :
    ReturnsInHanded {} Tryd.checked os 10 .any (fun w args => (Rows.numBackSpec.pre enc Tryd.prog Tryd.f10 [] false w args ∧ laidMetH Tryd.prog laid6 w) ∧ sizedMet enc Tryd.prog Tryd.f10 (OpenSpec.ofChange Rows.numBackSpec) false w args)
      (Rows.numBackSpec.post enc Tryd.prog Tryd.f10 false true false false) := by
  refine returnsInHanded_of_change_and (C := Tryd.checked) (X := fun w _ => laidMetH Tryd.prog laid6 w) (fun _ _ _ hh h => h.of_heap hh) own started (by kernel_rfl) Tryd.func10
    (ChangeSpec.witness_shaped (enc := enc) (C := Tryd.checked) (os := os) (X := fun w _ => laidMetH Tryd.prog laid6 w) false (World.doorLaid Tryd.prog 400 os) #[.int .i64 0, .int .i64 0] 8 rfl (World.shaped_of_RefB (by kernel_rfl) (by kernel_rfl)) (by kernel_rfl) (by kernel_rfl) (by kernel_rfl) (door_met6 os _)) ?_
  intro W base args ds gs before hval0 hW _ _ hL _
  have hval : ∀ (j : Nat) t v, Tryd.f10.params[j]? = some t → args[j]? = some v → Value.okWide Tryd.prog W .any base t v := hval0
  have hW' := hW
  obtain ⟨p, q, hA0, hV, rfl, hfz, hnd⟩ := hW
  have hA : DataW.TrodAll enc Tryd.prog W 0 (fun _ => true) true Tryd.f10.params.toList args.toList ds p := hA0
  rw [Tryd.params10] at hA hval
  obtain ⟨v0, vs0, d0, ds0, p0, q0, hargs, rfl, rfl, h0, r0⟩ := trodAll_cons hA
  obtain ⟨v1, vs1, d1, ds1, p1, q1, rfl, rfl, rfl, h1, r1⟩ := trodAll_cons r0
  obtain ⟨rfl, rfl, rfl⟩ := trodAll_nil r1
  obtain rfl : args = #[v0, v1] := by cases args; simp_all
  obtain ⟨rfl, rfl⟩ := trodVars_none hV
  obtain ⟨a, rfl, rfl, rfl, w0⟩ := open_int Tryd.underlying2 (hval 0 2 v0 rfl rfl) h0
  obtain ⟨b, rfl, rfl, rfl, w1⟩ := open_int Tryd.underlying3 (hval 1 3 v1 rfl rfl) h1
  obtain ⟨hM, hP, hV⟩ := of_laid6 hL
  clear hA0 hval0
  simp only [List.append_nil] at hW'
  refine (numBack_walk a b W (in64_of w0) (in64_of w1) hM hP hV).mono fun e W' ⟨he, hg⟩ => ?_
  subst he
  exact ⟨_, rfl, post_of_below (pa := []) (pv := []) hW' (fun _ _ _ => (trodAll_cons_mk (shut_bool Tryd.underlying4 _) trodAll_mk0)) (fun sp _ => (trodAll_cons_mk (shut_int Tryd.underlying2 w0) (trodAll_cons_mk (shut_int Tryd.underlying3 w1) trodAll_mk0))) (fun _ _ => rfl) rfl hg (ok_one (by kernel_rfl) rfl (okWide_bool_mk Tryd.underlying4 _))⟩

theorem numBack_holds : Rows.NumBackSaid :=
  OpenClaim.holds_of_wide 10 Tryd.f10 rfl rfl rfl rfl rfl rfl rfl ⟨rfl, rfl, rfl, rfl, rfl⟩ rfl rfl rfl rfl rfl (by kernel_rfl) Tryd.func10 (by kernel_rfl)
    (of_decide_eq_true (by kernel_rfl)) (by unfold Func.isWrapper; first | (rw [if_pos (by decide +kernel)]; kernel_rfl) | (rw [if_neg (by decide +kernel)]; exact ⟨rfl, rfl⟩))
    (fun os started H enc _ => numBack_lifted os started H enc)

theorem numBack_card : Rows.NumBackCardSaid :=
  Claim7.holds_tied_plain_at .later [] [.data, .data, .data, .sentinel, .sentinel, .data] true Rows.numBackCard.stood.harness true
    numBack_holds (fun _ h => by cases h) (by kernel_rfl) (fun _ h => by cases h) numBack_row_tie rfl ⟨rfl, rfl⟩ (by kernel_rfl) rfl
    (fun f fn hf hfn => by
      obtain rfl : f = 10 := Option.some.inj ((show Tryd.prog.funcNamed "colonnade/colonnadelaw01.NumBack" = some 10 by kernel_rfl).symm.trans hf) |>.symm
      obtain rfl : fn = Tryd.f10 := (Option.some.inj (Tryd.func10.symm.trans hfn)).symm
      exact ⟨by kernel_rfl, fun j t ht => by
        rw [Tryd.params10] at ht
        have hm : t ∈ [2, 3] := by simpa using Array.mem_of_getElem? ht
        have hall : ([2, 3].all fun u => !Tryd.prog.wantsStandIn u) = true := by kernel_rfl
        exact (show Tryd.prog.wantsStandIn t = false by simpa using List.all_eq_true.1 hall t hm)⟩)
    (by kernel_rfl)
end Go.Proofs.YtflkljenkhjnfaaDoor
