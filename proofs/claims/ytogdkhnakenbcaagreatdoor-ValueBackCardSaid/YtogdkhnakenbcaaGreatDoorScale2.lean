/-
  Contracts of the decimals, second part: Scale and the document's Scale.
-/
import Derived.Test.YtogdkhnakenbcaaGreatDoorScale
namespace Go.Proofs.YtogdkhnakenbcaaGreatDoor
open Go.ChangeShapes Go.WideShapes Go.ChangeAt Go.RowKit
set_option linter.unusedVariables false

theorem isScale_yes {k : Nat} (h : k ≤ 18) : isScaleB (k : Int) = true := by simp [isScaleB]; omega
theorem scale_no1 (v f t : Int) (w : World) (hf : isScaleB f = false) :
    Calls Tryz.prog 76 #[.int .i64 v, .int .i64 f, .int .i64 t] w fun e w' => e = .returned (.tuple #[.int .i64 0, .int .i64 1]) ∧ w = w' := by
  go_enter Tryz.func76, Tryz.ntmps76
  go_wp2_with (go_at_call 87; refine (isScale_any _ _).mono ?_; rintro e w' ⟨rfl, rfl⟩)
  go_ret2
  exact ⟨rfl, rfl⟩
theorem scale_no2 (v f t : Int) (w : World) (hf : isScaleB f = true) (ht : isScaleB t = false) :
    Calls Tryz.prog 76 #[.int .i64 v, .int .i64 f, .int .i64 t] w fun e w' => e = .returned (.tuple #[.int .i64 0, .int .i64 1]) ∧ w = w' := by
  go_enter Tryz.func76, Tryz.ntmps76
  go_wp2_with (go_at_call 87; refine (isScale_any _ _).mono ?_; rintro e w' ⟨rfl, rfl⟩)
  go_ret2
  exact ⟨rfl, rfl⟩
theorem scale_nofit (v f t : Int) (w : World) (hf : isScaleB f = true) (ht : isScaleB t = true) (hv : fitsB v = false) :
    Calls Tryz.prog 76 #[.int .i64 v, .int .i64 f, .int .i64 t] w fun e w' => e = .returned (.tuple #[.int .i64 0, .int .i64 10]) ∧ w = w' := by
  go_enter Tryz.func76, Tryz.ntmps76
  go_wp2_with (first | (go_at_call 87; refine (isScale_any _ _).mono ?_; rintro e w' ⟨rfl, rfl⟩) | (go_at_call 71; refine (fits_any _ _).mono ?_; rintro e w' ⟨rfl, rfl⟩))
  go_ret2
  exact ⟨rfl, rfl⟩
set_option maxHeartbeats 800000 in
theorem scale_down (v : Int) (f t : Nat) (w : World) (hf : f ≤ 18) (ht : t < f) (hv : fitsB v = true) :
    Calls Tryz.prog 76 #[.int .i64 v, .int .i64 f, .int .i64 t] w fun e w' => e = .returned (.tuple #[.int .i64 (sv (rnd v.natAbs (10 ^ (f - t))) (decide (v < 0))), .int .i64 0]) ∧ Below w.heap.size w w' := by
  have s1 := isScale_yes hf
  have s2 := isScale_yes (show t ≤ 18 by omega)
  have HK : Hid ((f : Int) - (t : Int) = ((f - t : Nat) : Int)) := by show _ = _; omega
  have hp := p10_bd (f - t) (by omega)
  have HD : Calls Tryz.prog 107 #[.int .i64 v, .int .i64 (p10 (f - t))] w fun e w' => e = .returned (.int .i64 (sv (rnd v.natAbs (10 ^ (f - t))) (decide (v < 0)))) ∧ Below w.heap.size w w' :=
    divideRounded_any v (10 ^ (f - t)) hv (by unfold p10 at hp; omega) (by unfold p10 at hp; omega) w
  have HH := Lib.hid HD
  clear HD
  go_enter Tryz.func76, Tryz.ntmps76
  go_wp2_with (first | (go_at_call 87; refine (isScale_any _ _).mono ?_; rintro e w' ⟨rfl, rfl⟩) | (go_at_call 71; refine (fits_any _ _).mono ?_; rintro e w' ⟨rfl, rfl⟩) | (go_at_call 108; rw [HK.out]; refine (power_any _ (by omega) _).mono ?_; rintro e w' ⟨rfl, rfl⟩) | (go_at_call 107; refine HH.out.mono ?_; rintro e w' ⟨rfl, hb⟩))
  go_ret2
  exact ⟨rfl, hb⟩
/-- What stands behind more digits, where it fits. -/
def upV (x : Int) : Int := if fitsB x = true then x else 0
def upE (x : Int) : Int := if fitsB x = true then 0 else 10
theorem up_in {x : Int} (h : fitsB x = true) : upV x = x ∧ upE x = 0 := ⟨if_pos h, if_pos h⟩
theorem up_out {x : Int} (h : fitsB x = false) : upV x = 0 ∧ upE x = 10 := ⟨if_neg (by simp [h]), if_neg (by simp [h])⟩
theorem fits64 {x : Int} (h : fitsB x = true) : In64 x := by have := fits_in h; unfold In64; omega
theorem fits_out {x : Int} (h : ¬ In64 x) : fitsB x = false := by
  cases hf : fitsB x
  · rfl
  · exact absurd (fits64 hf) h
set_option maxHeartbeats 1600000 in
theorem scale_up (v : Int) (f t : Nat) (w : World) (hf : f ≤ t) (ht : t ≤ 18) (hv : fitsB v = true) :
    Calls Tryz.prog 76 #[.int .i64 v, .int .i64 f, .int .i64 t] w fun e w' => e = .returned (.tuple #[.int .i64 (upV (v * p10 (t - f))), .int .i64 (upE (v * p10 (t - f)))]) ∧ Below w.heap.size w w' := by
  have s1 := isScale_yes (show f ≤ 18 by omega)
  have s2 := isScale_yes ht
  have HK : Hid ((t : Int) - (f : Int) = ((t - f : Nat) : Int)) := by show _ = _; omega
  have hp := p10_bd (t - f) (by omega)
  have hM := mul_any v (p10 (t - f)) w (fits64 hv) (by unfold In64; omega)
  generalize v * p10 (t - f) = x at *
  by_cases hx : In64 x
  · rw [okOr_in hx, errOr_in hx] at hM
    have HH := Lib.hid hM
    clear hM
    by_cases hfx : fitsB x = true
    · have HU1 := Lib.hid (up_in hfx).1
      have HU2 := Lib.hid (up_in hfx).2
      go_enter Tryz.func76, Tryz.ntmps76
      go_wp2_with (first | (go_at_call 87; refine (isScale_any _ _).mono ?_; rintro e w' ⟨rfl, rfl⟩) | (go_at_call 71; refine (fits_any _ _).mono ?_; rintro e w' ⟨rfl, rfl⟩) | (go_at_call 108; rw [HK.out]; refine (power_any _ (by omega) _).mono ?_; rintro e w' ⟨rfl, rfl⟩) | (go_at_call 109; refine HH.out.mono ?_; rintro e w' ⟨rfl, hb⟩))
      go_ret2
      exact ⟨ret_pair HU1.out.symm HU2.out.symm, hb⟩
    · have hfx' : fitsB x = false := by simpa using hfx
      have HU1 := Lib.hid (up_out hfx').1
      have HU2 := Lib.hid (up_out hfx').2
      clear hfx
      go_enter Tryz.func76, Tryz.ntmps76
      go_wp2_with (first | (go_at_call 87; refine (isScale_any _ _).mono ?_; rintro e w' ⟨rfl, rfl⟩) | (go_at_call 71; refine (fits_any _ _).mono ?_; rintro e w' ⟨rfl, rfl⟩) | (go_at_call 108; rw [HK.out]; refine (power_any _ (by omega) _).mono ?_; rintro e w' ⟨rfl, rfl⟩) | (go_at_call 109; refine HH.out.mono ?_; rintro e w' ⟨rfl, hb⟩))
      go_ret2
      exact ⟨ret_pair HU1.out.symm HU2.out.symm, hb⟩
  · rw [okOr_out hx, errOr_out hx] at hM
    have HH := Lib.hid hM
    have HU1 := Lib.hid (up_out (fits_out hx)).1
    have HU2 := Lib.hid (up_out (fits_out hx)).2
    clear hM
    go_enter Tryz.func76, Tryz.ntmps76
    go_wp2_with (first | (go_at_call 87; refine (isScale_any _ _).mono ?_; rintro e w' ⟨rfl, rfl⟩) | (go_at_call 71; refine (fits_any _ _).mono ?_; rintro e w' ⟨rfl, rfl⟩) | (go_at_call 108; rw [HK.out]; refine (power_any _ (by omega) _).mono ?_; rintro e w' ⟨rfl, rfl⟩) | (go_at_call 109; refine HH.out.mono ?_; rintro e w' ⟨rfl, hb⟩))
    go_ret2
    exact ⟨ret_pair HU1.out.symm HU2.out.symm, hb⟩

theorem refScale_no1 (v f t : Int) (w : World) (hf : isScaleB f = false) :
    Calls Tryz.prog 28 #[.int .i64 v, .int .i64 f, .int .i64 t] w fun e w' => e = .returned (.tuple #[.int .i64 0, .int .i64 1]) ∧ w = w' := by
  have h := scale_out hf
  clear hf
  rcases h with h | h
  all_goals
    go_enter Tryz.func28, Tryz.ntmps28
    go_wp2
    go_ret2
    exact ⟨rfl, rfl⟩
theorem scale_in {k : Int} (h : isScaleB k = true) : 0 ≤ k ∧ k ≤ 18 := by simpa [isScaleB] using h
theorem refScale_no2 (v f t : Int) (w : World) (hf : isScaleB f = true) (ht : isScaleB t = false) :
    Calls Tryz.prog 28 #[.int .i64 v, .int .i64 f, .int .i64 t] w fun e w' => e = .returned (.tuple #[.int .i64 0, .int .i64 1]) ∧ w = w' := by
  have h := scale_out ht
  have h' := scale_in hf
  clear hf ht
  rcases h with h | h
  all_goals
    go_enter Tryz.func28, Tryz.ntmps28
    go_wp2
    go_ret2
    exact ⟨rfl, rfl⟩
theorem refScale_nofit (v f t : Int) (w : World) (hf : isScaleB f = true) (ht : isScaleB t = true) (hv : fitsB v = false) :
    Calls Tryz.prog 28 #[.int .i64 v, .int .i64 f, .int .i64 t] w fun e w' => e = .returned (.tuple #[.int .i64 0, .int .i64 10]) ∧ w = w' := by
  have h := scale_in ht
  have h' := scale_in hf
  clear hf ht
  go_enter Tryz.func28, Tryz.ntmps28
  go_wp2_with (first | (go_at_call 52; refine (refFits_any _ _).mono ?_; rintro e w' ⟨rfl, rfl⟩))
  go_ret2
  exact ⟨rfl, rfl⟩
set_option maxHeartbeats 1600000 in
theorem refScale_up (v : Int) (f t : Nat) (w : World) (hf : f ≤ t) (ht : t ≤ 18) (hv : fitsB v = true) :
    Calls Tryz.prog 28 #[.int .i64 v, .int .i64 f, .int .i64 t] w fun e w' => e = .returned (.tuple #[.int .i64 (upV (v * p10 (t - f))), .int .i64 (upE (v * p10 (t - f)))]) ∧ w = w' := by
  have HK : Hid ((t : Int) - (f : Int) = ((t - f : Nat) : Int)) := by show _ = _; omega
  have hp := p10_bd (t - f) (by omega)
  have hM := refMul_any v (p10 (t - f)) w (fits64 hv) (by unfold In64; omega)
  generalize v * p10 (t - f) = x at *
  by_cases hx : In64 x
  · rw [okOr_in hx, errOr_in hx] at hM
    have HH := Lib.hid hM
    clear hM
    by_cases hfx : fitsB x = true
    · have HU1 := Lib.hid (up_in hfx).1
      have HU2 := Lib.hid (up_in hfx).2
      go_enter Tryz.func28, Tryz.ntmps28
      go_wp2_with (first | (go_at_call 52; refine (refFits_any _ _).mono ?_; rintro e w' ⟨rfl, rfl⟩) | (go_at_call 53; rw [HK.out]; refine (refPow10_yes _ (by omega) _).mono ?_; rintro e w' ⟨rfl, rfl⟩) | (go_at_call 54; refine HH.out.mono ?_; rintro e w' ⟨rfl, rfl⟩))
      go_ret2
      exact ⟨ret_pair HU1.out.symm HU2.out.symm, rfl⟩
    · have hfx' : fitsB x = false := by simpa using hfx
      have HU1 := Lib.hid (up_out hfx').1
      have HU2 := Lib.hid (up_out hfx').2
      clear hfx
      go_enter Tryz.func28, Tryz.ntmps28
      go_wp2_with (first | (go_at_call 52; refine (refFits_any _ _).mono ?_; rintro e w' ⟨rfl, rfl⟩) | (go_at_call 53; rw [HK.out]; refine (refPow10_yes _ (by omega) _).mono ?_; rintro e w' ⟨rfl, rfl⟩) | (go_at_call 54; refine HH.out.mono ?_; rintro e w' ⟨rfl, rfl⟩))
      go_ret2
      exact ⟨ret_pair HU1.out.symm HU2.out.symm, rfl⟩
  · rw [okOr_out hx, errOr_out hx] at hM
    have HH := Lib.hid hM
    have HU1 := Lib.hid (up_out (fits_out hx)).1
    have HU2 := Lib.hid (up_out (fits_out hx)).2
    clear hM
    go_enter Tryz.func28, Tryz.ntmps28
    go_wp2_with (first | (go_at_call 52; refine (refFits_any _ _).mono ?_; rintro e w' ⟨rfl, rfl⟩) | (go_at_call 53; rw [HK.out]; refine (refPow10_yes _ (by omega) _).mono ?_; rintro e w' ⟨rfl, rfl⟩) | (go_at_call 54; refine HH.out.mono ?_; rintro e w' ⟨rfl, rfl⟩))
    go_ret2
    exact ⟨ret_pair HU1.out.symm HU2.out.symm, rfl⟩
set_option maxHeartbeats 1600000 in
theorem refScale_down (v : Int) (f t : Nat) (w : World) (hf : f ≤ 18) (ht : t < f) (hv : fitsB v = true) :
    Calls Tryz.prog 28 #[.int .i64 v, .int .i64 f, .int .i64 t] w fun e w' => e = .returned (.tuple #[.int .i64 (sv (rnd v.natAbs (10 ^ (f - t))) (decide (v < 0))), .int .i64 0]) ∧ w = w' := by
  have HK : Hid ((f : Int) - (t : Int) = ((f - t : Nat) : Int)) := by show _ = _; omega
  have hp := p10_bd (f - t) (by omega)
  obtain ⟨P, eP⟩ : ∃ P, P = 10 ^ (f - t) := ⟨_, rfl⟩
  have HPw : Calls Tryz.prog 53 #[.int .i64 ((f - t : Nat) : Int)] w fun e w' => e = .returned (.tuple #[.int .i64 (P : Int), .int .i64 0]) ∧ w = w' := by rw [eP]; exact refPow10_yes _ (by omega) w
  have HHP := Lib.hid HPw
  clear HPw
  unfold p10 at hp
  rw [← eP] at hp ⊢
  clear eP
  have hvf := fits_in hv
  have hv64 := fits64 hv
  obtain ⟨N, eN⟩ : ∃ N, N = v.natAbs := ⟨_, rfl⟩
  have hN : N ≤ 999999999999999999 := by omega
  have HA : Calls Tryz.prog 55 #[.int .i64 v] w fun e w' => e = .returned (.int .u64 (N : Int)) ∧ w = w' := by rw [eN]; exact amount_any v w hv64
  have HHA := Lib.hid HA
  clear HA
  rw [← eN]
  clear eN
  have q0 : N / P ≤ N := Nat.div_le_self _ _
  have r0 : N % P < P := Nat.mod_lt _ (by omega)
  have q1 : (0 : Int) ≤ (N : Int) / (P : Int) ∧ (N : Int) / (P : Int) ≤ 999999999999999999 := by
    have : ((N : Int) / (P : Int)) = ((N / P : Nat) : Int) := rfl
    rw [this]; generalize N / P = q at *; omega
  have r1 : (0 : Int) ≤ (N : Int) % (P : Int) ∧ (N : Int) % (P : Int) < (P : Int) := by
    have : ((N : Int) % (P : Int)) = ((N % P : Nat) : Int) := rfl
    rw [this]; generalize N % P = q at *; omega
  by_cases hr : P ≤ 2 * (N % P)
  · have HS : Calls Tryz.prog 56 #[.int .u64 ((N : Int) / (P : Int) + 1), .bool (decide (v < 0))] w fun e w' => e = .returned (.tuple #[.int .i64 (sv (rnd N P) (decide (v < 0))), .int .i64 0]) ∧ w = w' := by
      have h := signed_any (N / P + 1) (decide (v < 0)) (by omega) w
      have e : rnd N P = N / P + 1 := by unfold rnd; rw [if_pos hr]
      have hin : In64 (sv (N / P + 1) (decide (v < 0))) := by
        have := sv_bd (N / P + 1) (decide (v < 0))
        unfold In64; generalize N / P = q at *; omega
      rw [okOr_in hin, errOr_in hin] at h
      rw [e]
      exact h
    have HH := Lib.hid HS
    have hd : decide ((P : Int) ≤ 2 * ((N : Int) % (P : Int))) = true := by
      have : ((N : Int) % (P : Int)) = ((N % P : Nat) : Int) := rfl
      rw [this]; generalize N % P = q at *; simp; omega
    clear HS hr q0 r0
    go_enter Tryz.func28, Tryz.ntmps28
    go_wp2_with (first | (go_at_call 52; refine (refFits_any _ _).mono ?_; rintro e w' ⟨rfl, rfl⟩) | (go_at_call 53; rw [HK.out]; refine HHP.out.mono ?_; rintro e w' ⟨rfl, rfl⟩) | (go_at_call 55; refine HHA.out.mono ?_; rintro e w' ⟨rfl, rfl⟩) | (go_at_call 56; refine HH.out.mono ?_; rintro e w' ⟨rfl, rfl⟩))
    go_ret2
    exact ⟨rfl, rfl⟩
  · have HS : Calls Tryz.prog 56 #[.int .u64 ((N : Int) / (P : Int)), .bool (decide (v < 0))] w fun e w' => e = .returned (.tuple #[.int .i64 (sv (rnd N P) (decide (v < 0))), .int .i64 0]) ∧ w = w' := by
      have h := signed_any (N / P) (decide (v < 0)) (by omega) w
      have e : rnd N P = N / P := by unfold rnd; rw [if_neg hr]; rfl
      have hin : In64 (sv (N / P) (decide (v < 0))) := by
        have := sv_bd (N / P) (decide (v < 0))
        unfold In64; generalize N / P = q at *; omega
      rw [okOr_in hin, errOr_in hin] at h
      rw [e]
      exact h
    have HH := Lib.hid HS
    have hd : decide ((P : Int) ≤ 2 * ((N : Int) % (P : Int))) = false := by
      have : ((N : Int) % (P : Int)) = ((N % P : Nat) : Int) := rfl
      rw [this]; generalize N % P = q at *; simp; omega
    clear HS hr q0 r0
    go_enter Tryz.func28, Tryz.ntmps28
    go_wp2_with (first | (go_at_call 52; refine (refFits_any _ _).mono ?_; rintro e w' ⟨rfl, rfl⟩) | (go_at_call 53; rw [HK.out]; refine HHP.out.mono ?_; rintro e w' ⟨rfl, rfl⟩) | (go_at_call 55; refine HHA.out.mono ?_; rintro e w' ⟨rfl, rfl⟩) | (go_at_call 56; refine HH.out.mono ?_; rintro e w' ⟨rfl, rfl⟩))
    go_ret2
    exact ⟨rfl, rfl⟩
end Go.Proofs.YtogdkhnakenbcaaGreatDoor
