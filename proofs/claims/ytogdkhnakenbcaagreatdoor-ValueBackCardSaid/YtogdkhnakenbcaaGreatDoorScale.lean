/-
  Contracts of the decimals: power, Pow10, Fits, divideRounded, Scale and the document's answers.
-/
import Derived.Test.YtogdkhnakenbcaaGreatDoorProd
namespace Go.Proofs.YtogdkhnakenbcaaGreatDoor
open Go.ChangeShapes Go.WideShapes Go.ChangeAt Go.RowKit
set_option linter.unusedVariables false

def p10 (k : Nat) : Int := ((10 ^ k : Nat) : Int)
theorem p10_succ (k : Nat) : p10 (k + 1) = p10 k * 10 := by unfold p10; rw [Nat.pow_succ]; omega
theorem p10_bd (k : Nat) (h : k ≤ 18) : 1 ≤ p10 k ∧ p10 k ≤ 1000000000000000000 := by
  unfold p10
  have h1 : 10 ^ k ≤ 10 ^ 18 := Nat.pow_le_pow_right (by omega) h
  have h2 : 1 ≤ 10 ^ k := Nat.one_le_pow _ _ (by omega)
  have h3 : 10 ^ 18 = 1000000000000000000 := by decide
  rw [h3] at h1
  generalize 10 ^ k = q at *
  omega
theorem p10_zero : p10 0 = 1 := rfl

theorem power_any (k : Nat) (hk : k ≤ 18) (w : World) :
    Calls Tryz.prog 108 #[.int .i64 k] w fun e w' => e = .returned (.int .i64 (p10 k)) ∧ w = w' := by
  go_enter Tryz.func108, Tryz.ntmps108
  go_wp2
  go_loop [3, 5] (fun p i => ∃ j : Nat, j ≤ k ∧ i = .int .i64 j ∧ p = .int .i64 (p10 j)) (fun _ i => k - (intOf i).toNat)
  case atStart => exact ⟨0, Nat.zero_le _, rfl, rfl⟩
  case round =>
    obtain ⟨j, hj, rfl, rfl⟩ := hrel
    by_cases hlt : j < k
    · have hb := p10_bd (j + 1) (by omega)
      have hb0 := p10_bd j (by omega)
      have HS := Lib.hid (p10_succ j)
      rw [HS.out] at hb
      go_wp2
      go_round
      case rel => exact ⟨j + 1, by omega, by go_num, by rw [HS.out]⟩
      case measure => simp [intOf]; omega
    · obtain rfl : j = k := by omega
      go_wp2
      go_ret
      exact ⟨rfl, rfl⟩

theorem pow10_yes (k : Nat) (hk : k ≤ 18) (w : World) :
    Calls Tryz.prog 142 #[.int .i64 k] w fun e w' => e = .returned (.tuple #[.int .i64 (p10 k), .int .i64 0]) ∧ w = w' := by
  have hS : isScaleB (k : Int) = true := by simp [isScaleB]; omega
  go_enter Tryz.func142, Tryz.ntmps142
  go_wp2_with (first | (go_at_call 87; refine (isScale_any _ _).mono ?_; rintro e w' ⟨rfl, rfl⟩) | (go_at_call 108; refine (power_any _ hk _).mono ?_; rintro e w' ⟨rfl, rfl⟩))
  go_ret2
  exact ⟨rfl, rfl⟩
theorem pow10_no (k : Int) (hS : isScaleB k = false) (w : World) :
    Calls Tryz.prog 142 #[.int .i64 k] w fun e w' => e = .returned (.tuple #[.int .i64 0, .int .i64 1]) ∧ w = w' := by
  go_enter Tryz.func142, Tryz.ntmps142
  go_wp2_with (first | (go_at_call 87; refine (isScale_any _ _).mono ?_; rintro e w' ⟨rfl, rfl⟩))
  go_ret2
  exact ⟨rfl, rfl⟩
theorem refPow10_yes (k : Nat) (hk : k ≤ 18) (w : World) :
    Calls Tryz.prog 53 #[.int .i64 k] w fun e w' => e = .returned (.tuple #[.int .i64 (p10 k), .int .i64 0]) ∧ w = w' := by
  have hkI : (k : Int) ≤ 18 := by omega
  go_enter Tryz.func53, Tryz.ntmps53
  go_wp2
  go_loop [4, 5] (fun p i => ∃ j : Nat, j ≤ k ∧ i = .int .i64 j ∧ p = .int .i64 (p10 j)) (fun _ i => k - (intOf i).toNat)
  case atStart => exact ⟨0, Nat.zero_le _, rfl, rfl⟩
  case round =>
    obtain ⟨j, hj, rfl, rfl⟩ := hrel
    by_cases hlt : j < k
    · have hb := p10_bd (j + 1) (by omega)
      have hb0 := p10_bd j (by omega)
      have HS := Lib.hid (p10_succ j)
      rw [HS.out] at hb
      go_wp2
      go_round
      case rel => exact ⟨j + 1, by omega, by go_num, by rw [HS.out]⟩
      case measure => simp [intOf]; omega
    · obtain rfl : j = k := by omega
      go_wp2
      go_ret2
      exact ⟨rfl, rfl⟩
theorem scale_out {k : Int} (h : isScaleB k = false) : k < 0 ∨ 18 < k := by simp [isScaleB] at h; omega
theorem refPow10_no (k : Int) (hS : isScaleB k = false) (w : World) :
    Calls Tryz.prog 53 #[.int .i64 k] w fun e w' => e = .returned (.tuple #[.int .i64 0, .int .i64 1]) ∧ w = w' := by
  have h := scale_out hS
  clear hS
  rcases h with h | h
  all_goals
    go_enter Tryz.func53, Tryz.ntmps53
    go_wp2
    go_ret2
    exact ⟨rfl, rfl⟩

def fitsB (v : Int) : Bool := decide (-999999999999999999 ≤ v ∧ v ≤ 999999999999999999)
theorem fits_in {v : Int} (h : fitsB v = true) : -999999999999999999 ≤ v ∧ v ≤ 999999999999999999 := by simpa [fitsB] using h
theorem fits_any (v : Int) (w : World) :
    Calls Tryz.prog 71 #[.int .i64 v] w fun e w' => e = .returned (.bool (fitsB v)) ∧ w = w' := by
  by_cases h0 : -999999999999999999 ≤ v
  · by_cases h1 : v ≤ 999999999999999999
    · have H : Hid (fitsB v = true) := by show _ = _; simp [fitsB, h0, h1]
      go_enter Tryz.func71, Tryz.ntmps71
      go_wp2
      go_ret
      exact ⟨ret_bool H.out.symm, rfl⟩
    · have H : Hid (fitsB v = false) := by show _ = _; simp [fitsB, h1]
      have hd : decide (v ≤ 999999999999999999) = false := by simpa using h1
      go_enter Tryz.func71, Tryz.ntmps71
      go_wp2
      go_ret
      exact ⟨ret_bool H.out.symm, rfl⟩
  · have H : Hid (fitsB v = false) := by show _ = _; simp [fitsB, h0]
    have hd : decide (-999999999999999999 ≤ v) = false := by simpa using h0
    go_enter Tryz.func71, Tryz.ntmps71
    go_wp2
    go_ret
    exact ⟨ret_bool H.out.symm, rfl⟩
theorem refFits_any (v : Int) (w : World) :
    Calls Tryz.prog 52 #[.int .i64 v] w fun e w' => e = .returned (.bool (fitsB v)) ∧ w = w' := by
  by_cases h0 : -999999999999999999 ≤ v
  · by_cases h1 : v ≤ 999999999999999999
    · have H : Hid (fitsB v = true) := by show _ = _; simp [fitsB, h0, h1]
      go_enter Tryz.func52, Tryz.ntmps52
      go_wp2
      go_ret
      exact ⟨ret_bool H.out.symm, rfl⟩
    · have H : Hid (fitsB v = false) := by show _ = _; simp [fitsB, h1]
      have hd : decide (v ≤ 999999999999999999) = false := by simpa using h1
      go_enter Tryz.func52, Tryz.ntmps52
      go_wp2
      go_ret
      exact ⟨ret_bool H.out.symm, rfl⟩
  · have H : Hid (fitsB v = false) := by show _ = _; simp [fitsB, h0]
    have hd : decide (-999999999999999999 ≤ v) = false := by simpa using h0
    go_enter Tryz.func52, Tryz.ntmps52
    go_wp2
    go_ret
    exact ⟨ret_bool H.out.symm, rfl⟩

/-- n divided by P, halves up. -/
def rnd (n P : Nat) : Nat := n / P + if P ≤ 2 * (n % P) then 1 else 0
theorem rnd_facts (v : Int) (P : Nat) (h1 : 1 ≤ P) : (v.tmod P).natAbs < P ∧ (v.tdiv P).natAbs ≤ v.natAbs ∧
    ((P : Int) ≤ 2 * v.tmod P → sv (rnd v.natAbs P) (decide (v < 0)) = v.tdiv P + 1) ∧
    (2 * v.tmod P ≤ -(P : Int) → sv (rnd v.natAbs P) (decide (v < 0)) = v.tdiv P - 1) ∧
    (2 * v.tmod P < (P : Int) → -(P : Int) < 2 * v.tmod P → sv (rnd v.natAbs P) (decide (v < 0)) = v.tdiv P) := by
  have hb : ((P : Int)).natAbs = P := by omega
  have e1 := tmod_sv v (P : Int)
  have e2 := tdiv_sv v (P : Int)
  have ho : opp v (P : Int) = decide (v < 0) := by unfold opp; rw [show decide ((P : Int) < 0) = false by simp]; simp
  rw [hb] at e1 e2
  rw [ho] at e2
  have hr : v.natAbs % P < P := Nat.mod_lt _ (by omega)
  have hq : v.natAbs / P ≤ v.natAbs := Nat.div_le_self _ _
  rw [e1, e2]
  unfold rnd sv
  generalize v.natAbs % P = r at *
  generalize v.natAbs / P = q at *
  clear e1 e2
  by_cases hv : v < 0
  · simp only [hv, decide_true, if_true]
    refine ⟨by omega, by omega, fun h => ?_, fun h => ?_, fun h h' => ?_⟩ <;> split <;> omega
  · simp only [hv, decide_false]
    refine ⟨by simp; omega, by simp; omega, fun h => ?_, fun h => ?_, fun h h' => ?_⟩ <;> simp at * <;> split <;> omega

set_option maxHeartbeats 800000 in
theorem divideRounded_any (v : Int) (P : Nat) (hf : fitsB v = true) (h1 : 1 ≤ P) (h2 : P ≤ 1000000000000000000) (w : World) :
    Calls Tryz.prog 107 #[.int .i64 v, .int .i64 P] w fun e w' => e = .returned (.int .i64 (sv (rnd v.natAbs P) (decide (v < 0)))) ∧ Below w.heap.size w w' := by
  have hv := fits_in hf
  have hP : (1 : Int) ≤ (P : Int) := by omega
  have hP0 : ¬ (P : Int) = 0 := by omega
  obtain ⟨r1, r2, r3, r4, r5⟩ := rnd_facts v P h1
  have R3 := Lib.hid r3
  have R4 := Lib.hid r4
  have R5 := Lib.hid r5
  have b1 : -(P : Int) < v.tmod P := by omega
  have b2 : v.tmod P < (P : Int) := by omega
  have b3 : -999999999999999999 ≤ v.tdiv P := by omega
  have b4 : v.tdiv P ≤ 999999999999999999 := by omega
  clear r1 r2 r3 r4 r5
  go_enter Tryz.func107, Tryz.ntmps107
  go_wp2
  go_quiet (fail)
  go_wp2
  · go_ret
    exact ⟨ret_int (R3.out (by assumption)).symm, below_drewN (Below.refl _ _) _⟩
  · go_ret
    exact ⟨ret_int (R4.out (by assumption)).symm, below_drewN (Below.refl _ _) _⟩
  · go_ret
    exact ⟨ret_int (R5.out (by assumption) (by assumption)).symm, below_drewN (Below.refl _ _) _⟩
end Go.Proofs.YtogdkhnakenbcaaGreatDoor
