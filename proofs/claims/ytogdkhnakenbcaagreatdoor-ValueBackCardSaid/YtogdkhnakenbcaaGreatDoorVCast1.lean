/-
  Casts: scales both ways, which kinds are converted to which.
-/
import Derived.Test.YtogdkhnakenbcaaGreatDoorVChecks3
import Derived.Test.YtogdkhnakenbcaaGreatDoorScale2
namespace Go.Proofs.YtogdkhnakenbcaaGreatDoor
open Go.ChangeShapes Go.WideShapes Go.ChangeAt Go.RowKit
set_option linter.unusedVariables false

/-- A decimal with another number of digits, and the error. -/
def scE (v f t : Int) : Int := if isScaleB f && isScaleB t then (if fitsB v then (if t < f then 0 else upE (v * p10 (t.toNat - f.toNat))) else 10) else 1
def scV (v f t : Int) : Int := if isScaleB f && isScaleB t && fitsB v then (if t < f then sv (rnd v.natAbs (10 ^ (f.toNat - t.toNat))) (decide (v < 0)) else upV (v * p10 (t.toNat - f.toNat))) else 0
theorem scale_any (v f t : Int) (w : World) : Calls Tryz.prog 76 #[.int .i64 v, .int .i64 f, .int .i64 t] w fun e w' => e = .returned (.tuple #[.int .i64 (scV v f t), .int .i64 (scE v f t)]) ∧ Below w.heap.size w w' := by
  cases hf : isScaleB f
  · refine (scale_no1 v f t w hf).mono ?_
    rintro e w' ⟨rfl, rfl⟩
    exact ⟨by simp [scV, scE, hf], Below.refl _ _⟩
  · cases ht : isScaleB t
    · refine (scale_no2 v f t w hf ht).mono ?_
      rintro e w' ⟨rfl, rfl⟩
      exact ⟨by simp [scV, scE, ht], Below.refl _ _⟩
    · cases hv : fitsB v
      · refine (scale_nofit v f t w hf ht hv).mono ?_
        rintro e w' ⟨rfl, rfl⟩
        exact ⟨by simp [scV, scE, hf, ht, hv], Below.refl _ _⟩
      · have h1 := scale_in hf
        have h2 := scale_in ht
        obtain ⟨a, rfl⟩ : ∃ a : Nat, f = a := ⟨f.toNat, by omega⟩
        obtain ⟨b, rfl⟩ : ∃ b : Nat, t = b := ⟨t.toNat, by omega⟩
        by_cases h : b < a
        · refine (scale_down v a b w (by omega) h hv).mono ?_
          rintro e w' ⟨rfl, hb⟩
          exact ⟨by simp [scV, scE, hf, ht, hv, h], hb⟩
        · refine (scale_up v a b w (by omega) (by omega) hv).mono ?_
          rintro e w' ⟨rfl, hb⟩
          exact ⟨by simp [scV, scE, hf, ht, hv, h], hb⟩
theorem refScaleC_any (v f t : Int) (w : World) : Calls Tryz.prog 28 #[.int .i64 v, .int .i64 f, .int .i64 t] w fun e w' => e = .returned (.tuple #[.int .i64 (scV v f t), .int .i64 (scE v f t)]) ∧ w = w' := by
  cases hf : isScaleB f
  · refine (refScale_no1 v f t w hf).mono ?_
    rintro e w' ⟨rfl, rfl⟩
    exact ⟨by simp [scV, scE, hf], rfl⟩
  · cases ht : isScaleB t
    · refine (refScale_no2 v f t w hf ht).mono ?_
      rintro e w' ⟨rfl, rfl⟩
      exact ⟨by simp [scV, scE, ht], rfl⟩
    · cases hv : fitsB v
      · refine (refScale_nofit v f t w hf ht hv).mono ?_
        rintro e w' ⟨rfl, rfl⟩
        exact ⟨by simp [scV, scE, hf, ht, hv], rfl⟩
      · have h1 := scale_in hf
        have h2 := scale_in ht
        obtain ⟨a, rfl⟩ : ∃ a : Nat, f = a := ⟨f.toNat, by omega⟩
        obtain ⟨b, rfl⟩ : ∃ b : Nat, t = b := ⟨t.toNat, by omega⟩
        by_cases h : b < a
        · refine (refScale_down v a b w (by omega) h hv).mono ?_
          rintro e w' ⟨rfl, rfl⟩
          exact ⟨by simp [scV, scE, hf, ht, hv, h], rfl⟩
        · refine (refScale_up v a b w (by omega) (by omega) hv).mono ?_
          rintro e w' ⟨rfl, rfl⟩
          exact ⟨by simp [scV, scE, hf, ht, hv, h], rfl⟩
theorem scE_cases {v f t : Int} (hf : isScaleB f = true) (ht : isScaleB t = true) : scE v f t = 0 ∨ scE v f t = 10 := by
  unfold scE upE
  rw [hf, ht]
  simp only [Bool.and_self, if_true]
  repeat' split
  all_goals simp

/-- value.rescale: an error is always that the number is too great. -/
def reE (v f t : Int) : Int := if scE v f t = 0 then 0 else 10
def reV (v f t : Int) : Int := if scE v f t = 0 then scV v f t else 0
theorem rescale_any (v f t : Int) (w : World) : Calls Tryz.prog 46 #[.int .i64 v, .int .i64 f, .int .i64 t] w fun e w' => e = .returned (.tuple #[.int .i64 (reV v f t), .int .i64 (reE v f t)]) ∧ Below w.heap.size w w' := by
  have HS := Lib.hid (fun W => scale_any v f t W)
  have HV : Hid (reV v f t = if scE v f t = 0 then scV v f t else 0) := rfl
  have HE : Hid (reE v f t = if scE v f t = 0 then 0 else 10) := rfl
  generalize reV v f t = rv at *
  generalize reE v f t = re at *
  generalize scV v f t = x at *
  generalize scE v f t = y at *
  by_cases h : y = 0
  · subst h
    obtain rfl : rv = x := HV.out.trans (if_pos rfl)
    obtain rfl : re = 0 := HE.out.trans (if_pos rfl)
    go_enter Tryz.func46, Tryz.ntmps46
    go_wp2_with (go_at_call 76; refine (HS.out _).mono ?_; rintro e w1 ⟨rfl, hb⟩)
    go_ret2
    exact ⟨rfl, hb⟩
  · obtain rfl : rv = 0 := HV.out.trans (if_neg h)
    obtain rfl : re = 10 := HE.out.trans (if_neg h)
    go_enter Tryz.func46, Tryz.ntmps46
    go_wp2_with (go_at_call 76; refine (HS.out _).mono ?_; rintro e w1 ⟨rfl, hb⟩)
    go_ret2
    exact ⟨rfl, hb⟩

/-- Which kinds are converted to which of the five. -/
def canB (a b : Int) : Bool := if a = 4 then true else if a = 2 ∨ a = 3 then (b == 2 || b == 3 || b == 4) else if a = 1 ∨ a = 5 then (b == a || b == 4) else false
theorem castable_any (a b : Int) (c : Bool) (hc : canB a b = c) (w : World) : Calls Tryz.prog 19 #[.int .i64 a, .int .i64 b] w fun e w' => e = .returned (.bool c) ∧ w = w' := by
  have HC := Lib.hid hc
  clear hc
  by_cases h4 : a = 4
  · subst h4
    obtain rfl : true = c := HC.out
    go_enter Tryz.func19, Tryz.ntmps19
    go_wp2
    go_ret
    exact ⟨rfl, rfl⟩
  · by_cases h23 : a = 2 ∨ a = 3
    · have HE : Hid (c = (b == 2 || b == 3 || b == 4)) := by show _ = _; rw [← HC.out]; simp [canB, h4, h23]
      by_cases b2 : b = 2 <;> by_cases b3 : b = 3 <;> by_cases b4 : b = 4 <;> rcases h23 with rfl | rfl <;> first | (exfalso; omega) | skip
      all_goals
        go_enter Tryz.func19, Tryz.ntmps19
        go_wp2
        go_ret
        exact ⟨by rw [HE.out]; simp [*], rfl⟩
    · by_cases h15 : a = 1 ∨ a = 5
      · have HE : Hid (c = (b == a || b == 4)) := by show _ = _; rw [← HC.out]; simp [canB, h4, h23, h15]
        clear h4 h23
        by_cases ba : b = a <;> by_cases b4 : b = 4 <;> rcases h15 with rfl | rfl <;> first | (exfalso; omega) | skip
        all_goals
          go_enter Tryz.func19, Tryz.ntmps19
          go_wp2
          go_ret
          exact ⟨by rw [HE.out]; simp [*], rfl⟩
      · obtain rfl : false = c := by rw [← HC.out]; simp [canB, h4, h23, h15]
        have h1 : ¬ a = 1 := fun h => h15 (.inl h)
        have h5 : ¬ a = 5 := fun h => h15 (.inr h)
        have h2 : ¬ a = 2 := fun h => h23 (.inl h)
        have h3 : ¬ a = 3 := fun h => h23 (.inr h)
        clear h15 h23
        go_enter Tryz.func19, Tryz.ntmps19
        go_wp2
        go_ret
        exact ⟨rfl, rfl⟩
theorem family2_any (a : Int) (w : World) : Calls Tryz.prog 47 #[.int .i64 a] w fun e w' => e = .returned (.int .i64 (if a = 3 then 2 else a)) ∧ w = w' := by
  by_cases h : a = 3
  · subst h
    go_enter Tryz.func47, Tryz.ntmps47
    go_wp2
    go_ret
    exact ⟨rfl, rfl⟩
  · rw [if_neg h]
    go_enter Tryz.func47, Tryz.ntmps47
    go_wp2
    go_ret
    exact ⟨rfl, rfl⟩
theorem way_any (a b : Int) (c : Bool) (hb1 : 1 ≤ b) (hb5 : b ≤ 5) (hc : canB a b = c) (w : World) : Calls Tryz.prog 24 #[.int .i64 a, .int .i64 b] w fun e w' => e = .returned (.bool c) ∧ w = w' := by
  have HF := Lib.hid (fun a W => family2_any a W)
  have h5b : b = 1 ∨ b = 2 ∨ b = 3 ∨ b = 4 ∨ b = 5 := by omega
  by_cases h15 : 1 ≤ a ∧ a ≤ 5
  · have h5a : a = 1 ∨ a = 2 ∨ a = 3 ∨ a = 4 ∨ a = 5 := by omega
    clear hb1 hb5 h15
    subst hc
    rcases h5a with rfl | rfl | rfl | rfl | rfl <;> rcases h5b with rfl | rfl | rfl | rfl | rfl
    all_goals
      go_enter Tryz.func24, Tryz.ntmps24
      go_wp2_with (go_at_call 47; refine (HF.out _ _).mono ?_; rintro e w1 ⟨rfl, rfl⟩)
      go_ret
      exact ⟨rfl, rfl⟩
  · obtain rfl : false = c := by
      rw [← hc]; unfold canB
      rw [if_neg (by omega), if_neg (by omega), if_neg (by omega)]
    clear hc
    by_cases h1 : a < 1
    · have h1' : ¬ (1 : Int) ≤ a := by omega
      clear h15
      go_enter Tryz.func24, Tryz.ntmps24
      go_wp2
      go_ret
      exact ⟨rfl, rfl⟩
    · have h1' : (1 : Int) ≤ a := by omega
      have h5' : ¬ a ≤ 5 := by omega
      clear h15
      go_enter Tryz.func24, Tryz.ntmps24
      go_wp2
      go_ret
      exact ⟨rfl, rfl⟩
end Go.Proofs.YtogdkhnakenbcaaGreatDoor
