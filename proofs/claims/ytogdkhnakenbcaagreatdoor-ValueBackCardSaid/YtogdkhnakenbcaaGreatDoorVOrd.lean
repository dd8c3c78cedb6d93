/-
  The one order of values: what it is, and that it is one; rows.
-/
import Derived.Test.YtogdkhnakenbcaaGreatDoorCmp
import Derived.Test.YtogdkhnakenbcaaGreatDoorScale
namespace Go.Proofs.YtogdkhnakenbcaaGreatDoor
open Go.ChangeShapes Go.WideShapes Go.ChangeAt Go.RowKit
set_option linter.unusedVariables false

/-- A value: its kind, its scale, whether it is missing, its number, its text. -/
structure VR where
  k : Int
  s : Int
  nl : Bool
  n : Int
  t : ByteArray

def isNumB (k : Int) : Bool := k == 2 || k == 3
def famI (k : Int) : Int := if k = 3 then 2 else k
def alikeB (k k' : Int) : Bool := decide (famI k = famI k') && decide (1 ≤ k) && decide (k ≤ 5)
def scl (k s : Int) : Nat := if k = 3 then (min (max s 0) 18).toNat else 0
def cmpV (a b : VR) : Int := if a.k = 4 then Lib.compareBytes a.t.data.toList b.t.data.toList else cmpI (a.n * p10 (scl b.k b.s)) (b.n * p10 (scl a.k a.s))
def ordV (a b : VR) : Int := if a.nl then (if b.nl then 0 else -1) else if b.nl then 1 else if alikeB a.k b.k then cmpV a b else cmpI (famI a.k) (famI b.k)

theorem scl_bd (k s : Int) : scl k s ≤ 18 := by unfold scl; split <;> omega
theorem p10_pos (k : Nat) : 0 < p10 k := by
  unfold p10
  have := Nat.one_le_pow k 10 (by omega)
  omega
theorem p10_add (a b : Nat) : p10 (a + b) = p10 a * p10 b := by
  unfold p10
  rw [Nat.pow_add, Int.natCast_mul]
theorem cmpI_mul {a b c : Int} (h : 0 < c) : cmpI (a * c) (b * c) = cmpI a b := by
  unfold cmpI
  simp only [Int.mul_lt_mul_right h]
theorem cmpI_swap (a b : Int) : cmpI b a = -cmpI a b := by
  unfold cmpI
  split <;> split <;> (try split) <;> omega
theorem cmpI_le {a b : Int} : cmpI a b ≤ 0 ↔ a ≤ b := by unfold cmpI; split <;> (try split) <;> omega
theorem cmpI_eq {a b : Int} : cmpI a b = 0 ↔ a = b := by unfold cmpI; split <;> (try split) <;> omega
theorem cmpI_one (a b : Int) : cmpI a b = -1 ∨ cmpI a b = 0 ∨ cmpI a b = 1 := by unfold cmpI; split <;> (try split) <;> omega

/-- A number in units of the last digit of the greatest scale. -/
def nv (a : VR) : Int := a.n * p10 (18 - scl a.k a.s)
theorem nv_mul (a : VR) (y : Nat) : nv a * p10 (scl a.k a.s + y) = a.n * p10 y * p10 18 := by
  unfold nv
  have h : p10 (18 - scl a.k a.s) * p10 (scl a.k a.s + y) = p10 18 * p10 y := by
    rw [← p10_add, ← p10_add]
    congr 1
    have := scl_bd a.k a.s
    omega
  rw [Int.mul_assoc, h, Int.mul_assoc, Int.mul_comm (p10 18)]
theorem cmp_nv (a b : VR) : cmpI (a.n * p10 (scl b.k b.s)) (b.n * p10 (scl a.k a.s)) = cmpI (nv a) (nv b) := by
  rw [← cmpI_mul (p10_pos 18), ← nv_mul a, ← nv_mul b, Nat.add_comm (scl b.k b.s) (scl a.k a.s), cmpI_mul (p10_pos _)]
/-- The same by the greater of the two scales. -/
theorem cmp_max (a b : VR) (m : Nat) (hx : scl a.k a.s ≤ m) (hy : scl b.k b.s ≤ m) :
    cmpI (a.n * p10 (m - scl a.k a.s)) (b.n * p10 (m - scl b.k b.s)) = cmpI (a.n * p10 (scl b.k b.s)) (b.n * p10 (scl a.k a.s)) := by
  rw [← cmpI_mul (p10_pos (scl a.k a.s + scl b.k b.s)), Int.mul_assoc, Int.mul_assoc, ← p10_add, ← p10_add]
  have e1 : m - scl a.k a.s + (scl a.k a.s + scl b.k b.s) = scl b.k b.s + m := by omega
  have e2 : m - scl b.k b.s + (scl a.k a.s + scl b.k b.s) = scl a.k a.s + m := by omega
  rw [e1, e2, p10_add, p10_add, ← Int.mul_assoc, ← Int.mul_assoc, cmpI_mul (p10_pos m)]

theorem cmpB_swap : ∀ a b : List UInt8, Lib.compareBytes b a = -Lib.compareBytes a b
  | [], [] => rfl
  | [], _ :: _ => rfl
  | _ :: _, [] => rfl
  | a :: us, b :: vs => by
    show (if b < a then (-1 : Int) else if a < b then 1 else Lib.compareBytes vs us) = -(if a < b then (-1 : Int) else if b < a then 1 else Lib.compareBytes us vs)
    have ih := cmpB_swap us vs
    simp only [UInt8.lt_iff_toNat_lt]
    rw [ih]
    split <;> split <;> (try split) <;> omega
theorem cmpB_one : ∀ a b : List UInt8, Lib.compareBytes a b = -1 ∨ Lib.compareBytes a b = 0 ∨ Lib.compareBytes a b = 1
  | [], [] => .inr (.inl rfl)
  | [], _ :: _ => .inl rfl
  | _ :: _, [] => .inr (.inr rfl)
  | a :: us, b :: vs => by
    show (if a < b then (-1 : Int) else if b < a then 1 else Lib.compareBytes us vs) = -1 ∨ (if a < b then (-1 : Int) else if b < a then 1 else Lib.compareBytes us vs) = 0 ∨ (if a < b then (-1 : Int) else if b < a then 1 else Lib.compareBytes us vs) = 1
    split
    · exact .inl rfl
    · split
      · exact .inr (.inr rfl)
      · exact cmpB_one us vs
theorem cmpB_refl : ∀ a : List UInt8, Lib.compareBytes a a = 0
  | [] => rfl
  | a :: us => by
    show (if a < a then (-1 : Int) else if a < a then 1 else Lib.compareBytes us us) = 0
    simp only [UInt8.lt_iff_toNat_lt]
    rw [if_neg (by omega), if_neg (by omega)]
    exact cmpB_refl us
theorem cmpB_trans : ∀ a b c : List UInt8, Lib.compareBytes a b ≤ 0 → Lib.compareBytes b c ≤ 0 → Lib.compareBytes a c ≤ 0
  | [], _, [], _, _ => by decide
  | [], _, _ :: _, _, _ => by show (-1 : Int) ≤ 0; decide
  | _ :: _, [], _, h, _ => absurd h (by show ¬ (1 : Int) ≤ 0; decide)
  | _ :: _, _ :: _, [], _, h => absurd h (by show ¬ (1 : Int) ≤ 0; decide)
  | a :: us, b :: vs, c :: cs, h, h' => by
    have ih := cmpB_trans us vs cs
    change (if a < b then (-1 : Int) else if b < a then 1 else Lib.compareBytes us vs) ≤ 0 at h
    change (if b < c then (-1 : Int) else if c < b then 1 else Lib.compareBytes vs cs) ≤ 0 at h'
    show (if a < c then (-1 : Int) else if c < a then 1 else Lib.compareBytes us cs) ≤ 0
    simp only [UInt8.lt_iff_toNat_lt] at *
    by_cases h1 : a.toNat < c.toNat
    · rw [if_pos h1]; decide
    · rw [if_neg h1]
      by_cases e1 : a.toNat < b.toNat
      · rw [if_neg (show ¬ b.toNat < c.toNat by omega), if_pos (show c.toNat < b.toNat by omega)] at h'
        omega
      · rw [if_neg e1] at h
        by_cases e2 : b.toNat < a.toNat
        · rw [if_pos e2] at h; omega
        · rw [if_neg e2] at h
          rw [if_neg (show ¬ b.toNat < c.toNat by omega)] at h'
          by_cases e3 : c.toNat < b.toNat
          · rw [if_pos e3] at h'; omega
          · rw [if_neg e3] at h'
            rw [if_neg (by omega)]
            exact ih h h'

theorem alike_iff (k k' : Int) : alikeB k k' = true ↔ famI k = famI k' ∧ 1 ≤ k ∧ k ≤ 5 := by unfold alikeB; simp [and_assoc]
theorem alike_swap (k k' : Int) : alikeB k' k = alikeB k k' := by
  rw [Bool.eq_iff_iff, alike_iff, alike_iff]
  unfold famI
  constructor <;> (intro h; split at h <;> split at h <;> simp_all <;> omega)
theorem ordV_one (a b : VR) : ordV a b = -1 ∨ ordV a b = 0 ∨ ordV a b = 1 := by
  unfold ordV cmpV
  split
  · split <;> simp
  · split
    · simp
    · split
      · split
        · exact cmpB_one _ _
        · exact cmpI_one _ _
      · exact cmpI_one _ _
theorem cmpV_swap (a b : VR) (h : alikeB a.k b.k = true) : cmpV b a = -cmpV a b := by
  have h' := (alike_iff _ _).1 h
  unfold cmpV
  by_cases h4 : a.k = 4
  · have hb : b.k = 4 := by
      have := h'.1; unfold famI at this; rw [h4] at this; split at this <;> split at this <;> omega
    rw [if_pos h4, if_pos hb, cmpB_swap]
  · have hb : ¬ b.k = 4 := by
      have := h'.1; unfold famI at this; split at this <;> split at this <;> omega
    rw [if_neg h4, if_neg hb, cmpI_swap]
theorem ordV_swap (a b : VR) : ordV b a = -ordV a b := by
  unfold ordV
  rw [alike_swap]
  by_cases ha : a.nl = true
  · by_cases hb : b.nl = true
    · simp [ha, hb]
    · simp [ha, hb]
  · by_cases hb : b.nl = true
    · simp [ha, hb]
    · simp only [ha, hb]
      by_cases h : alikeB a.k b.k = true
      · simp only [h, if_true]; exact cmpV_swap a b h
      · simp only [h]; exact cmpI_swap _ _
theorem ordV_refl (a : VR) : ordV a a = 0 := by
  have := ordV_swap a a
  omega
theorem cmpV_trans (a b c : VR) (hab : alikeB a.k b.k = true) (hbc : alikeB b.k c.k = true) (h : cmpV a b ≤ 0) (h' : cmpV b c ≤ 0) : cmpV a c ≤ 0 := by
  have e1 := ((alike_iff _ _).1 hab).1
  have e2 := ((alike_iff _ _).1 hbc).1
  unfold cmpV at *
  by_cases h4 : a.k = 4
  · have hb : b.k = 4 := by
      unfold famI at e1; rw [h4] at e1; split at e1 <;> split at e1 <;> omega
    rw [if_pos h4] at h ⊢
    rw [if_pos hb] at h'
    exact cmpB_trans _ _ _ h h'
  · have hb : ¬ b.k = 4 := by
      unfold famI at e1; split at e1 <;> split at e1 <;> omega
    rw [if_neg h4] at h ⊢
    rw [if_neg hb] at h'
    rw [cmp_nv] at *
    rw [cmpI_le] at *
    omega
theorem ordV_trans (a b c : VR) (h : ordV a b ≤ 0) (h' : ordV b c ≤ 0) : ordV a c ≤ 0 := by
  unfold ordV at *
  by_cases ha : a.nl = true
  · simp only [ha, if_true]
    split <;> decide
  · by_cases hb : b.nl = true
    · simp [ha, hb] at h
    · by_cases hc : c.nl = true
      · simp [hb, hc] at h'
      · simp only [ha, hb, hc] at *
        by_cases hab : alikeB a.k b.k = true
        · have e1 := (alike_iff _ _).1 hab
          by_cases hbc : alikeB b.k c.k = true
          · have e2 := (alike_iff _ _).1 hbc
            have hac : alikeB a.k c.k = true := (alike_iff _ _).2 ⟨e1.1.trans e2.1, e1.2⟩
            rw [if_neg (by decide), if_neg (by decide), if_pos hab] at h
            rw [if_neg (by decide), if_neg (by decide), if_pos hbc] at h'
            rw [if_neg (by decide), if_neg (by decide), if_pos hac]
            exact cmpV_trans a b c hab hbc h h'
          · have hac : ¬ alikeB a.k c.k = true := by
              intro e
              have e3 := (alike_iff _ _).1 (by rw [alike_swap] at hab; exact hab : alikeB b.k a.k = true)
              exact hbc ((alike_iff _ _).2 ⟨e1.1.symm.trans ((alike_iff _ _).1 e).1, e3.2⟩)
            simp only [hbc, hac] at *
            rw [e1.1]; exact h'
        · by_cases hbc : alikeB b.k c.k = true
          · have e2 := (alike_iff _ _).1 hbc
            have hac : ¬ alikeB a.k c.k = true := by
              intro e
              have e3 := (alike_iff _ _).1 e
              exact hab ((alike_iff _ _).2 ⟨e3.1.trans e2.1.symm, e3.2⟩)
            simp only [hab, hac] at *
            rw [← e2.1]; exact h
          · by_cases hac : alikeB a.k c.k = true
            · exfalso
              have e3 := (alike_iff _ _).1 hac
              rw [if_neg (by decide), if_neg (by decide), if_neg hab] at h
              rw [if_neg (by decide), if_neg (by decide), if_neg hbc] at h'
              have f1 : famI a.k ≤ famI b.k := cmpI_le.1 h
              have f2 : famI b.k ≤ famI c.k := cmpI_le.1 h'
              exact hab ((alike_iff _ _).2 ⟨by have := e3.1; omega, e3.2⟩)
            · simp only [hab, hbc, hac] at *
              have f1 : famI a.k ≤ famI b.k := cmpI_le.1 h
              have f2 : famI b.k ≤ famI c.k := cmpI_le.1 h'
              exact cmpI_le.2 (by omega)
/-- Two rows. -/
def ordRows : List VR → List VR → Int
  | [], [] => 0
  | [], _ :: _ => -1
  | _ :: _, [] => 1
  | a :: us, b :: vs => if ordV a b = 0 then ordRows us vs else ordV a b

end Go.Proofs.YtogdkhnakenbcaaGreatDoor
