/-
  Digits to the base 256, and the two ways to reckon them. Without the model.
-/
import Derived.Test.YtellmmgiabfacaaCRead
namespace Go.Proofs.Ytellmmgiabfacaa
set_option linter.unusedVariables false

theorem leF_get : ∀ (m j : Nat) (h : j < (leF m).length), ((leF m)[j]).toNat = m / 256 ^ j % 256 := by
  intro m
  induction m using Nat.strongRecOn with
  | ind m ih =>
    intro j h
    by_cases hm : m < 256
    · have e := leF_small hm
      simp only [e] at h ⊢
      obtain rfl : j = 0 := by simpa using h
      simp
    · have e := leF_big hm
      simp only [e] at h ⊢
      match j, h with
      | 0, _ => simp
      | j + 1, h =>
        rw [List.getElem_cons_succ, ih (m / 256) (by omega) j (by simpa using h), Nat.div_div_eq_div_mul, Nat.pow_succ, Nat.mul_comm 256]
theorem leF_is {m k : Nat} (hk : 0 < k) (h : m < 256 ^ k) (h' : 1 < k → 256 ^ (k - 1) ≤ m) : (leF m).length = k := by
  have h1 := leF_le hk h
  obtain ⟨h2, h3, h4, h5⟩ := leF_facts m
  rcases Nat.lt_or_ge (leF m).length k with hh | hh
  · have h6 := h' (by omega)
    have h7 : 256 ^ (leF m).length ≤ 256 ^ (k - 1) := Nat.pow_le_pow_right (by decide) (by omega)
    omega
  · omega
theorem leF_rev (m i : Nat) (h : i < (leF m).length) : ((leF m).reverse[i]'(by simpa using h)).toNat = m / 256 ^ ((leF m).length - 1 - i) % 256 := by
  rw [List.getElem_reverse, leF_get]
theorem turnIf_get (low : Bool) (l : List UInt8) (i : Nat) (h : i < l.length) : ((turnIf low l)[i]'(by rw [turnIf_len]; exact h)).toNat = if low then 255 - l[i].toNat else l[i].toNat := by
  cases low
  · simp [turnIf]
  · simp [turnIf, turnL, turnB_nat]
theorem eight {P : Nat → Prop} (h0 : P 0) (h1 : P 1) (h2 : P 2) (h3 : P 3) (h4 : P 4) (h5 : P 5) (h6 : P 6) (h7 : P 7) : ∀ k, k < 8 → P k := by
  intro k hk
  match k, hk with
  | 0, _ => exact h0 | 1, _ => exact h1 | 2, _ => exact h2 | 3, _ => exact h3 | 4, _ => exact h4 | 5, _ => exact h5 | 6, _ => exact h6 | 7, _ => exact h7
theorem eight_of (k : Nat) (h : k < 8) : k = 0 ∨ k = 1 ∨ k = 2 ∨ k = 3 ∨ k = 4 ∨ k = 5 ∨ k = 6 ∨ k = 7 := by omega
theorem beV_snoc' (l : List UInt8) (c : UInt8) : beV (l ++ [c]) = beV l * 256 + c.toNat := beV_snoc l c
end Go.Proofs.Ytellmmgiabfacaa
