/-
  Of bits: what Go's operations on bytes do to their bits.
-/
import Derived.Test.YtpdffcopigajgaaKMath
import Derived.Laws.BitsAllLaws
namespace Go.Proofs.Ytpdffcopigajgaa
set_option linter.unusedVariables false

theorem pow_int (k : Nat) (h : k < 8) : (2 : Int) ^ k % 256 = ((2 ^ k : Nat) : Int) := by
  match k, h with
  | 0, _ | 1, _ | 2, _ | 3, _ | 4, _ | 5, _ | 6, _ | 7, _ => decide
theorem pow_lt8 (k : Nat) (h : k < 8) : 2 ^ k < 256 := Nat.pow_lt_pow_right (n := 8) (by decide) h
theorem set_nat (c : UInt8) (k j : Nat) (y : Bool) (hk : k < 8) : (setB c k y).toNat.testBit j = if j = k then y else c.toNat.testBit j := by
  show bitB (setB c k y) j = if j = k then y else bitB c j
  by_cases h : j < 8
  · exact bitB_byB _ _ h
  · rw [bitB_far _ _ (by omega), bitB_far _ _ (by omega), if_neg (by omega)]
theorem or_set (c : UInt8) (k : Nat) (hk : k < 8) : bits .or .u8 (c.toNat : Int) (2 ^ k % 256) = ((setB c k true).toNat : Int) := by
  rw [pow_int k hk, u8_or_nat _ _ c.toNat_lt (pow_lt8 k hk)]
  congr 1
  apply Nat.eq_of_testBit_eq
  intro j
  rw [set_nat c k j true hk, Nat.testBit_or, Nat.testBit_two_pow]
  by_cases h : j = k
  · subst h; simp
  · rw [if_neg h]; simp [show ¬ k = j by omega]
theorem sub_bit (k j : Nat) (hk : k < 8) (hj : j < 8) : (255 - 2 ^ k).testBit j = !decide (j = k) := by
  have key : ∀ k, k < 8 → ∀ j, j < 8 → (255 - 2 ^ k).testBit j = !decide (j = k) := by decide
  exact key k hk j hj
theorem clear_set (c : UInt8) (k : Nat) (hk : k < 8) : bits .andNot .u8 (c.toNat : Int) (2 ^ k % 256) = ((setB c k false).toNat : Int) := by
  rw [pow_int k hk, u8_andNot_nat _ _ c.toNat_lt (pow_lt8 k hk)]
  congr 1
  apply Nat.eq_of_testBit_eq
  intro j
  rw [set_nat c k j false hk, Nat.testBit_and]
  by_cases h8 : j < 8
  · rw [sub_bit k j hk h8]
    by_cases h : j = k
    · subst h; simp
    · rw [if_neg h]; simp [h]
  · rw [show c.toNat.testBit j = false from bitB_far c j (by omega)]
    simp
theorem mask_nat (c : UInt8) (u j : Nat) : (maskB c u).toNat.testBit j = (decide (j < u) && c.toNat.testBit j) := by
  show bitB (maskB c u) j = (decide (j < u) && bitB c j)
  by_cases h : j < 8
  · exact bitB_byB _ _ h
  · rw [bitB_far _ _ (by omega), bitB_far c _ (by omega)]; simp
theorem and_mask (c : UInt8) (k : Nat) (hk : k < 8) : bits .and .u8 (c.toNat : Int) ((2 ^ k - 1) % 256) = ((maskB c k).toNat : Int) := by
  have h1 : ((2 : Int) ^ k - 1) % 256 = ((2 ^ k - 1 : Nat) : Int) := by
    have h0 : (2 : Int) ^ k = ((2 ^ k : Nat) : Int) := by rw [Int.natCast_pow]; rfl
    have := Nat.two_pow_pos k
    have := pow_lt8 k hk
    omega
  rw [h1, u8_and_nat _ _ c.toNat_lt (by have := pow_lt8 k hk; omega)]
  congr 1
  apply Nat.eq_of_testBit_eq
  intro j
  rw [mask_nat, Nat.testBit_and, Nat.testBit_two_pow_sub_one, Bool.and_comm]
theorem bit_div (c : UInt8) (k : Nat) : bits .and .u8 ((c.toNat : Int) / 2 ^ k) 1 = ((bitB c k).toNat : Int) := by
  have h1 : (c.toNat : Int) / 2 ^ k = ((c.toNat / 2 ^ k : Nat) : Int) := by
    rw [Int.natCast_ediv, Int.natCast_pow]; rfl
  have h2 := c.toNat_lt
  have h3 : c.toNat / 2 ^ k ≤ c.toNat := Nat.div_le_self _ _
  rw [h1, show (1 : Int) = ((1 : Nat) : Int) from rfl, u8_and_nat _ _ (by omega) (by decide), nat_mask1]
  congr 1
  unfold bitB
  rw [Nat.testBit_eq_decide_div_mod_eq]
  have h4 : c.toNat / 2 ^ k % 2 < 2 := Nat.mod_lt _ (by decide)
  by_cases h : c.toNat / 2 ^ k % 2 = 1
  · rw [h]; rfl
  · have h5 : c.toNat / 2 ^ k % 2 = 0 := by omega
    rw [h5]; rfl
theorem bit_one (c : UInt8) : bits .and .u8 (c.toNat : Int) 1 = ((bitB c 0).toNat : Int) := by
  have := bit_div c 0
  simpa using this
theorem xor_not (c : UInt8) : ((byB fun k => !bitB c k).toNat : Int) = 255 - (c.toNat : Int) := by
  have key : ∀ n, n < 256 → ((byB fun k => !bitB (UInt8.ofNat n) k).toNat : Int) = 255 - (n : Int) := by decide +kernel
  have := key c.toNat c.toNat_lt
  simpa using this
/-- A byte's bits, moved down; with the next byte's moved up. -/
def shrB (c : UInt8) (s : Nat) : UInt8 := byB fun k => bitB c (k + s)
def joinB (c d : UInt8) (s : Nat) : UInt8 := byB fun k => bitB c (k + s) || (decide (8 - s ≤ k) && bitB d (k - (8 - s)))
theorem shr_nat (c : UInt8) (s j : Nat) : (shrB c s).toNat.testBit j = c.toNat.testBit (j + s) := by
  show bitB (shrB c s) j = bitB c (j + s)
  by_cases h : j < 8
  · exact bitB_byB _ _ h
  · rw [bitB_far _ _ (by omega), bitB_far c _ (by omega)]
theorem div_shr (c : UInt8) (s : Nat) : (c.toNat : Int) / 2 ^ s = ((shrB c s).toNat : Int) := by
  have h1 : (c.toNat : Int) / 2 ^ s = ((c.toNat / 2 ^ s : Nat) : Int) := by
    rw [Int.natCast_ediv, Int.natCast_pow]; rfl
  rw [h1]
  congr 1
  apply Nat.eq_of_testBit_eq
  intro j
  rw [shr_nat, ← Nat.shiftRight_eq_div_pow, Nat.testBit_shiftRight, Nat.add_comm]
theorem or_join (c d : UInt8) (s : Nat) (hs : s < 8) : bits .or .u8 ((shrB c s).toNat : Int) ((d.toNat : Int) * 2 ^ (8 - s) % 256) = ((joinB c d s).toNat : Int) := by
  have h1 : (d.toNat : Int) * 2 ^ (8 - s) % 256 = ((d.toNat * 2 ^ (8 - s) % 2 ^ 8 : Nat) : Int) := by
    rw [Int.natCast_emod, Int.natCast_mul, Int.natCast_pow]; rfl
  rw [h1, u8_or_nat _ _ (UInt8.toNat_lt _) (Nat.mod_lt _ (by decide))]
  congr 1
  apply Nat.eq_of_testBit_eq
  intro j
  rw [Nat.testBit_or, shr_nat, show (256 : Nat) = 2 ^ 8 from rfl, Nat.testBit_mod_two_pow, Nat.testBit_mul_two_pow]
  show _ = bitB (joinB c d s) j
  by_cases h : j < 8
  · unfold joinB
    rw [bitB_byB _ _ h]
    simp [h, bitB]
  · rw [bitB_far _ _ (by omega), show c.toNat.testBit (j + s) = false from bitB_far c _ (by omega)]
    simp [h]
end Go.Proofs.Ytpdffcopigajgaa
