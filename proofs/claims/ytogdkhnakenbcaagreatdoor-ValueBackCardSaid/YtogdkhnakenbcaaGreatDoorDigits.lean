/-
  Digits, numerals and decimals as lists of bytes: plain lists, no program.
-/
import Derived.Lib.ParseIntB
import Derived.Lib.Itoa
import Derived.Lib.ItoaNum
import Derived.Lib.Repeat
import Derived.Lib.Strings
import Derived.Lib.Bytealg
namespace Go.Proofs.YtogdkhnakenbcaaGreatDoor

def isD (c : UInt8) : Bool := decide (48 ≤ c.toNat ∧ c.toNat ≤ 57)
def digitsB (l : List UInt8) : Bool := !l.isEmpty && l.all isD
/-- The number that digits spell, behind others that spell a. -/
def valF (a : Nat) (l : List UInt8) : Nat := l.foldl (fun a c => 10 * a + (c.toNat - 48)) a
theorem valF_nil (a : Nat) : valF a [] = a := List.foldl_nil
theorem valF_cons (a : Nat) (c : UInt8) (r : List UInt8) : valF a (c :: r) = valF (10 * a + (c.toNat - 48)) r := List.foldl_cons ..
def valD (l : List UInt8) : Nat := valF 0 l

theorem isD_bd {c : UInt8} (h : isD c = true) : 48 ≤ c.toNat ∧ c.toNat ≤ 57 := by simpa [isD] using h
theorem digits_all {l : List UInt8} (h : digitsB l = true) : l ≠ [] ∧ ∀ c ∈ l, isD c = true := by
  simp [digitsB] at h; exact h
theorem digits_of {l : List UInt8} (h : l ≠ []) (h' : ∀ c ∈ l, isD c = true) : digitsB l = true := by
  simp [digitsB, h]; exact h'
theorem digits_app {a b : List UInt8} (ha : digitsB a = true) (hb : ∀ c ∈ b, isD c = true) : digitsB (a ++ b) = true := by
  have h := digits_all ha
  exact digits_of (by simp [h.1]) (fun c hc => (List.mem_append.1 hc).elim (h.2 c) (hb c))

theorem valF_app (a : Nat) (x y : List UInt8) : valF a (x ++ y) = valF (valF a x) y := by
  unfold valF; rw [List.foldl_append]
theorem valF_ge (a : Nat) (l : List UInt8) : a ≤ valF a l := by
  induction l generalizing a with
  | nil => exact Nat.le_refl _
  | cons c r ih => have := ih (10 * a + (c.toNat - 48)); rw [valF_cons]; omega
theorem valD_snoc (l : List UInt8) (c : UInt8) : valD (l ++ [c]) = 10 * valD l + (c.toNat - 48) := by unfold valD; rw [valF_app, valF_cons, valF_nil]
theorem valF_lt (n a : Nat) : ∀ l : List UInt8, l.length = n → (∀ c ∈ l, isD c = true) → valF a l < (a + 1) * 10 ^ n := by
  induction n generalizing a with
  | zero => intro l hl _; rw [List.length_eq_zero_iff.1 hl, valF_nil]; omega
  | succ n ih =>
    intro l hl hd
    match l, hl with
    | c :: r, hl =>
      have hc := isD_bd (hd c (by simp))
      have h := ih (10 * a + (c.toNat - 48)) r (by simpa using hl) (fun x hx => hd x (by simp [hx]))
      have h2 : (10 * a + (c.toNat - 48) + 1) * 10 ^ n ≤ (10 * (a + 1)) * 10 ^ n := Nat.mul_le_mul_right _ (by omega)
      have h3 : (10 * (a + 1)) * 10 ^ n = (a + 1) * 10 ^ (n + 1) := by rw [Nat.pow_succ, Nat.mul_comm 10 (a + 1), Nat.mul_assoc, Nat.mul_comm 10]
      rw [valF_cons]
      omega

/-- The library's reading of digits: the number, or out of range. -/
theorem uintM_digits (M acc : Nat) (hM : M < 18446744073709551616) : ∀ l : List UInt8, (∀ c ∈ l, isD c = true) → acc ≤ M → Lib.parseUintM M acc l = if valF acc l ≤ M then .ok (valF acc l) else .range := by
  intro l
  induction l generalizing acc with
  | nil => intro _ h; rw [valF_nil, if_pos h]; rfl
  | cons c r ih =>
    intro hd ha
    have hc := isD_bd (hd c (by simp))
    have hge := valF_ge (10 * acc + (c.toNat - 48)) r
    rw [Lib.parseUintM, if_pos hc, valF_cons]
    by_cases h1 : 1844674407370955162 ≤ acc
    · rw [if_pos h1, if_neg (by omega)]
    · rw [if_neg h1]
      by_cases h2 : M < acc * 10 + (c.toNat - 48)
      · rw [if_pos h2, if_neg (by omega)]
      · rw [if_neg h2, Nat.mul_comm acc 10]
        exact ih _ (fun x hx => hd x (by simp [hx])) (by omega)

/-- A text without its sign; the number that it spells with it. -/
def unsig (l : List UInt8) : List UInt8 := if l.head? = some 45 then l.tail else l
def negB (l : List UInt8) : Bool := decide (l.head? = some 45)
def numV (l : List UInt8) : Int := if l.head? = some 45 then -(valD l.tail : Int) else valD l
theorem numV_neg {l : List UInt8} (h : negB l = true) : numV l = -(valD (unsig l) : Int) := by
  have h' : l.head? = some 45 := by simpa [negB] using h
  simp [numV, unsig, h']
theorem numV_pos {l : List UInt8} (h : negB l = false) : numV l = (valD (unsig l) : Int) := by
  have h' : ¬ l.head? = some 45 := by simpa [negB] using h
  simp [numV, unsig, h']

theorem trim_unsig (l : List UInt8) : Lib.trimPrefix l [45] = unsig l ∧ Lib.hasPrefix l [45] = negB l := by
  unfold Lib.trimPrefix Lib.hasPrefix unsig negB
  match l with
  | [] => simp
  | c :: r =>
    by_cases h : c = 45
    · subst h; simp
    · have h' : ¬ (45 : UInt8) = c := fun e => h e.symm
      have hp : [45].isPrefixOf (c :: r) = false := by simp [List.isPrefixOf, h']
      simp [h, hp]

theorem parse64 (l : List UInt8) (h : digitsB (unsig l) = true) :
    (-9223372036854775808 ≤ numV l ∧ numV l ≤ 9223372036854775807 → Lib.parseIntB 64 l = .ok (numV l)) ∧
    (¬ (-9223372036854775808 ≤ numV l ∧ numV l ≤ 9223372036854775807) → Lib.parseIntB 64 l = .range) := by
  obtain ⟨hne, hd⟩ := digits_all h
  have e63 : (2 : Nat) ^ (64 - 1) = 9223372036854775808 := by decide
  have e64 : (2 : Nat) ^ 64 - 1 = 18446744073709551615 := by decide
  match l, hne, hd with
  | [], hne, _ => simp [unsig] at hne
  | c :: r, hne, hd =>
    by_cases hc : c = 45
    · subst hc
      have e : unsig (45 :: r) = r := by simp [unsig]
      have en : numV (45 :: r) = -(valD r : Int) := by simp [numV]
      rw [e] at hne hd
      rw [en]
      have hu : Lib.parseUintB 64 (if (45 : UInt8).toNat = 43 ∨ (45 : UInt8).toNat = 45 then r else 45 :: r) = if valD r ≤ 18446744073709551615 then .ok (valD r) else .range := by
        rw [if_pos (show (45 : UInt8).toNat = 43 ∨ (45 : UInt8).toNat = 45 from .inr rfl), Lib.parseUintB, if_neg hne, e64]
        exact uintM_digits _ _ (by omega) r hd (by omega)
      unfold Lib.parseIntB
      simp only [hu, e63]
      generalize valD r = v
      by_cases hv : v ≤ 18446744073709551615
      · rw [if_pos hv]
        simp only
        constructor
        · intro h
          rw [if_neg (by simp), if_neg (by omega), if_pos (by rfl)]
        · intro h
          rw [if_neg (by simp), if_pos (by refine ⟨rfl, ?_⟩; omega)]
      · rw [if_neg hv]
        simp only
        exact ⟨fun h => by omega, fun _ => trivial⟩
    · have hh : ¬ (c :: r).head? = some 45 := by simpa using hc
      have e : unsig (c :: r) = c :: r := by simp [unsig, hc]
      have en : numV (c :: r) = (valD (c :: r) : Int) := by simp [numV, hc]
      rw [e] at hne hd
      rw [en]
      have hcd := isD_bd (hd c (by simp))
      have hu : Lib.parseUintB 64 (if c.toNat = 43 ∨ c.toNat = 45 then r else c :: r) = if valD (c :: r) ≤ 18446744073709551615 then .ok (valD (c :: r)) else .range := by
        rw [if_neg (by omega), Lib.parseUintB, if_neg hne, e64]
        exact uintM_digits _ _ (by omega) (c :: r) hd (by omega)
      unfold Lib.parseIntB
      simp only [hu, e63]
      generalize valD (c :: r) = v
      by_cases hv : v ≤ 18446744073709551615
      · rw [if_pos hv]
        simp only
        constructor
        · intro h
          rw [if_neg (by omega), if_neg (by omega), if_neg (by omega)]
        · intro h
          rw [if_pos (by omega)]
      · rw [if_neg hv]
        simp only
        exact ⟨fun h => by omega, fun _ => trivial⟩
end Go.Proofs.YtogdkhnakenbcaaGreatDoor
