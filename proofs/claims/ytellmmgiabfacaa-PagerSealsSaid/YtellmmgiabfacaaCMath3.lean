/-
  Bytes' forms, byte by byte, and their reading from left to right. Without the model.
-/
import Derived.Test.YtellmmgiabfacaaCMath2
namespace Go.Proofs.Ytellmmgiabfacaa
set_option linter.unusedVariables false

/-- The bytes' forms, one behind the other, without the end. -/
def escL (l : List UInt8) : List UInt8 := l.flatMap escB
theorem encB_esc (l : List UInt8) : encB l = escL l ++ [0, 0] := rfl
theorem escL_app (a b : List UInt8) : escL (a ++ b) = escL a ++ escL b := by simp [escL]
theorem escL_take (l : List UInt8) (k : Nat) (h : k < l.length) : escL (l.take (k + 1)) = escL (l.take k) ++ escB l[k] := by
  rw [List.take_succ_eq_append_getElem h, escL_app]
  simp [escL]
theorem escB_zero {c : UInt8} (h : c = 0) : escB c = [c] ++ [1] := by subst h; rfl
theorem escB_other {c : UInt8} (h : ¬ c = 0) : escB c = [c] := if_neg h
theorem escL_len : ∀ l : List UInt8, (escL l).length = l.length + l.count 0
  | [] => rfl
  | c :: l => by
    have ih := escL_len l
    simp only [escL, List.flatMap_cons, List.length_append] at ih ⊢
    by_cases h : c = 0
    · subst h; simp [escB, ih]; omega
    · simp [escB, h, ih]; omega
theorem encB_len (l : List UInt8) : (encB l).length = l.length + l.count 0 + 2 := by
  rw [encB_esc, List.length_append, escL_len]; rfl
theorem escL_take_le (l : List UInt8) (k : Nat) : (escL (l.take k)).length ≤ (escL l).length := by
  conv => rhs; rw [← List.take_append_drop k l, escL_app]
  simp

/-- What is read of the whole is this, and behind it what is read of the rest. -/
def Rd8 (b : List UInt8) (i : Nat) (acc : List UInt8) : Prop := rdB b = (match rdB (b.drop i) with | (l, k, e) => if e = 0 then (acc ++ l, i + k, 0) else ([], 0, e))
theorem rdB_bad : ∀ (b l : List UInt8) (k : Nat) (e : Int), rdB b = (l, k, e) → ¬ e = 0 → l = [] ∧ k = 0
  | [], l, k, e, h, he => by simp [rdB] at h; exact ⟨h.1, by omega⟩
  | [c], l, k, e, h, he => by simp [rdB] at h; exact ⟨h.1, by omega⟩
  | c :: d :: r, l, k, e, h, he => by
    unfold rdB at h
    repeat' split at h
    all_goals simp only [Prod.mk.injEq] at h
    all_goals first | exact absurd h.2.2.symm he | exact ⟨h.1.symm, h.2.1.symm⟩
theorem Rd8.start (b : List UInt8) : Rd8 b 0 [] := by
  unfold Rd8
  rw [List.drop_zero]
  rcases h : rdB b with ⟨l, k, e⟩
  simp only
  split
  · rename_i he
    rw [he, List.nil_append, Nat.zero_add]
  · rename_i he
    obtain ⟨rfl, rfl⟩ := rdB_bad b l k e h he
    rfl
theorem drop_two {b : List UInt8} {i : Nat} (h : i < b.length) : b.drop i = b[i] :: b.drop (i + 1) := List.drop_eq_getElem_cons h
theorem Rd8.over {b : List UInt8} {i : Nat} {acc : List UInt8} (h : Rd8 b i acc) (hi : b.length ≤ i) : rdB b = ([], 0, 30) := by
  unfold Rd8 at h
  rw [List.drop_eq_nil_of_le hi] at h
  rw [h]
  simp [rdB]
theorem rdB_other {c : UInt8} {r : List UInt8} (hc : ¬ c = 0) : rdB (c :: r) = (match rdB r with | (l, k, e) => if e = 0 then (c :: l, k + 1, 0) else ([], 0, e)) := by
  cases r with
  | nil => simp [rdB, hc]
  | cons d r => rw [rdB, if_neg hc]
theorem Rd8.other {b : List UInt8} {i : Nat} {acc : List UInt8} (h : Rd8 b i acc) (hi : i < b.length) (hc : ¬ b[i] = 0) : Rd8 b (i + 1) (acc ++ [b[i]]) := by
  unfold Rd8 at h ⊢
  rw [h, drop_two hi, rdB_other hc]
  rcases hr : rdB (b.drop (i + 1)) with ⟨l, k, e⟩
  simp only
  by_cases he : e = 0
  · simp [he]; omega
  · simp [he]
theorem Rd8.end1 {b : List UInt8} {i : Nat} {acc : List UInt8} (h : Rd8 b i acc) (hi : i < b.length) (hc : b[i] = 0) (h2 : b.length ≤ i + 1) : rdB b = ([], 0, 30) := by
  unfold Rd8 at h
  rw [drop_two hi, List.drop_eq_nil_of_le h2, hc] at h
  rw [h]
  simp [rdB]
theorem Rd8.done {b : List UInt8} {i : Nat} {acc : List UInt8} (h : Rd8 b i acc) (hi : i + 1 < b.length) (hc : b[i]'(by omega) = 0) (hd : b[i + 1] = 0) : rdB b = (acc, i + 2, 0) := by
  unfold Rd8 at h
  rw [drop_two (by omega), drop_two hi, hc, hd] at h
  rw [h]
  simp [rdB]
theorem Rd8.zero {b : List UInt8} {i : Nat} {acc : List UInt8} (h : Rd8 b i acc) (hi : i + 1 < b.length) (hc : b[i]'(by omega) = 0) (hd : b[i + 1] = 1) : Rd8 b (i + 2) (acc ++ [0]) := by
  unfold Rd8 at h ⊢
  rw [h, drop_two (by omega), drop_two hi, hc, hd]
  rw [rdB, if_pos rfl, if_neg (by decide), if_pos rfl]
  rcases hr : rdB (b.drop (i + 1 + 1)) with ⟨l, k, e⟩
  simp only
  by_cases he : e = 0
  · simp [he]; omega
  · simp [he]
theorem Rd8.bad {b : List UInt8} {i : Nat} {acc : List UInt8} (h : Rd8 b i acc) (hi : i + 1 < b.length) (hc : b[i]'(by omega) = 0) (hd : ¬ b[i + 1] = 0) (hd1 : ¬ b[i + 1] = 1) : rdB b = ([], 0, 31) := by
  unfold Rd8 at h
  rw [drop_two (by omega), drop_two hi, hc] at h
  rw [h]
  rw [rdB, if_pos rfl, if_neg hd, if_neg hd1]
  simp
theorem rdB_len {b l : List UInt8} {k : Nat} {e : Int} (h : rdB b = (l, k, e)) : l.length ≤ b.length ∧ k ≤ b.length := by
  by_cases he : e = 0
  · subst he
    obtain ⟨h1, x, h2⟩ := rdB_sound b l k h
    have h3 := encB_len l
    rw [h2, List.length_append, ← h1]
    omega
  · obtain ⟨rfl, rfl⟩ := rdB_bad b l k e h he
    simp
end Go.Proofs.Ytellmmgiabfacaa
