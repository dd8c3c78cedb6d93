/-
  Of disk, without the model: bytes by their places; the parts of a write, put together.
-/
import Derived.Test.YtellmmgiabfacaaDMath
namespace Go.Proofs.Ytellmmgiabfacaa
set_option linter.unusedVariables false

theorem eq_of_getD {a b : List UInt8} (hl : a.length = b.length) (h : ∀ i, i < a.length → a.getD i 0 = b.getD i 0) : a = b := by
  apply List.ext_getElem hl
  intro i h1 h2
  have := h i h1
  simpa [List.getD_eq_getElem?_getD, List.getElem?_eq_getElem h1, List.getElem?_eq_getElem h2] using this
theorem getD_none {a : List UInt8} {i : Nat} (h : a.length ≤ i) : a.getD i 0 = 0 := by
  rw [List.getD_eq_getElem?_getD, List.getElem?_eq_none h]; rfl
theorem putAt_getD (k : Nat) (b l : List UInt8) (i : Nat) : (putAt k b l).getD i 0 = if k ≤ i ∧ i < k + b.length then b.getD (i - k) 0 else l.getD i 0 := by
  split
  · next h => rw [List.getD_eq_getElem?_getD, putAt_in h.1 h.2, List.getD_eq_getElem?_getD]
  · next h =>
    by_cases hl : i < l.length
    · rw [List.getD_eq_getElem?_getD, putAt_out (by omega) hl, List.getD_eq_getElem?_getD]
    · rw [getD_none (a := l) (by omega)]
      by_cases hi : i < (putAt k b l).length
      · rw [putAt_len] at hi
        have hik : i < k := by omega
        have h1 : ((pad (k + b.length) l).take k).length = k := by simp [pad_len]; omega
        unfold putAt
        rw [List.getD_eq_getElem?_getD, List.append_assoc, List.getElem?_append_left (by omega), List.getElem?_take, if_pos hik, pad_get (by omega), List.getElem?_eq_none (by omega)]
        rfl
      · exact getD_none (by omega)
theorem take_getD (n : Nat) (l : List UInt8) (i : Nat) : (l.take n).getD i 0 = if i < n then l.getD i 0 else 0 := by
  rw [List.getD_eq_getElem?_getD, List.getElem?_take]
  split
  · rw [List.getD_eq_getElem?_getD]
  · rfl
theorem drop_getD (n : Nat) (l : List UInt8) (i : Nat) : (l.drop n).getD i 0 = l.getD (n + i) 0 := by
  rw [List.getD_eq_getElem?_getD, List.getElem?_drop, List.getD_eq_getElem?_getD]
/-- The parts of a write, put together: the write. -/
theorem foldF_parts (f : Nat) : ∀ (n k : Nat) (b x : List UInt8), b.length ≤ n → (foldF f (parts f k b) x).length = (if b.length = 0 then x.length else max x.length (k + b.length)) ∧ ∀ i, (foldF f (parts f k b) x).getD i 0 = if k ≤ i ∧ i < k + b.length then b.getD (i - k) 0 else x.getD i 0 := by
  intro n
  induction n with
  | zero =>
    intro k b x h
    have : b = [] := List.length_eq_zero_iff.1 (by omega)
    subst this
    refine ⟨by simp [parts_nil, foldF], fun i => ?_⟩
    rw [if_neg (by simp <;> omega)]
    rfl
  | succ n ih =>
    intro k b x h
    by_cases h0 : 0 < b.length
    · have hm : k % 512 < 512 := Nat.mod_lt _ (by decide)
      rw [parts_step f k b h0]
      obtain ⟨m, hmm⟩ : ∃ m, m = min b.length (512 - k % 512) := ⟨_, rfl⟩
      rw [← hmm]
      have hm1 : 0 < m := by omega
      have hm2 : m ≤ b.length := by omega
      have htl : (b.take m).length = m := by simp; omega
      obtain ⟨h1, h2⟩ := ih (k + m) (b.drop m) (putAt k (b.take m) x) (by simp; omega)
      have hstep : foldF f (⟨f, false, k, b.take m⟩ :: parts f (k + m) (b.drop m)) x = foldF f (parts f (k + m) (b.drop m)) (putAt k (b.take m) x) := by
        simp [foldF, Pc.ap]
      rw [hstep]
      constructor
      · rw [h1, putAt_len, htl, List.length_drop, if_neg (show ¬ b.length = 0 by omega)]
        split <;> omega
      · intro i
        rw [h2 i, putAt_getD, htl, List.length_drop, take_getD, drop_getD]
        by_cases c1 : k + m ≤ i ∧ i < k + m + (b.length - m)
        · rw [if_pos c1, if_pos (by omega)]
          congr 1
          omega
        · rw [if_neg c1]
          by_cases c2 : k ≤ i ∧ i < k + m
          · rw [if_pos c2, if_pos (by omega), if_pos (by omega)]
          · rw [if_neg c2, if_neg (by omega)]
    · have : b = [] := List.length_eq_zero_iff.1 (by omega)
      subst this
      refine ⟨by simp [parts_nil, foldF], fun i => ?_⟩
      rw [if_neg (by simp <;> omega)]
      rfl
theorem parts_file (f k : Nat) (b : List UInt8) : ∀ p ∈ parts f k b, p.file = f ∧ p.cut = false := by
  have key : ∀ (n k : Nat) (b : List UInt8), ∀ p ∈ partsN f n k b, p.file = f ∧ p.cut = false := by
    intro n
    induction n with
    | zero => intro k b p hp; simp [partsN] at hp
    | succ n ih =>
      intro k b p hp
      unfold partsN at hp
      split at hp
      · simp at hp
      · rcases List.mem_cons.1 hp with rfl | hp
        · exact ⟨rfl, rfl⟩
        · exact ih _ _ p hp
  exact key b.length k b
theorem foldF_far {f : Nat} {ps : List Pc} (h : ∀ p ∈ ps, p.file ≠ f) (x : List UInt8) : foldF f ps x = x := by
  induction ps generalizing x with
  | nil => rfl
  | cons p ps ih =>
    rw [foldF, if_neg (h p (List.mem_cons_self ..))]
    exact ih (fun q hq => h q (List.mem_cons_of_mem _ hq)) x
/-- A write that is not rejected, without a fuse. -/
theorem write_plain {s : St} (f : Nat) (k : Nat) (b : List UInt8) (hf : f = 0 ∨ f = 1) (hd : s.down = false) (hfu : s.fuse = 0) (hfit : k + b.length ≤ 4194304) : s.write f k b = ({ s with pcs := s.pcs ++ parts f k b, calls := next64 s.calls, fuse := 0 }, 0) := by
  have hm : s.may (f : Int) = 0 := by
    unfold St.may
    rw [hd]
    rcases hf with rfl | rfl <;> simp
  unfold St.write
  rw [if_neg (by omega), if_neg (by omega), if_neg (by omega)]
  unfold St.count St.add
  simp only
  rw [if_neg (by omega), hfu]
  simp
theorem now_write {s : St} (f k : Nat) (b : List UInt8) (c : Int) : ({ s with pcs := s.pcs ++ parts f k b, calls := c, fuse := 0 } : St).now f = foldF f (parts f k b) (s.now f) := by
  unfold St.now
  exact foldF_app _ _ _ _
end Go.Proofs.Ytellmmgiabfacaa
