/-
  Reading an int's form, and bytes' form: what was written is read, and what is read is written so. Without the model.
-/
import Derived.Test.YtpdffcopigajgaaCMath
namespace Go.Proofs.Ytpdffcopigajgaa
set_option linter.unusedVariables false

theorem turn_turn (l : List UInt8) : turnL (turnL l) = l := by
  have e : ∀ c : UInt8, turnB (turnB c) = c := fun c => by
    apply UInt8.toNat_inj.1
    have := c.toNat_lt
    rw [turnB_nat, turnB_nat]; omega
  unfold turnL
  rw [List.map_map]
  conv => rhs; rw [← List.map_id l]
  exact List.map_congr_left fun c _ => e c
theorem turn_app (a b : List UInt8) : turnL (a ++ b) = turnL a ++ turnL b := List.map_append
theorem turn_len (l : List UInt8) : (turnL l).length = l.length := by simp [turnL]
def turnIf (low : Bool) (l : List UInt8) : List UInt8 := if low then turnL l else l
theorem turnIf_turnIf (low : Bool) (l : List UInt8) : turnIf low (turnIf low l) = l := by
  cases low
  · rfl
  · exact turn_turn l
theorem turnIf_len (low : Bool) (l : List UInt8) : (turnIf low l).length = l.length := by
  cases low
  · rfl
  · exact turn_len l
def numI (low : Bool) (n : Int) : Int := if low then -n - 1 else n
theorem enc_numI (low : Bool) (u : Nat) : encI (numI low u) = turnIf low (upF u) := by
  cases low
  · show encI (u : Int) = upF u
    unfold encI
    rw [if_neg (by omega)]
    rfl
  · show encI (-(u : Int) - 1) = turnL (upF u)
    unfold encI
    rw [if_pos (by omega)]
    congr 2
    omega
theorem numI_of (n : Int) (h : In8 n) : ∃ (low : Bool) (u : Nat), n = numI low u ∧ u < 9223372036854775808 := by
  unfold In8 at h
  by_cases h0 : n < 0
  · exact ⟨true, (-(n + 1)).toNat, by show n = -(((-(n + 1)).toNat : Nat) : Int) - 1; omega, by omega⟩
  · exact ⟨false, n.toNat, by show n = ((n.toNat : Nat) : Int); omega, by omega⟩
theorem numI_in (low : Bool) (u : Nat) (h : u < 9223372036854775808) : In8 (numI low u) := by
  unfold In8
  cases low
  · show _ ≤ (u : Int) ∧ (u : Int) ≤ _
    omega
  · show _ ≤ -(u : Int) - 1 ∧ -(u : Int) - 1 ≤ _
    omega
theorem beV_inj : ∀ {a b : List UInt8}, a.length = b.length → beV a = beV b → a = b
  | [], [], _, _ => rfl
  | c :: a, d :: b, hl, h => by
    have hl' : a.length = b.length := by simpa using hl
    have ha := beV_lt a
    have hb := beV_lt b
    simp only [beV, hl'] at h
    rw [hl'] at ha
    have hp : 0 < 256 ^ b.length := Nat.pow_pos (by decide)
    have hcd : c.toNat = d.toNat := by
      rcases Nat.lt_trichotomy c.toNat d.toNat with hc | hc | hc
      · exfalso
        have h1 : (c.toNat + 1) * 256 ^ b.length ≤ d.toNat * 256 ^ b.length := Nat.mul_le_mul_right _ hc
        rw [Nat.add_mul] at h1; omega
      · exact hc
      · exfalso
        have h1 : (d.toNat + 1) * 256 ^ b.length ≤ c.toNat * 256 ^ b.length := Nat.mul_le_mul_right _ hc
        rw [Nat.add_mul] at h1; omega
    obtain rfl : c = d := UInt8.toNat_inj.1 hcd
    rw [beV_inj hl' (by omega)]

/-- The first byte, turned if it is a low one. -/
def lowB (c : UInt8) : Bool := decide (c.toNat < 128)
def firstB (c : UInt8) : Nat := if lowB c then 255 - c.toNat else c.toNat
/-- The int that bytes begin with, how many it has, and the error. -/
def rdC (c : UInt8) (r : List UInt8) : Int × Nat × Int :=
    if firstB c < 248 then (numI (lowB c) ((firstB c : Int) - 128), 1, 0)
    else if r.length < firstB c - 247 then (0, 0, 30)
    else if 9223372036854775687 < beV (turnIf (lowB c) (r.take (firstB c - 247))) then (0, 0, 31)
    else if (leF (beV (turnIf (lowB c) (r.take (firstB c - 247))))).length = firstB c - 247 then (numI (lowB c) ((beV (turnIf (lowB c) (r.take (firstB c - 247))) : Int) + 120), 1 + (firstB c - 247), 0)
    else (0, 0, 31)
def rdI : List UInt8 → Int × Nat × Int
  | [] => (0, 0, 30)
  | c :: r => rdC c r
theorem first_of (low : Bool) (v : Nat) (h1 : 128 ≤ v) (h2 : v ≤ 255) (c : UInt8) (hc : turnIf low [UInt8.ofNat v] = [c]) : lowB c = low ∧ firstB c = v := by
  cases low
  · obtain rfl : UInt8.ofNat v = c := by simpa [turnIf] using hc
    have e : (UInt8.ofNat v).toNat = v := by rw [UInt8.toNat_ofNat']; omega
    have hl : lowB (UInt8.ofNat v) = false := by unfold lowB; rw [e]; simp; omega
    exact ⟨hl, by unfold firstB; rw [hl, e]; rfl⟩
  · obtain rfl : turnB (UInt8.ofNat v) = c := by simpa [turnIf, turnL] using hc
    have e : (turnB (UInt8.ofNat v)).toNat = 255 - v := by rw [turnB_nat, UInt8.toNat_ofNat']; omega
    have hl : lowB (turnB (UInt8.ofNat v)) = true := by unfold lowB; rw [e]; simp; omega
    exact ⟨hl, by unfold firstB; rw [hl, e]; simp; omega⟩
theorem turnIf_cons (low : Bool) (c : UInt8) (l : List UInt8) : ∃ d, turnIf low [c] = [d] ∧ turnIf low (c :: l) = d :: turnIf low l := by
  cases low
  · exact ⟨c, rfl, rfl⟩
  · exact ⟨turnB c, rfl, rfl⟩
theorem rd_up (low : Bool) (u : Nat) (hu : u < 9223372036854775808) (x : List UInt8) : rdI (turnIf low (upF u) ++ x) = (numI low u, (upF u).length, 0) := by
  by_cases h : u < 120
  · rw [up_small h]
    obtain ⟨d, e1, e2⟩ := turnIf_cons low (UInt8.ofNat (128 + u)) []
    rw [e1]
    obtain ⟨hl, hf⟩ := first_of low (128 + u) (by omega) (by omega) d e1
    show rdC d x = _
    unfold rdC
    rw [if_pos (by rw [hf]; omega), hl, hf]
    have : ((128 + u : Nat) : Int) - 128 = u := by omega
    rw [this]
    rfl
  · have l8 := up_len8 hu
    obtain ⟨lp, lv, -, -⟩ := leF_facts (u - 120)
    rw [up_big h]
    obtain ⟨d, e1, e2⟩ := turnIf_cons low (UInt8.ofNat (247 + (leF (u - 120)).length)) (leF (u - 120)).reverse
    rw [e2]
    obtain ⟨hl, hf⟩ := first_of low (247 + (leF (u - 120)).length) (by omega) (by omega) d e1
    show rdC d (turnIf low (leF (u - 120)).reverse ++ x) = _
    have hk : 247 + (leF (u - 120)).length - 247 = (leF (u - 120)).length := by omega
    have hlen : (turnIf low (leF (u - 120)).reverse).length = (leF (u - 120)).length := by rw [turnIf_len, List.length_reverse]
    have ht : (turnIf low (leF (u - 120)).reverse ++ x).take (leF (u - 120)).length = turnIf low (leF (u - 120)).reverse := by
      rw [← hlen]; exact List.take_left
    have hb : beV (turnIf low ((turnIf low (leF (u - 120)).reverse ++ x).take (leF (u - 120)).length)) = u - 120 := by
      rw [ht, turnIf_turnIf, beV_rev, lv]
    unfold rdC
    rw [hl, hf, hk, if_neg (by omega), if_neg (by rw [List.length_append, hlen]; omega), hb, if_neg (by omega), if_pos rfl]
    have : ((u - 120 : Nat) : Int) + 120 = u := by omega
    rw [this, List.length_cons, List.length_reverse, Nat.add_comm]
/-- What was written is read as it was. -/
theorem rd_enc (n : Int) (h : In8 n) (x : List UInt8) : rdI (encI n ++ x) = (n, (encI n).length, 0) := by
  obtain ⟨low, u, rfl, hu⟩ := numI_of n h
  rw [enc_numI, rd_up low u hu, turnIf_len]
theorem c_of (c : UInt8) : turnIf (lowB c) [UInt8.ofNat (firstB c)] = [c] ∧ 128 ≤ firstB c ∧ firstB c ≤ 255 := by
  have hc := c.toNat_lt
  unfold firstB
  cases h : lowB c
  · have h' : ¬ c.toNat < 128 := by simpa [lowB] using h
    refine ⟨?_, by simp <;> omega, by simp <;> omega⟩
    simp [turnIf]
  · have h' : c.toNat < 128 := by simpa [lowB] using h
    refine ⟨?_, by simp <;> omega, by simp <;> omega⟩
    show [turnB (UInt8.ofNat (255 - c.toNat))] = [c]
    congr 1
    apply UInt8.toNat_inj.1
    rw [turnB_nat, UInt8.toNat_ofNat']
    omega
/-- What is read is written in just the bytes that were taken. -/
theorem rd_sound (l : List UInt8) (n : Int) (k : Nat) (h : rdI l = (n, k, 0)) : In8 n ∧ k = (encI n).length ∧ ∃ x, l = encI n ++ x := by
  match l with
  | [] => simp [rdI] at h
  | c :: r =>
    obtain ⟨hc, h1, h2⟩ := c_of c
    replace h : rdC c r = (n, k, 0) := h
    unfold rdC at h
    split at h
    · rename_i hf
      simp only [Prod.mk.injEq, and_true] at h
      obtain ⟨hn, hk⟩ := h
      have e : (firstB c : Int) - 128 = ((firstB c - 128 : Nat) : Int) := by omega
      rw [e] at hn
      have hu : upF (firstB c - 128) = [UInt8.ofNat (firstB c)] := by
        rw [up_small (by omega), show 128 + (firstB c - 128) = firstB c by omega]
      have he : encI n = [c] := by rw [← hn, enc_numI, hu, hc]
      exact ⟨hn ▸ numI_in _ _ (by omega), by rw [he, ← hk]; rfl, r, by rw [he]; rfl⟩
    · rename_i hf
      split at h
      · simp at h
      · rename_i hr
        split at h
        · simp at h
        · rename_i hm
          split at h
          · rename_i hl
            simp only [Prod.mk.injEq, and_true] at h
            obtain ⟨hn, hk⟩ := h
            generalize hM : beV (turnIf (lowB c) (r.take (firstB c - 247))) = M at *
            have e : (M : Int) + 120 = ((M + 120 : Nat) : Int) := by omega
            rw [e] at hn
            have hd : (leF M).reverse = turnIf (lowB c) (r.take (firstB c - 247)) := by
              refine beV_inj ?_ ?_
              · rw [List.length_reverse, hl, turnIf_len, List.length_take]; omega
              · rw [beV_rev, (leF_facts M).2.1, hM]
            have hu : upF (M + 120) = UInt8.ofNat (firstB c) :: turnIf (lowB c) (r.take (firstB c - 247)) := by
              rw [up_big (by omega), Nat.add_sub_cancel, hl, hd, show 247 + (firstB c - 247) = firstB c by omega]
            obtain ⟨d, e1, e2⟩ := turnIf_cons (lowB c) (UInt8.ofNat (firstB c)) (turnIf (lowB c) (r.take (firstB c - 247)))
            have hdc : d = c := by rw [hc] at e1; simpa using e1.symm
            have he : encI n = c :: r.take (firstB c - 247) := by rw [← hn, enc_numI, hu, e2, turnIf_turnIf, hdc]
            refine ⟨hn ▸ numI_in _ _ (by omega), ?_, r.drop (firstB c - 247), ?_⟩
            · rw [he, ← hk, List.length_cons, List.length_take]; omega
            · rw [he, List.cons_append, List.take_append_drop]
          · simp at h
/-- How many bytes are taken: none where there is an error. -/
theorem rd_none (l : List UInt8) (n : Int) (k : Nat) (e : Int) (h : rdI l = (n, k, e)) (he : ¬ e = 0) : n = 0 ∧ k = 0 := by
  match l with
  | [] => simp [rdI] at h; exact ⟨h.1.symm, h.2.1.symm⟩
  | c :: r =>
    replace h : rdC c r = (n, k, e) := h
    unfold rdC at h
    repeat' split at h
    all_goals simp only [Prod.mk.injEq] at h
    all_goals first | exact absurd h.2.2.symm he | exact ⟨h.1.symm, h.2.1.symm⟩

/-- The bytes that bytes begin with, how many their form has, and the error. -/
def rdB : List UInt8 → List UInt8 × Nat × Int
  | [] => ([], 0, 30)
  | [c] => if c = 0 then ([], 0, 30) else ([], 0, 30)
  | c :: d :: r =>
    if c = 0 then
      if d = 0 then ([], 2, 0)
      else if d = 1 then (match rdB r with | (l, k, e) => if e = 0 then (0 :: l, k + 2, 0) else ([], 0, e))
      else ([], 0, 31)
    else (match rdB (d :: r) with | (l, k, e) => if e = 0 then (c :: l, k + 1, 0) else ([], 0, e))
theorem rdB_enc : ∀ (l x : List UInt8), rdB (encB l ++ x) = (l, (encB l).length, 0)
  | [], x => by simp [encB, rdB]
  | c :: l, x => by
    have ih := rdB_enc l x
    rw [encB_cons, List.append_assoc]
    unfold escB
    by_cases h : c = 0
    · subst h
      show rdB (0 :: 1 :: (encB l ++ x)) = _
      unfold rdB
      simp [ih]
    · rw [if_neg h]
      obtain ⟨d, r, e⟩ : ∃ d r, encB l ++ x = d :: r := by
        cases l with
        | nil => exact ⟨0, 0 :: x, rfl⟩
        | cons a l =>
          rw [encB_cons]
          unfold escB
          split
          · exact ⟨_, _, rfl⟩
          · exact ⟨_, _, rfl⟩
      rw [e] at ih ⊢
      show rdB (c :: d :: r) = _
      unfold rdB
      simp [h, ih]
theorem rdB_sound : ∀ (b l : List UInt8) (k : Nat), rdB b = (l, k, 0) → k = (encB l).length ∧ ∃ x, b = encB l ++ x
  | [], l, k, h => by simp [rdB] at h
  | [c], l, k, h => by simp [rdB] at h
  | c :: d :: r, l, k, h => by
    unfold rdB at h
    by_cases h0 : c = 0
    · subst h0
      rw [if_pos rfl] at h
      by_cases h1 : d = 0
      · subst h1
        rw [if_pos rfl] at h
        simp only [Prod.mk.injEq, and_true] at h
        obtain ⟨rfl, rfl⟩ := h
        exact ⟨rfl, r, rfl⟩
      · rw [if_neg h1] at h
        by_cases h2 : d = 1
        · subst h2
          rw [if_pos rfl] at h
          cases hr : rdB r with
          | mk l' q =>
            obtain ⟨k', e'⟩ := q
            rw [hr] at h
            simp only at h
            split at h
            · rename_i he
              subst he
              simp only [Prod.mk.injEq, and_true] at h
              obtain ⟨rfl, rfl⟩ := h
              obtain ⟨i1, x, i2⟩ := rdB_sound r l' k' hr
              refine ⟨?_, x, ?_⟩
              · rw [encB_cons, i1]; simp [escB]
              · rw [encB_cons, i2]; simp [escB]
            · rename_i he
              simp only [Prod.mk.injEq] at h
              exact absurd h.2.2 he
        · rw [if_neg h2] at h
          simp at h
    · rw [if_neg h0] at h
      cases hr : rdB (d :: r) with
      | mk l' q =>
        obtain ⟨k', e'⟩ := q
        rw [hr] at h
        simp only at h
        split at h
        · rename_i he
          subst he
          simp only [Prod.mk.injEq, and_true] at h
          obtain ⟨rfl, rfl⟩ := h
          obtain ⟨i1, x, i2⟩ := rdB_sound (d :: r) l' k' hr
          refine ⟨?_, x, ?_⟩
          · rw [encB_cons, i1]; simp [escB, h0]
          · rw [encB_cons, List.append_assoc, ← i2]; simp [escB, h0]
        · rename_i he
          simp only [Prod.mk.injEq] at h
          exact absurd h.2.2 he
end Go.Proofs.Ytpdffcopigajgaa
