/-
  Bits as lists of truths, and as bytes: what the bytes of a list are, which byte operation does what to a bit. Without the model.
-/
import Derived.Lib.Bytealg
namespace Go.Proofs.Ytpdffcopigajgaa
set_option linter.unusedVariables false

def bitB (c : UInt8) (k : Nat) : Bool := c.toNat.testBit k
def bitL (l : List UInt8) (i : Nat) : Bool := bitB (l.getD (i / 8) 0) (i % 8)
def szB (N : Int) (l : List UInt8) : Nat := min N.toNat (8 * l.length)
def trB (N : Int) (l : List UInt8) : List Bool := (List.range (szB N l)).map (bitL l)
def byN (f : Nat → Bool) : Nat := (f 0).toNat + 2 * (f 1).toNat + 4 * (f 2).toNat + 8 * (f 3).toNat + 16 * (f 4).toNat + 32 * (f 5).toNat + 64 * (f 6).toNat + 128 * (f 7).toNat
def byB (f : Nat → Bool) : UInt8 := UInt8.ofNat (byN f)
def pkB (t : List Bool) : List UInt8 := (List.range ((t.length + 7) / 8)).map fun j => byB fun k => t.getD (8 * j + k) false

theorem toNat_le1 (b : Bool) : b.toNat ≤ 1 := by cases b <;> simp
theorem byN_lt (f : Nat → Bool) : byN f < 256 := by
  unfold byN
  have h0 := toNat_le1 (f 0)
  have h1 := toNat_le1 (f 1)
  have h2 := toNat_le1 (f 2)
  have h3 := toNat_le1 (f 3)
  have h4 := toNat_le1 (f 4)
  have h5 := toNat_le1 (f 5)
  have h6 := toNat_le1 (f 6)
  have h7 := toNat_le1 (f 7)
  omega
theorem byB_toNat (f : Nat → Bool) : (byB f).toNat = byN f := by
  unfold byB
  rw [UInt8.toNat_ofNat']
  exact Nat.mod_eq_of_lt (byN_lt f)
theorem bitB_byB (f : Nat → Bool) (k : Nat) (h : k < 8) : bitB (byB f) k = f k := by
  unfold bitB
  rw [byB_toNat, Nat.testBit_eq_decide_div_mod_eq]
  have key : byN f / 2 ^ k % 2 = (f k).toNat := by
    unfold byN
    have h0 := toNat_le1 (f 0)
    have h1 := toNat_le1 (f 1)
    have h2 := toNat_le1 (f 2)
    have h3 := toNat_le1 (f 3)
    have h4 := toNat_le1 (f 4)
    have h5 := toNat_le1 (f 5)
    have h6 := toNat_le1 (f 6)
    have h7 := toNat_le1 (f 7)
    match k, h with
    | 0, _ => simp; omega
    | 1, _ => simp; omega
    | 2, _ => simp; omega
    | 3, _ => simp; omega
    | 4, _ => simp; omega
    | 5, _ => simp; omega
    | 6, _ => simp; omega
    | 7, _ => simp; omega
  rw [key]
  cases f k <;> rfl
theorem bitB_far (c : UInt8) (k : Nat) (h : 8 ≤ k) : bitB c k = false := by
  unfold bitB
  refine Nat.testBit_lt_two_pow (Nat.lt_of_lt_of_le c.toNat_lt ?_)
  exact Nat.pow_le_pow_right (by decide) h
theorem bitB_zero (k : Nat) : bitB 0 k = false := by unfold bitB; simp
theorem u8_ext {a b : UInt8} (h : ∀ k, k < 8 → bitB a k = bitB b k) : a = b := by
  apply UInt8.toNat_inj.1
  apply Nat.eq_of_testBit_eq
  intro k
  by_cases hk : k < 8
  · exact h k hk
  · exact (bitB_far a k (by omega)).trans (bitB_far b k (by omega)).symm
theorem byB_bit (c : UInt8) : byB (bitB c) = c := u8_ext fun k hk => bitB_byB _ k hk
theorem byB_congr {f g : Nat → Bool} (h : ∀ k, k < 8 → f k = g k) : byB f = byB g := u8_ext fun k hk => by rw [bitB_byB _ k hk, bitB_byB _ k hk, h k hk]

theorem pk_len (t : List Bool) : (pkB t).length = (t.length + 7) / 8 := by simp [pkB]
theorem pk_get (t : List Bool) (j : Nat) (h : j < (pkB t).length) : (pkB t)[j] = byB fun k => t.getD (8 * j + k) false := by simp [pkB]
theorem bitL_in {l : List UInt8} {i : Nat} (h : i / 8 < l.length) : bitL l i = bitB l[i / 8] (i % 8) := by
  unfold bitL
  rw [List.getD_eq_getElem?_getD, List.getElem?_eq_getElem h]
  rfl
theorem bitL_at {l : List UInt8} {j k : Nat} (h : j < l.length) (hk : k < 8) : bitL l (8 * j + k) = bitB l[j] k := by
  have e1 : (8 * j + k) / 8 = j := by omega
  have e2 : (8 * j + k) % 8 = k := by omega
  unfold bitL
  rw [e1, e2, List.getD_eq_getElem?_getD, List.getElem?_eq_getElem h]
  rfl
theorem bitL_far {l : List UInt8} {i : Nat} (h : 8 * l.length ≤ i) : bitL l i = false := by
  unfold bitL
  rw [List.getD_eq_getElem?_getD, List.getElem?_eq_none (by omega)]
  exact bitB_zero _
theorem bit_pk (t : List Bool) (i : Nat) : bitL (pkB t) i = t.getD i false := by
  by_cases h : i / 8 < (pkB t).length
  · rw [bitL_in h, pk_get, bitB_byB _ _ (by omega)]
    congr 1
    omega
  · rw [bitL_far (by omega), List.getD_eq_getElem?_getD, List.getElem?_eq_none (by rw [pk_len] at h; omega)]
    rfl
theorem bitL_ext {l m : List UInt8} (hl : l.length = m.length) (h : ∀ i, i < 8 * l.length → bitL l i = bitL m i) : l = m := by
  apply List.ext_getElem hl
  intro j h1 h2
  apply u8_ext
  intro k hk
  have := h (8 * j + k) (by omega)
  rwa [bitL_at h1 hk, bitL_at h2 hk] at this
theorem pk_ext {l : List UInt8} {t : List Bool} (hl : l.length = (t.length + 7) / 8) (h : ∀ i, i < 8 * l.length → bitL l i = t.getD i false) : l = pkB t :=
  bitL_ext (hl.trans (pk_len t).symm) fun i hi => (h i hi).trans (bit_pk t i).symm
theorem sz_le (N : Int) (l : List UInt8) : szB N l ≤ 8 * l.length := Nat.min_le_right _ _
theorem tr_len (N : Int) (l : List UInt8) : (trB N l).length = szB N l := by simp [trB]
theorem tr_get (N : Int) (l : List UInt8) (i : Nat) (h : i < (trB N l).length) : (trB N l)[i] = bitL l i := by simp [trB]
theorem getD_lt {α : Type} {l : List α} {i : Nat} {d : α} (h : i < l.length) : l.getD i d = l[i] := by
  rw [List.getD_eq_getElem?_getD, List.getElem?_eq_getElem h]; rfl
theorem getD_ge {α : Type} {l : List α} {i : Nat} {d : α} (h : l.length ≤ i) : l.getD i d = d := by
  rw [List.getD_eq_getElem?_getD, List.getElem?_eq_none h]; rfl
theorem tr_getD (N : Int) (l : List UInt8) (i : Nat) : (trB N l).getD i false = (decide (i < szB N l) && bitL l i) := by
  by_cases h : i < szB N l
  · rw [getD_lt (by rw [tr_len]; exact h), tr_get]
    simp [h]
  · rw [getD_ge (by rw [tr_len]; omega)]
    simp [h]
theorem tr_pk (t : List Bool) : trB (t.length : Int) (pkB t) = t := by
  have hs : szB (t.length : Int) (pkB t) = t.length := by unfold szB; rw [pk_len]; omega
  apply List.ext_getElem
  · rw [tr_len, hs]
  · intro i h1 h2
    rw [tr_get, bit_pk, getD_lt h2]
theorem sz_pk (t : List Bool) : szB (t.length : Int) (pkB t) = t.length := by rw [← tr_len, tr_pk]
theorem pk_inj {s t : List Bool} (hl : s.length = t.length) (h : pkB s = pkB t) : s = t := by
  rw [← tr_pk s, ← tr_pk t, h, hl]

/-- A bit of a byte is set or cleared. -/
def setB (c : UInt8) (k : Nat) (y : Bool) : UInt8 := byB fun j => if j = k then y else bitB c j
def putB (l : List UInt8) (i : Nat) (y : Bool) : List UInt8 := l.set (i / 8) (setB (l.getD (i / 8) 0) (i % 8) y)
theorem put_len (l : List UInt8) (i : Nat) (y : Bool) : (putB l i y).length = l.length := by simp [putB]
theorem bit_put {l : List UInt8} {i : Nat} {y : Bool} (h : i < 8 * l.length) (j : Nat) : bitL (putB l i y) j = if j = i then y else bitL l j := by
  have hi : i / 8 < l.length := by omega
  by_cases hj : j / 8 < l.length
  · have hj2 : j / 8 < (putB l i y).length := by rw [put_len]; exact hj
    have e0 : (putB l i y)[j / 8] = if i / 8 = j / 8 then setB (l.getD (i / 8) 0) (i % 8) y else l[j / 8] := List.getElem_set _
    rw [bitL_in hj2, bitL_in hj, e0]
    by_cases e : i / 8 = j / 8
    · rw [if_pos e]
      unfold setB
      rw [bitB_byB _ _ (by omega), getD_lt hi]
      by_cases e2 : j % 8 = i % 8
      · rw [if_pos e2, if_pos (by omega)]
      · rw [if_neg e2, if_neg (by omega)]
        simp only [e]
    · rw [if_neg e, if_neg (by omega)]
  · rw [bitL_far (by rw [put_len]; omega), bitL_far (by omega), if_neg (by omega)]
theorem put_pk {t : List Bool} {i : Nat} (h : i < t.length) (y : Bool) : putB (pkB t) i y = pkB (t.set i y) := by
  have hi : i < 8 * (pkB t).length := by rw [pk_len]; omega
  refine pk_ext (by rw [put_len, pk_len, List.length_set]) fun j _ => ?_
  rw [bit_put hi, bit_pk]
  by_cases e : j = i
  · subst e
    rw [if_pos rfl, getD_lt (by simpa using h)]
    simp
  · rw [if_neg e, List.getD_eq_getElem?_getD, List.getD_eq_getElem?_getD, List.getElem?_set_ne (by omega)]
/-- No bit is set. -/
theorem pk_none (n : Nat) : pkB (List.replicate n false) = List.replicate ((n + 7) / 8) 0 := by
  symm
  refine pk_ext (by simp) fun i hi => ?_
  have h1 : bitL (List.replicate ((n + 7) / 8) 0) i = false := by
    simp at hi
    rw [bitL_in (by simp; omega)]
    simp [bitB_zero]
  rw [h1, List.getD_eq_getElem?_getD, List.getElem?_replicate]
  split <;> rfl
/-- The bytes behind the last bit are cut, and so are its byte's other bits. -/
def maskB (c : UInt8) (u : Nat) : UInt8 := byB fun k => decide (k < u) && bitB c k
def normB (n : Nat) (l : List UInt8) : List UInt8 := if n % 8 = 0 then l.take (n / 8) else (l.take ((n + 7) / 8)).set (n / 8) (maskB (l.getD (n / 8) 0) (n % 8))
theorem norm_pk (N : Int) (l : List UInt8) : normB (szB N l) l = pkB (trB N l) := by
  have hs := sz_le N l
  generalize hn : szB N l = n at *
  have hlen : (normB n l).length = (n + 7) / 8 := by
    unfold normB
    split
    · rw [List.length_take]; omega
    · rw [List.length_set, List.length_take]; omega
  refine pk_ext (by rw [hlen, tr_len, hn]) fun i hi => ?_
  rw [tr_getD, hn]
  rw [hlen] at hi
  have hi8 : i / 8 < (normB n l).length := by rw [hlen]; omega
  have hil : i / 8 < l.length := by omega
  rw [bitL_in hi8, bitL_in hil]
  unfold normB at hi8 ⊢
  by_cases h0 : n % 8 = 0
  · simp only [h0, if_true]
    rw [List.getElem_take, decide_eq_true (show i < n by omega)]
    simp
  · simp only [h0, if_false]
    rw [List.getElem_set]
    by_cases e : n / 8 = i / 8
    · rw [if_pos e]
      unfold maskB
      rw [bitB_byB _ _ (by omega), getD_lt (by omega)]
      simp only [e]
      congr 1
      exact decide_eq_decide.2 (by omega)
    · rw [if_neg e, List.getElem_take, decide_eq_true (show i < n by omega)]
      simp
end Go.Proofs.Ytpdffcopigajgaa
