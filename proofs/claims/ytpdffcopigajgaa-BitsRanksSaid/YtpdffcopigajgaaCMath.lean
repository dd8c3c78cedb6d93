/-
  Forms of ints and of bytes: their order, and that none is the beginning of another one. Without the model.
-/
import Derived.Lib.Bytealg
namespace Go.Proofs.Ytpdffcopigajgaa
set_option linter.unusedVariables false

/-- The bytes of a number, the least one first; at least one. -/
def leF (m : Nat) : List UInt8 := if h : m < 256 then [UInt8.ofNat m] else UInt8.ofNat (m % 256) :: leF (m / 256)
termination_by m
decreasing_by omega
theorem leF_small {m : Nat} (h : m < 256) : leF m = [UInt8.ofNat m] := by rw [leF, dif_pos h]
theorem leF_big {m : Nat} (h : ¬ m < 256) : leF m = UInt8.ofNat (m % 256) :: leF (m / 256) := by rw [leF, dif_neg h]
def leV : List UInt8 → Nat
  | [] => 0
  | c :: l => c.toNat + 256 * leV l
theorem leF_facts : ∀ m : Nat, 0 < (leF m).length ∧ leV (leF m) = m ∧ m < 256 ^ (leF m).length ∧ (1 < (leF m).length → 256 ^ ((leF m).length - 1) ≤ m) := by
  intro m
  induction m using Nat.strongRecOn with
  | ind m ih =>
    by_cases h : m < 256
    · rw [leF_small h]
      refine ⟨by simp, ?_, by simpa using h, by simp⟩
      simp only [leV, UInt8.toNat_ofNat']
      omega
    · obtain ⟨i1, i2, i3, i4⟩ := ih (m / 256) (by omega)
      rw [leF_big h]
      have hd := Nat.div_add_mod m 256
      have hm := Nat.mod_lt m (show 0 < 256 by decide)
      refine ⟨by simp, ?_, ?_, fun _ => ?_⟩
      · simp only [leV, UInt8.toNat_ofNat', i2]
        omega
      · rw [List.length_cons, Nat.pow_succ]
        omega
      · rw [List.length_cons, Nat.add_sub_cancel]
        by_cases h1 : 1 < (leF (m / 256)).length
        · have := i4 h1
          have e : 256 ^ (leF (m / 256)).length = 256 ^ ((leF (m / 256)).length - 1) * 256 := by rw [← Nat.pow_succ]; congr 1; omega
          rw [e]; omega
        · have e : (leF (m / 256)).length = 1 := by omega
          rw [e]; omega
theorem leF_le {m k : Nat} (hk : 0 < k) (h : m < 256 ^ k) : (leF m).length ≤ k := by
  obtain ⟨h1, h2, h3, h4⟩ := leF_facts m
  rcases Nat.lt_or_ge k (leF m).length with hh | hh
  · have h5 := h4 (by omega)
    have h6 : 256 ^ k ≤ 256 ^ ((leF m).length - 1) := Nat.pow_le_pow_right (by decide) (by omega)
    omega
  · exact hh
theorem leF_mono {m n : Nat} (h : m ≤ n) : (leF m).length ≤ (leF n).length := by
  obtain ⟨h1, h2, h3, h4⟩ := leF_facts n
  exact leF_le h1 (by omega)

/-- The number that bytes spell, the greatest one first. -/
def beV : List UInt8 → Nat
  | [] => 0
  | c :: l => c.toNat * 256 ^ l.length + beV l
theorem beV_lt : ∀ l : List UInt8, beV l < 256 ^ l.length
  | [] => by simp [beV]
  | c :: l => by
    have h := beV_lt l
    have hc := c.toNat_lt
    simp only [beV, List.length_cons, Nat.pow_succ]
    have : c.toNat * 256 ^ l.length ≤ 255 * 256 ^ l.length := Nat.mul_le_mul_right _ (by omega)
    omega
theorem beV_snoc : ∀ (l : List UInt8) (c : UInt8), beV (l ++ [c]) = beV l * 256 + c.toNat
  | [], c => by simp [beV]
  | d :: l, c => by
    simp only [List.cons_append, beV, beV_snoc l c, List.length_append, List.length_singleton, Nat.pow_succ, Nat.add_mul, Nat.mul_assoc]
    omega
theorem beV_rev : ∀ l : List UInt8, beV l.reverse = leV l
  | [] => rfl
  | c :: l => by
    rw [List.reverse_cons, beV_snoc, beV_rev l, leV]
    omega

/-- They differ first at a place that both have, and there the first one is less. -/
def Lt8 (a b : List UInt8) : Prop := ∃ (p : List UInt8) (c d : UInt8) (r r' : List UInt8), a = p ++ c :: r ∧ b = p ++ d :: r' ∧ c.toNat < d.toNat
theorem Lt8.pre {a b : List UInt8} (h : Lt8 a b) (q : List UInt8) : Lt8 (q ++ a) (q ++ b) := by
  obtain ⟨p, c, d, r, r', rfl, rfl, hc⟩ := h
  exact ⟨q ++ p, c, d, r, r', by simp, by simp, hc⟩
theorem Lt8.post {a b : List UInt8} (h : Lt8 a b) (x y : List UInt8) : Lt8 (a ++ x) (b ++ y) := by
  obtain ⟨p, c, d, r, r', rfl, rfl, hc⟩ := h
  exact ⟨p, c, d, r ++ x, r' ++ y, by simp, by simp, hc⟩
theorem cmp_pre : ∀ (p a b : List UInt8), Lib.compareBytes (p ++ a) (p ++ b) = Lib.compareBytes a b
  | [], a, b => rfl
  | c :: p, a, b => by
    have h : ¬ c < c := by rw [UInt8.lt_iff_toNat_lt]; omega
    simp only [List.cons_append, Lib.compareBytes, if_neg h]
    exact cmp_pre p a b
theorem Lt8.cmp {a b : List UInt8} (h : Lt8 a b) : Lib.compareBytes a b = -1 ∧ Lib.compareBytes b a = 1 := by
  obtain ⟨p, c, d, r, r', rfl, rfl, hc⟩ := h
  have h1 : c < d := UInt8.lt_iff_toNat_lt.2 hc
  have h2 : ¬ d < c := by rw [UInt8.lt_iff_toNat_lt]; omega
  rw [cmp_pre, cmp_pre]
  simp [Lib.compareBytes, h1, h2]
theorem Lt8.apart {a b : List UInt8} (h : Lt8 a b) (x : List UInt8) : ¬ a ++ x = b ∧ ¬ b ++ x = a := by
  obtain ⟨p, c, d, r, r', rfl, rfl, hc⟩ := h
  constructor
  · intro e
    simp only [List.append_assoc, List.append_cancel_left_eq, List.cons_append, List.cons.injEq] at e
    rw [e.1] at hc; omega
  · intro e
    simp only [List.append_assoc, List.append_cancel_left_eq, List.cons_append, List.cons.injEq] at e
    rw [e.1] at hc; omega
/-- Of one length: the less number. -/
theorem lt_value : ∀ {a b : List UInt8}, a.length = b.length → beV a < beV b → Lt8 a b
  | [], [], _, h => by simp [beV] at h
  | c :: a, d :: b, hl, h => by
    have hl' : a.length = b.length := by simpa using hl
    rcases Nat.lt_trichotomy c.toNat d.toNat with hc | hc | hc
    · exact ⟨[], c, d, a, b, rfl, rfl, hc⟩
    · obtain rfl : c = d := UInt8.toNat_inj.1 hc
      have h' : beV a < beV b := by simp only [beV, hl'] at h; omega
      exact (lt_value hl' h').pre [c]
    · exfalso
      simp only [beV, hl'] at h
      have h1 : (d.toNat + 1) * 256 ^ b.length ≤ c.toNat * 256 ^ b.length := Nat.mul_le_mul_right _ hc
      have h2 := beV_lt b
      rw [Nat.add_mul] at h1
      omega

/-- The form of a number from 0 on. -/
def upF (n : Nat) : List UInt8 := if n < 120 then [UInt8.ofNat (128 + n)] else UInt8.ofNat (247 + (leF (n - 120)).length) :: (leF (n - 120)).reverse
theorem up_small {n : Nat} (h : n < 120) : upF n = [UInt8.ofNat (128 + n)] := if_pos h
theorem up_big {n : Nat} (h : ¬ n < 120) : upF n = UInt8.ofNat (247 + (leF (n - 120)).length) :: (leF (n - 120)).reverse := if_neg h
theorem up_len8 {n : Nat} (hn : n < 9223372036854775808) : (leF (n - 120)).length ≤ 8 := leF_le (by decide) (by omega)
theorem up_lt {n n' : Nat} (hn : n' < 9223372036854775808) (h : n < n') : Lt8 (upF n) (upF n') := by
  by_cases h1 : n' < 120
  · rw [up_small (by omega : n < 120), up_small h1]
    exact ⟨[], _, _, [], [], rfl, rfl, by simp only [UInt8.toNat_ofNat']; omega⟩
  · have l8 := up_len8 hn
    have lp := (leF_facts (n' - 120)).1
    rw [up_big h1]
    by_cases h0 : n < 120
    · rw [up_small h0]
      exact ⟨[], _, _, [], _, rfl, rfl, by simp only [UInt8.toNat_ofNat']; omega⟩
    · rw [up_big h0]
      have hm := leF_mono (show n - 120 ≤ n' - 120 by omega)
      rcases Nat.lt_or_ge (leF (n - 120)).length (leF (n' - 120)).length with hl | hl
      · exact ⟨[], _, _, _, _, rfl, rfl, by simp only [UInt8.toNat_ofNat']; omega⟩
      · have e : (leF (n - 120)).length = (leF (n' - 120)).length := by omega
        rw [e]
        refine Lt8.pre (lt_value (a := (leF (n - 120)).reverse) (b := (leF (n' - 120)).reverse) (by simp [e]) ?_) [_]
        rw [beV_rev, beV_rev, (leF_facts _).2.1, (leF_facts _).2.1]
        omega
/-- All bits turned. -/
def turnB (c : UInt8) : UInt8 := UInt8.ofNat (255 - c.toNat)
theorem turnB_nat (c : UInt8) : (turnB c).toNat = 255 - c.toNat := by
  unfold turnB
  rw [UInt8.toNat_ofNat']
  omega
def turnL (l : List UInt8) : List UInt8 := l.map turnB
theorem Lt8.turn {a b : List UInt8} (h : Lt8 a b) : Lt8 (turnL b) (turnL a) := by
  obtain ⟨p, c, d, r, r', rfl, rfl, hc⟩ := h
  have := d.toNat_lt
  exact ⟨turnL p, turnB d, turnB c, turnL r', turnL r, by simp [turnL], by simp [turnL], by rw [turnB_nat, turnB_nat]; omega⟩
/-- The form of an int. -/
def encI (n : Int) : List UInt8 := if n < 0 then turnL (upF (-(n + 1)).toNat) else upF n.toNat
theorem up_first (n : Nat) (hn : n < 9223372036854775808) : ∃ c r, upF n = c :: r ∧ 128 ≤ c.toNat := by
  by_cases h : n < 120
  · exact ⟨_, _, up_small h, by simp only [UInt8.toNat_ofNat']; omega⟩
  · have l8 := up_len8 hn
    exact ⟨_, _, up_big h, by simp only [UInt8.toNat_ofNat']; omega⟩
theorem enc_lt {a b : Int} (ha : -9223372036854775808 ≤ a) (hb : b ≤ 9223372036854775807) (h : a < b) : Lt8 (encI a) (encI b) := by
  unfold encI
  by_cases h0 : b < 0
  · rw [if_pos (by omega), if_pos h0]
    exact (up_lt (by omega) (by omega)).turn
  · rw [if_neg h0]
    by_cases h1 : a < 0
    · rw [if_pos h1]
      obtain ⟨c, r, e, hc⟩ := up_first (-(a + 1)).toNat (by omega)
      obtain ⟨d, r', e', hd⟩ := up_first b.toNat (by omega)
      rw [e, e']
      exact ⟨[], turnB c, d, turnL r, r', rfl, rfl, by rw [turnB_nat]; omega⟩
    · rw [if_neg h1]
      exact up_lt (by omega) (by omega)
theorem enc_ne (n : Int) (h1 : -9223372036854775808 ≤ n) (h2 : n ≤ 9223372036854775807) : ∃ c r, encI n = c :: r := by
  unfold encI
  split
  · obtain ⟨c, r, e, _⟩ := up_first (-(n + 1)).toNat (by omega)
    exact ⟨turnB c, turnL r, by rw [e]; rfl⟩
  · obtain ⟨c, r, e, _⟩ := up_first n.toNat (by omega)
    exact ⟨c, r, e⟩
/-- How long an int's form is. -/
theorem enc_len (n : Int) : (encI n).length = (upF (if n < 0 then (-(n + 1)).toNat else n.toNat)).length := by
  unfold encI
  split <;> simp [turnL]

/-- Rows of ints. -/
def rowF (l : List Int) : List UInt8 := l.flatMap encI
def cmpInts : List Int → List Int → Int
  | [], [] => 0
  | [], _ :: _ => -1
  | _ :: _, [] => 1
  | a :: as, b :: bs => if a < b then -1 else if b < a then 1 else cmpInts as bs
def In8 (n : Int) : Prop := -9223372036854775808 ≤ n ∧ n ≤ 9223372036854775807
theorem row_cmp : ∀ (a b : List Int), (∀ n ∈ a, In8 n) → (∀ n ∈ b, In8 n) → Lib.compareBytes (rowF a) (rowF b) = cmpInts a b
  | [], [], _, _ => rfl
  | [], b :: bs, _, hb => by
    obtain ⟨c, r, e⟩ := enc_ne b (hb b (by simp)).1 (hb b (by simp)).2
    simp [rowF, e, Lib.compareBytes, cmpInts]
  | a :: as, [], ha, _ => by
    obtain ⟨c, r, e⟩ := enc_ne a (ha a (by simp)).1 (ha a (by simp)).2
    simp [rowF, e, Lib.compareBytes, cmpInts]
  | a :: as, b :: bs, ha, hb => by
    have ia := ha a (by simp)
    have ib := hb b (by simp)
    simp only [rowF, List.flatMap_cons, cmpInts]
    by_cases h : a < b
    · rw [if_pos h]; exact ((enc_lt ia.1 ib.2 h).post _ _).cmp.1
    · rw [if_neg h]
      by_cases h' : b < a
      · rw [if_pos h']; exact ((enc_lt ib.1 ia.2 h').post _ _).cmp.2
      · obtain rfl : a = b := by omega
        rw [if_neg h', cmp_pre]
        exact row_cmp as bs (fun n hn => ha n (by simp [hn])) (fun n hn => hb n (by simp [hn]))

/-- The form of bytes. -/
def escB (c : UInt8) : List UInt8 := if c = 0 then [0, 1] else [c]
def encB (l : List UInt8) : List UInt8 := l.flatMap escB ++ [0, 0]
theorem encB_cons (c : UInt8) (l : List UInt8) : encB (c :: l) = escB c ++ encB l := by simp [encB]
theorem esc_lt {a b : UInt8} (h : a < b) (x y : List UInt8) : Lt8 (escB a ++ x) (escB b ++ y) := by
  have h' := UInt8.lt_iff_toNat_lt.1 h
  have hb : ¬ b = 0 := by rintro rfl; simp at h'
  unfold escB
  rw [if_neg hb]
  by_cases ha : a = 0
  · subst ha
    exact ⟨[], 0, b, 1 :: x, y, rfl, rfl, h'⟩
  · rw [if_neg ha]
    exact ⟨[], a, b, x, y, rfl, rfl, h'⟩
theorem nil_lt (c : UInt8) (l : List UInt8) : Lt8 (encB []) (encB (c :: l)) := by
  rw [encB_cons]
  unfold escB
  by_cases h : c = 0
  · rw [if_pos h]
    exact ⟨[0], 0, 1, [], encB l, rfl, rfl, by decide⟩
  · rw [if_neg h]
    refine ⟨[], 0, c, [0], encB l, rfl, rfl, ?_⟩
    have : ¬ c.toNat = 0 := fun e => h (UInt8.toNat_inj.1 e)
    show 0 < c.toNat
    omega
theorem text_cmp : ∀ s t : List UInt8, (Lib.compareBytes s t = 0 ∧ s = t) ∨ (Lib.compareBytes s t = -1 ∧ Lt8 (encB s) (encB t)) ∨ (Lib.compareBytes s t = 1 ∧ Lt8 (encB t) (encB s))
  | [], [] => .inl ⟨rfl, rfl⟩
  | [], c :: t => .inr (.inl ⟨rfl, nil_lt c t⟩)
  | c :: s, [] => .inr (.inr ⟨rfl, nil_lt c s⟩)
  | a :: s, b :: t => by
    by_cases h : a < b
    · refine .inr (.inl ⟨by simp [Lib.compareBytes, h], ?_⟩)
      rw [encB_cons, encB_cons]; exact esc_lt h _ _
    · by_cases h' : b < a
      · refine .inr (.inr ⟨by simp [Lib.compareBytes, h, h'], ?_⟩)
        rw [encB_cons, encB_cons]; exact esc_lt h' _ _
      · obtain rfl : a = b := by
          rw [UInt8.lt_iff_toNat_lt] at h h'
          exact UInt8.toNat_inj.1 (by omega)
        have e : Lib.compareBytes (a :: s) (a :: t) = Lib.compareBytes s t := by simp [Lib.compareBytes]
        rw [e, encB_cons, encB_cons]
        rcases text_cmp s t with ⟨h1, rfl⟩ | ⟨h1, h2⟩ | ⟨h1, h2⟩
        · exact .inl ⟨h1, rfl⟩
        · exact .inr (.inl ⟨h1, h2.pre _⟩)
        · exact .inr (.inr ⟨h1, h2.pre _⟩)
/-- Texts are in the order of their forms. -/
theorem encB_cmp (s t : List UInt8) : Lib.compareBytes (encB s) (encB t) = Lib.compareBytes s t := by
  rcases text_cmp s t with ⟨h1, rfl⟩ | ⟨h1, h2⟩ | ⟨h1, h2⟩
  · have := cmp_pre (encB s) [] []
    simp only [List.append_nil] at this
    rw [this, h1]; rfl
  · rw [h1, h2.cmp.1]
  · rw [h1, h2.cmp.2]
theorem encB_apart {s t : List UInt8} (h : ¬ s = t) (x : List UInt8) : ¬ encB s ++ x = encB t := by
  rcases text_cmp s t with ⟨h1, e⟩ | ⟨h1, h2⟩ | ⟨h1, h2⟩
  · exact absurd e h
  · exact (h2.apart x).1
  · exact (h2.apart x).2
theorem encI_apart {a b : Int} (ha : In8 a) (hb : In8 b) (h : ¬ a = b) (x : List UInt8) : ¬ encI a ++ x = encI b := by
  rcases (show a < b ∨ b < a by omega) with h1 | h1
  · exact ((enc_lt ha.1 hb.2 h1).apart x).1
  · exact ((enc_lt hb.1 ha.2 h1).apart x).2
/-- What stands behind a form is told from it: forms are read in one way. -/
theorem encI_read {a b : Int} (ha : In8 a) (hb : In8 b) {x y : List UInt8} (h : encI a ++ x = encI b ++ y) : a = b ∧ x = y := by
  by_cases hab : a = b
  · subst hab
    exact ⟨rfl, List.append_cancel_left h⟩
  · exfalso
    rcases (show a < b ∨ b < a by omega) with h1 | h1
    · have := ((enc_lt ha.1 hb.2 h1).post x y).apart []
      exact this.1 (by simpa using h)
    · have := ((enc_lt hb.1 ha.2 h1).post y x).apart []
      exact this.1 (by simpa using h.symm)
theorem encB_read {s t : List UInt8} {x y : List UInt8} (h : encB s ++ x = encB t ++ y) : s = t ∧ x = y := by
  rcases text_cmp s t with ⟨h1, rfl⟩ | ⟨h1, h2⟩ | ⟨h1, h2⟩
  · exact ⟨rfl, List.append_cancel_left h⟩
  · exact absurd (by simpa using h) ((h2.post x y).apart []).1
  · exact absurd (by simpa using h.symm) ((h2.post y x).apart []).1
end Go.Proofs.Ytpdffcopigajgaa
