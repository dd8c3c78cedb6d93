/-
  Keys: one value's, a list's; each is the beginning of no other one's.
-/
import Derived.Test.YtogdkhnakenbcaaGreatDoorVOrd
import Derived.Test.YtogdkhnakenbcaaGreatDoorFormat
namespace Go.Proofs.YtogdkhnakenbcaaGreatDoor
open Go.ChangeShapes Go.WideShapes Go.ChangeAt Go.RowKit
set_option linter.unusedVariables false

def isD (c : UInt8) : Bool := decide (48 ≤ c.toNat ∧ c.toNat ≤ 57)
def digitsB (l : List UInt8) : Bool := !l.isEmpty && l.all isD
/-- The number that digits spell, behind others that spell a. -/
def valF (a : Nat) (l : List UInt8) : Nat := l.foldl (fun a c => 10 * a + (c.toNat - 48)) a
theorem valF_nil (a : Nat) : valF a [] = a := List.foldl_nil
theorem valF_cons (a : Nat) (c : UInt8) (r : List UInt8) : valF a (c :: r) = valF (10 * a + (c.toNat - 48)) r := List.foldl_cons ..
def valD (l : List UInt8) : Nat := valF 0 l
theorem isD_bd {c : UInt8} (h : isD c = true) : 48 ≤ c.toNat ∧ c.toNat ≤ 57 := by simpa [isD] using h
theorem digits_all {l : List UInt8} (h : digitsB l = true) : l ≠ [] ∧ ∀ c ∈ l, isD c = true := by
  simp [digitsB] at h; exact h
theorem digits_of {l : List UInt8} (h : l ≠ []) (h' : ∀ c ∈ l, isD c = true) : digitsB l = true := by
  simp [digitsB, h]; exact h'
theorem digits_app {a b : List UInt8} (ha : digitsB a = true) (hb : ∀ c ∈ b, isD c = true) : digitsB (a ++ b) = true := by
  have h := digits_all ha
  exact digits_of (by simp [h.1]) (fun c hc => (List.mem_append.1 hc).elim (h.2 c) (hb c))
theorem valF_app (a : Nat) (x y : List UInt8) : valF a (x ++ y) = valF (valF a x) y := by
  unfold valF; rw [List.foldl_append]
theorem valD_snoc (l : List UInt8) (c : UInt8) : valD (l ++ [c]) = 10 * valD l + (c.toNat - 48) := by unfold valD; rw [valF_app, valF_cons, valF_nil]
theorem digit_of (n : Nat) : isD (UInt8.ofNat (48 + n % 10)) = true ∧ (UInt8.ofNat (48 + n % 10)).toNat - 48 = n % 10 := by
  have e : (UInt8.ofNat (48 + n % 10)).toNat = 48 + n % 10 := by rw [UInt8.toNat_ofNat']; omega
  constructor
  · unfold isD; rw [e]; simp; omega
  · rw [e]; omega
theorem pad0_read : ∀ b n k, n + k ≤ b → (∀ c ∈ pad0 n k, isD c = true) ∧ valD (pad0 n k) = n := by
  intro b
  induction b with
  | zero =>
    intro n k h
    obtain rfl : n = 0 := by omega
    obtain rfl : k = 0 := by omega
    have e : pad0 0 0 = [] := rfl
    rw [e]
    exact ⟨fun c hc => by simp at hc, rfl⟩
  | succ b ih =>
    intro n k h
    by_cases hz : 0 < n ∨ 0 < k
    · obtain ⟨i1, i2⟩ := ih (n / 10) (k - 1) (by omega)
      have hd := digit_of n
      rw [pad0_step n k hz]
      constructor
      · intro c hc
        rcases List.mem_append.1 hc with hc | hc
        · exact i1 c hc
        · have e : c = UInt8.ofNat (48 + n % 10) := List.mem_singleton.1 hc
          rw [e]; exact hd.1
      · rw [valD_snoc, i2, hd.2]; omega
    · exact ih n k (by omega)
theorem padL_read (u n : Nat) (h : 1 ≤ n) (hu : u < 18446744073709551616) (hn : n ≤ 100) : digitsB (padL u n) = true ∧ valD (padL u n) = u := by
  have h1 := pad0_read _ u n (Nat.le_refl _)
  have h2 := padL_len u n hu h hn
  rw [pad0_eq u n h] at h1
  exact ⟨digits_of (fun e => by rw [e] at h2; simp at h2; omega) h1.1, h1.2⟩
theorem dec_read' (n : Nat) (hu : n < 18446744073709551616) : digitsB (Lib.decDigits n) = true ∧ valD (Lib.decDigits n) = n := by
  have hr := padL_read n 1 (by omega) hu (by omega)
  rwa [padL_one _ hu] at hr
theorem itoa_pos {n : Int} (h : ¬ n < 0) : Lib.itoa n = Lib.decDigits n.natAbs := by
  have e2 : n.toNat = n.natAbs := by omega
  rw [← e2]
  exact if_neg h
theorem itoa_neg {n : Int} (h : n < 0) : Lib.itoa n = 45 :: Lib.decDigits n.natAbs := if_pos h
theorem itoa_small (k : Int) (h : 0 ≤ k) (h' : k ≤ 9) : Lib.itoa k = [UInt8.ofNat (48 + k.toNat)] := by
  rw [itoa_pos (by omega), Lib.decDigits_one (by omega)]
  congr 2; omega
theorem itoa_not (n : Int) (h : In64 n) (D : UInt8) (hD : 57 < D.toNat) : ∀ c ∈ Lib.itoa n, c ≠ D := by
  have hu : n.natAbs < 18446744073709551616 := by unfold In64 at h; omega
  have hd := (digits_all (dec_read' n.natAbs hu).1).2
  rintro c hc rfl
  by_cases hn : n < 0
  · rw [itoa_neg hn] at hc
    rcases List.mem_cons.1 hc with rfl | hc
    · exact absurd hD (by decide)
    · have := isD_bd (hd _ hc); omega
  · rw [itoa_pos hn] at hc
    have := isD_bd (hd _ hc); omega
theorem itoa_inj {a b : Int} (ha : In64 a) (hb : In64 b) (h : Lib.itoa a = Lib.itoa b) : a = b := by
  have ua : a.natAbs < 18446744073709551616 := by unfold In64 at ha; omega
  have ub : b.natAbs < 18446744073709551616 := by unfold In64 at hb; omega
  have da := dec_read' a.natAbs ua
  have db := dec_read' b.natAbs ub
  have nd : ∀ l : List UInt8, digitsB l = true → ∀ m, l ≠ 45 :: m := by
    rintro l hl m rfl
    have := isD_bd ((digits_all hl).2 45 (by simp))
    simp at this
  by_cases hn : a < 0 <;> by_cases hm : b < 0
  · rw [itoa_neg hn, itoa_neg hm, List.cons.injEq] at h
    have := da.2; rw [h.2, db.2] at this; omega
  · rw [itoa_neg hn, itoa_pos hm] at h
    exact absurd h.symm (nd _ db.1 _)
  · rw [itoa_pos hn, itoa_neg hm] at h
    exact absurd h (nd _ da.1 _)
  · rw [itoa_pos hn, itoa_pos hm] at h
    have := da.2; rw [h, db.2] at this; omega
theorem split_at (D : UInt8) : ∀ A B x y : List UInt8, (∀ c ∈ A, c ≠ D) → (∀ c ∈ B, c ≠ D) → A ++ D :: x = B ++ D :: y → A = B ∧ x = y
  | [], [], x, y, _, _, h => ⟨rfl, by simpa using h⟩
  | [], b :: B, x, y, _, hB, h => by
    simp only [List.nil_append, List.cons_append, List.cons.injEq] at h
    exact absurd h.1.symm (hB b (by simp))
  | a :: A, [], x, y, hA, _, h => by
    simp only [List.nil_append, List.cons_append, List.cons.injEq] at h
    exact absurd h.1 (hA a (by simp))
  | a :: A, b :: B, x, y, hA, hB, h => by
    simp only [List.cons_append, List.cons.injEq] at h
    obtain ⟨e1, e2⟩ := split_at D A B x y (fun c hc => hA c (by simp [hc])) (fun c hc => hB c (by simp [hc])) h.2
    exact ⟨by rw [h.1, e1], e2⟩

/-- The two digits of a scale in a key. -/
def scI (s : Int) : Int := if s < 0 ∨ 18 < s then 99 else s
def sc2 (s : Int) : List UInt8 := [UInt8.ofNat (48 + (scI s).toNat / 10), UInt8.ofNat (48 + (scI s).toNat % 10)]
/-- What stands in a key behind the kind and the scale. -/
def bodyK (v : VR) : List UInt8 := if v.nl then [110] else if v.k = 4 then 118 :: (Lib.itoa v.t.size ++ 58 :: v.t.data.toList) else 118 :: (Lib.itoa v.n ++ [59])
def headK (v : VR) : List UInt8 := Lib.itoa v.k ++ if v.k = 3 then sc2 v.s else []
def keyV (v : VR) : List UInt8 := headK v ++ bodyK v
def keyL : List VR → List UInt8
  | [] => []
  | v :: l => keyV v ++ keyL l

/-- A value that may be. -/
structure Good (v : VR) : Prop where
  k1 : 1 ≤ v.k
  k5 : v.k ≤ 5
  s0 : 0 ≤ v.s
  s1 : v.s ≤ 18
  s2 : v.k ≠ 3 → v.s = 0
  nul : v.nl = true → v.n = 0 ∧ v.t = ByteArray.empty
  txt : v.nl = false → v.k = 4 → v.n = 0
  num : v.nl = false → v.k ≠ 4 → v.t = ByteArray.empty

theorem sc2_inj {s s' : Int} (h0 : 0 ≤ s) (h1 : s ≤ 18) (h0' : 0 ≤ s') (h1' : s' ≤ 18) (h : sc2 s = sc2 s') : s = s' := by
  unfold sc2 scI at h
  rw [if_neg (by omega), if_neg (by omega)] at h
  simp only [List.cons.injEq, and_true] at h
  have e1 := congrArg UInt8.toNat h.1
  have e2 := congrArg UInt8.toNat h.2
  simp only [UInt8.toNat_ofNat'] at e1 e2
  omega
theorem kind_one {k : Int} (h1 : 1 ≤ k) (h5 : k ≤ 5) : Lib.itoa k = [UInt8.ofNat (48 + k.toNat)] := by
  obtain rfl | rfl | rfl | rfl | rfl : k = 1 ∨ k = 2 ∨ k = 3 ∨ k = 4 ∨ k = 5 := by omega
  all_goals exact (itoa_small _ (by decide) (by decide))
theorem keyV_inj {a b : VR} (ga : Good a) (gb : Good b) (ha : In64 a.n) (hb : In64 b.n) (la : In64 (a.t.size : Int)) (lb : In64 (b.t.size : Int)) {x y : List UInt8} (h : keyV a ++ x = keyV b ++ y) : a = b ∧ x = y := by
  have hk : a.k = b.k := by
    unfold keyV headK at h
    rw [kind_one ga.k1 ga.k5, kind_one gb.k1 gb.k5] at h
    simp only [List.append_assoc, List.cons_append, List.cons.injEq, List.nil_append] at h
    have e := congrArg UInt8.toNat h.1
    simp only [UInt8.toNat_ofNat'] at e
    have := ga.k1; have := ga.k5; have := gb.k1; have := gb.k5
    omega
  unfold keyV headK at h
  rw [hk, List.append_assoc, List.append_assoc, List.append_assoc, List.append_assoc, List.append_cancel_left_eq] at h
  have h2 : a.s = b.s ∧ bodyK a ++ x = bodyK b ++ y := by
    by_cases h3 : b.k = 3
    · rw [if_pos h3, if_pos h3] at h
      unfold sc2 at h
      simp only [List.cons_append, List.cons.injEq, List.nil_append] at h
      exact ⟨sc2_inj ga.s0 ga.s1 gb.s0 gb.s1 (by unfold sc2; rw [h.1, h.2.1]), h.2.2⟩
    · rw [if_neg h3, if_neg h3] at h
      exact ⟨by rw [ga.s2 (by rw [hk]; exact h3), gb.s2 h3], by simpa using h⟩
  obtain ⟨hs, h⟩ := h2
  have hnl : a.nl = b.nl := by
    unfold bodyK at h
    cases ea : a.nl <;> cases eb : b.nl
    · rfl
    · rw [ea, eb] at h
      simp only [Bool.false_eq_true, if_false, if_true] at h
      split at h <;> simp at h
    · rw [ea, eb] at h
      simp only [Bool.false_eq_true, if_false, if_true] at h
      split at h <;> simp at h
    · rfl
  have h3 : a.n = b.n ∧ a.t = b.t ∧ x = y := by
    unfold bodyK at h
    rw [hnl, hk] at h
    cases eb : b.nl
    · rw [eb] at h
      have ea := hnl.trans eb
      simp only [Bool.false_eq_true, if_false] at h
      by_cases h4 : b.k = 4
      · rw [if_pos h4, if_pos h4] at h
        simp only [List.cons_append, List.cons.injEq, true_and, List.append_assoc] at h
        obtain ⟨e1, e2⟩ := split_at 58 _ _ _ _ (itoa_not _ la 58 (by decide)) (itoa_not _ lb 58 (by decide)) h
        have e3 := itoa_inj la lb e1
        have e4 : a.t.data.toList.length = b.t.data.toList.length := by
          have e : ∀ t : ByteArray, t.data.toList.length = t.size := fun t => Array.length_toList
          rw [e, e]; omega
        obtain ⟨e5, e6⟩ := List.append_inj e2 e4
        refine ⟨by rw [ga.txt ea (hk.trans h4), gb.txt eb h4], ?_, e6⟩
        exact ByteArray.ext (Array.ext' e5)
      · rw [if_neg h4, if_neg h4] at h
        simp only [List.cons_append, List.cons.injEq, true_and, List.append_assoc, List.nil_append] at h
        obtain ⟨e1, e2⟩ := split_at 59 _ _ _ _ (itoa_not _ ha 59 (by decide)) (itoa_not _ hb 59 (by decide)) h
        exact ⟨itoa_inj ha hb e1, by rw [ga.num ea (by rw [hk]; exact h4), gb.num eb h4], e2⟩
    · rw [eb] at h
      have ea := hnl.trans eb
      simp only [if_true, List.cons_append, List.cons.injEq, true_and, List.nil_append] at h
      have g1 := ga.nul ea
      have g2 := gb.nul eb
      exact ⟨by rw [g1.1, g2.1], by rw [g1.2, g2.2], h⟩
  refine ⟨?_, h3.2.2⟩
  obtain ⟨e1, e2, _⟩ := h3
  cases a; cases b
  simp only at hk hs hnl e1 e2
  simp only [hk, hs, hnl, e1, e2]
theorem keyV_ne (v : VR) : keyV v ≠ [] := by
  unfold keyV bodyK
  intro h
  have := List.append_eq_nil_iff.1 h
  have h2 := this.2
  split at h2
  · simp at h2
  · split at h2 <;> simp at h2
theorem keyL_inj : ∀ a b : List VR, (∀ v ∈ a, Good v ∧ In64 v.n ∧ In64 (v.t.size : Int)) → (∀ v ∈ b, Good v ∧ In64 v.n ∧ In64 (v.t.size : Int)) → keyL a = keyL b → a = b
  | [], [], _, _, _ => rfl
  | [], v :: l, _, _, h => by
    have := keyV_ne v
    simp only [keyL] at h
    exact absurd (List.append_eq_nil_iff.1 h.symm).1 this
  | v :: l, [], _, _, h => by
    have := keyV_ne v
    simp only [keyL] at h
    exact absurd (List.append_eq_nil_iff.1 h).1 this
  | v :: l, u :: m, ha, hb, h => by
    simp only [keyL] at h
    obtain ⟨g1, n1, t1⟩ := ha v (by simp)
    obtain ⟨g2, n2, t2⟩ := hb u (by simp)
    obtain ⟨e1, e2⟩ := keyV_inj g1 g2 n1 n2 t1 t2 h
    rw [e1, keyL_inj l m (fun w hw => ha w (by simp [hw])) (fun w hw => hb w (by simp [hw])) e2]
theorem keyL_app (a b : List VR) : keyL (a ++ b) = keyL a ++ keyL b := by
  induction a with
  | nil => rfl
  | cons v l ih => simp only [List.cons_append, keyL, ih, List.append_assoc]
/-- The hash of bytes. -/
def hashL (h : Int) : List UInt8 → Int
  | [] => h
  | c :: l => hashL (IntKind.u64.wrap (bits .xor .u64 h (c.toNat : Int) * 1099511628211)) l
end Go.Proofs.YtogdkhnakenbcaaGreatDoor
