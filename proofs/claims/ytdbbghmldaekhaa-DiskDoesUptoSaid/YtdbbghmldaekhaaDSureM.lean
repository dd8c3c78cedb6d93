/-
  Of disk, without the model: what was made sure stays, but where it was written or cut since.
-/
import Derived.Test.YtdbbghmldaekhaaDMath2
namespace Go.Proofs.Ytdbbghmldaekhaa
set_option linter.unusedVariables false

/-- A piece that touches no safe place of the first file. -/
def Safe (sf : List Bool) (least : Nat) (p : Pc) : Prop := p.file = 0 → (p.cut = true → least ≤ p.pos) ∧ (p.cut = false → ∀ j, p.pos ≤ j → j < p.pos + p.b.length → sf[j]? ≠ some true)
theorem sure_fold {sf : List Bool} {least : Nat} {was : List UInt8} : ∀ (ps : List Pc) (x : List UInt8), (∀ p ∈ ps, Safe sf least p) → least ≤ x.length → (∀ i, i < least → sf[i]? = some true → x.getD i 0 = was.getD i 0) → least ≤ (foldF 0 ps x).length ∧ ∀ i, i < least → sf[i]? = some true → (foldF 0 ps x).getD i 0 = was.getD i 0
  | [], x, _, hl, hg => ⟨hl, hg⟩
  | p :: ps, x, hs, hl, hg => by
    have ih := fun y => sure_fold (sf := sf) (least := least) (was := was) ps y fun q hq => hs q (List.mem_cons_of_mem _ hq)
    rw [foldF]
    by_cases hf : p.file = 0
    · rw [if_pos hf]
      obtain ⟨h1, h2⟩ := hs p (List.mem_cons_self ..) hf
      unfold Pc.ap
      cases hc : p.cut with
      | true =>
        have h3 := h1 hc
        rw [if_pos rfl]
        refine ih _ (by simp; omega) fun i hi ht => ?_
        rw [take_getD, if_pos (by omega)]
        exact hg i hi ht
      | false =>
        have h3 := h2 hc
        rw [if_neg (by simp)]
        refine ih _ (by rw [putAt_len]; omega) fun i hi ht => ?_
        rw [putAt_getD, if_neg fun h => h3 i h.1 h.2 ht]
        exact hg i hi ht
    · rw [if_neg hf]
      exact ih x hl hg
theorem kept_mem {ks : List Bool} {ps : List Pc} {p : Pc} (h : p ∈ kept ks ps) : p ∈ ps := by
  induction ps generalizing ks with
  | nil => cases ks <;> simp [kept] at h
  | cons q ps ih =>
    cases ks with
    | nil => simp [kept] at h
    | cons k ks =>
      cases k
      · simp [kept] at h
        exact List.mem_cons_of_mem _ (ih h)
      · simp [kept] at h
        rcases h with rfl | h
        · exact List.mem_cons_self ..
        · exact List.mem_cons_of_mem _ (ih h)
theorem parts_range (f : Nat) : ∀ (n k : Nat) (b : List UInt8), b.length ≤ n → ∀ p ∈ parts f k b, k ≤ p.pos ∧ p.pos + p.b.length ≤ k + b.length := by
  intro n
  induction n with
  | zero =>
    intro k b h p hp
    have : b = [] := List.length_eq_zero_iff.1 (by omega)
    subst this
    simp [parts_nil] at hp
  | succ n ih =>
    intro k b h p hp
    by_cases h0 : 0 < b.length
    · have hm : k % 512 < 512 := Nat.mod_lt _ (by decide)
      rw [parts_step f k b h0] at hp
      rcases List.mem_cons.1 hp with rfl | hp
      · simp only [List.length_take]
        omega
      · have := ih _ _ (by simp; omega) p hp
        simp at this
        omega
    · have : b = [] := List.length_eq_zero_iff.1 (by omega)
      subst this
      simp [parts_nil] at hp
theorem Safe.mono {sf sf' : List Bool} {least least' : Nat} {p : Pc} (h : Safe sf least p) (hl : least' ≤ least) (hs : ∀ j : Nat, sf'[j]? = some true → sf[j]? = some true) : Safe sf' least' p := fun hf =>
  ⟨fun hc => Nat.le_trans hl ((h hf).1 hc), fun hc j h1 h2 h3 => (h hf).2 hc j h1 h2 (hs j h3)⟩
/-- The places from k on, n of them, are safe no more. -/
def unsafeAt (k : Nat) : Nat → List Bool → List Bool
  | 0, sf => sf
  | n + 1, sf => (unsafeAt k n sf).set (k + n) false
theorem unsafe_len (k n : Nat) (sf : List Bool) : (unsafeAt k n sf).length = sf.length := by
  induction n with
  | zero => rfl
  | succ n ih => simp [unsafeAt, ih]
theorem unsafe_get (k n : Nat) (sf : List Bool) (j : Nat) : (unsafeAt k n sf)[j]? = some true ↔ sf[j]? = some true ∧ ¬ (k ≤ j ∧ j < k + n) := by
  induction n with
  | zero => simp [unsafeAt] <;> omega
  | succ n ih =>
    rw [unsafeAt, List.getElem?_set]
    split
    · next h =>
      subst h
      split
      · simp <;> omega
      · next h2 =>
        rw [unsafe_len] at h2
        constructor
        · intro h3; cases h3
        · rintro ⟨h3, h4⟩
          have := (List.getElem?_eq_some_iff.1 h3).1
          omega
    · next h =>
      rw [ih]
      constructor
      · rintro ⟨h1, h2⟩
        exact ⟨h1, by omega⟩
      · rintro ⟨h1, h2⟩
        exact ⟨h1, by omega⟩
theorem unsafe_set_far (k n : Nat) (sf : List Bool) (h : sf.length ≤ k + n) : unsafeAt k (n + 1) sf = unsafeAt k n sf := by
  rw [unsafeAt, List.set_eq_of_length_le (by rw [unsafe_len]; exact h)]
/-- A state of the disk while what is sure is looked at. -/
structure Looks (s : St) (was : List UInt8) (sf : List Bool) (least : Nat) : Prop where
  sure : s.sure 0 = was
  pcs : ∀ p ∈ s.pcs, Safe sf least p
  fuse : s.fuse = 0
  down : s.down = false
  len : sf.length = was.length
  least : least ≤ was.length
theorem Looks.write {s : St} {was : List UInt8} {sf : List Bool} {least : Nat} (h : Looks s was sf least) (f k : Int) (b : List UInt8) :
    ((s.write f k b).2 = 0 → f = 0 → 0 ≤ k ∧ Looks (s.write f k b).1 was (unsafeAt k.toNat b.length sf) least ∧ (0 < b.length → k.toNat + b.length ≤ 4194304)) ∧ (¬ ((s.write f k b).2 = 0 ∧ f = 0) → Looks (s.write f k b).1 was sf least) ∧ (s.write f k b).1.pcs.length ≤ s.pcs.length + b.length := by
  unfold St.write
  by_cases hm : s.may f = 0
  · rw [if_neg (by omega)]
    by_cases hk : k < 0
    · rw [if_pos hk]
      exact ⟨(fun h0 => by cases h0), fun _ => h, Nat.le_add_right _ _⟩
    · rw [if_neg hk]
      by_cases hfull : 0 < b.length ∧ (4194304 : Int) - b.length < k
      · rw [if_pos hfull]
        exact ⟨(fun h0 => by cases h0), fun _ => h, Nat.le_add_right _ _⟩
      · rw [if_neg hfull]
        have hcnt : (s.add (parts f.toNat k.toNat b)).count = ({ s with pcs := s.pcs ++ parts f.toNat k.toNat b, calls := next64 s.calls, fuse := s.fuse - 1 }, 0) := by
          unfold St.count St.add
          simp only
          rw [if_neg (by rw [h.fuse]; omega)]
        rw [hcnt]
        have hle := parts_le f.toNat k.toNat b
        refine ⟨fun _ hf => ⟨by omega, ⟨h.sure, fun p hp => ?_, by simp only; rw [h.fuse], h.down, by rw [unsafe_len]; exact h.len, h.least⟩, fun h0 => by omega⟩, fun hn => ⟨h.sure, fun p hp => ?_, by simp only; rw [h.fuse], h.down, h.len, h.least⟩, by simp only [List.length_append]; omega⟩
        · rcases List.mem_append.1 hp with hp | hp
          · exact (h.pcs p hp).mono (Nat.le_refl _) fun j hj => ((unsafe_get _ _ _ _).1 hj).1
          · intro _
            obtain ⟨h1, h2⟩ := parts_file _ _ _ p hp
            obtain ⟨h3, h4⟩ := parts_range _ b.length _ _ (Nat.le_refl _) p hp
            exact ⟨(fun hc => by rw [h2] at hc; cases hc), fun _ j hj1 hj2 hj3 => ((unsafe_get _ _ _ _).1 hj3).2 (by omega)⟩
        · rcases List.mem_append.1 hp with hp | hp
          · exact h.pcs p hp
          · intro hp0
            obtain ⟨h1, h2⟩ := parts_file _ _ _ p hp
            have := (may_file hm).2
            exact absurd ⟨rfl, by omega⟩ hn
  · rw [if_pos hm]
    exact ⟨fun h0 => absurd h0 hm, fun _ => h, Nat.le_add_right _ _⟩
theorem Looks.truncate {s : St} {was : List UInt8} {sf : List Bool} {least : Nat} (h : Looks s was sf least) (f k : Int) :
    ((s.truncate f k).2 = 0 → f = 0 → 0 ≤ k ∧ Looks (s.truncate f k).1 was sf (min least k.toNat)) ∧ (¬ ((s.truncate f k).2 = 0 ∧ f = 0) → Looks (s.truncate f k).1 was sf least) ∧ (s.truncate f k).1.pcs.length ≤ s.pcs.length + 1 := by
  unfold St.truncate
  by_cases hm : s.may f = 0
  · rw [if_neg (by omega)]
    by_cases hk : k < 0 ∨ ((s.now f.toNat).length : Int) < k
    · rw [if_pos hk]
      exact ⟨(fun h0 => by cases h0), fun _ => h, Nat.le_add_right _ _⟩
    · rw [if_neg hk]
      have hcnt : (s.add [⟨f.toNat, true, k.toNat, []⟩]).count = ({ s with pcs := s.pcs ++ [⟨f.toNat, true, k.toNat, []⟩], calls := next64 s.calls, fuse := s.fuse - 1 }, 0) := by
        unfold St.count St.add
        simp only
        rw [if_neg (by rw [h.fuse]; omega)]
      rw [hcnt]
      refine ⟨fun _ hf => ⟨by omega, ⟨h.sure, fun p hp => ?_, by simp only; rw [h.fuse], h.down, h.len, by have := h.least; omega⟩⟩, fun hn => ⟨h.sure, fun p hp => ?_, by simp only; rw [h.fuse], h.down, h.len, h.least⟩, by simp⟩
      · rcases List.mem_append.1 hp with hp | hp
        · exact (h.pcs p hp).mono (Nat.min_le_left _ _) fun j hj => hj
        · simp at hp
          subst hp
          exact fun _ => ⟨fun _ => Nat.min_le_right _ _, (fun hc => by cases hc)⟩
      · rcases List.mem_append.1 hp with hp | hp
        · exact h.pcs p hp
        · simp at hp
          subst hp
          intro hp0
          have := (may_file hm).2
          have hp0' : f.toNat = 0 := hp0
          exact absurd ⟨rfl, by omega⟩ hn
  · rw [if_pos hm]
    exact ⟨fun h0 => absurd h0 hm, fun _ => h, Nat.le_add_right _ _⟩
theorem Looks.end_ {s : St} {was : List UInt8} {sf : List Bool} {least : Nat} (h : Looks s was sf least) (ks : List Bool) : least ≤ ((s.crash ks).restart.now 0).length ∧ ∀ i, i < least → sf[i]? = some true → ((s.crash ks).restart.now 0).getD i 0 = was.getD i 0 := by
  have := sure_fold (sf := sf) (least := least) (was := was) (kept ks s.pcs) was (fun p hp => h.pcs p (kept_mem hp)) h.least (fun _ _ _ => rfl)
  rw [← h.sure] at this
  show least ≤ (foldF 0 [] (foldF 0 (kept ks s.pcs) (s.sure 0))).length ∧ _
  rw [← h.sure]
  exact this
end Go.Proofs.Ytdbbghmldaekhaa
