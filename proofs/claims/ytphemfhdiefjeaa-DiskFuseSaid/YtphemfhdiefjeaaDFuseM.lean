/-
  Two disks side by side, the one with a fuse: what their calls answer.
-/
import Derived.Test.YtphemfhdiefjeaaDFuse
import Derived.Test.YtphemfhdiefjeaaDMath2
namespace Go.Proofs.Ytphemfhdiefjeaa
open Go.ChangeShapes Go.WideShapes Go.ChangeAt Go.RowKit
set_option linter.unusedVariables false

/-- The disk s is t with a fuse that burns at the r-th call. -/
structure Twin (s t : St) (k r : Nat) (ks : List Bool) : Prop where
  eq : s = { t with fuse := r, keep := ks }
  tf : t.fuse = 0
  up : t.down = false
  pos : 1 ≤ r
  le : r ≤ k
  calls : t.calls = (k : Int) - r
  pcs : t.pcs.length ≤ (k - r) * 4194304
  k6 : k ≤ 6
theorem Twin.new {k : Nat} (ks : List Bool) (h1 : 1 ≤ k) (h6 : k ≤ 6) : Twin { St.new with fuse := k, keep := ks } St.new k k ks := ⟨rfl, rfl, rfl, h1, Nat.le_refl _, by show (0 : Int) = _; omega, by simp [St.new], h6⟩
theorem Twin.down {s t : St} {k r : Nat} {ks : List Bool} (h : Twin s t k r ks) : s.down = false := by rw [h.eq]; exact h.up
theorem Twin.less {s t : St} {k r : Nat} {ks : List Bool} (h : Twin s t k r ks) : s.calls < (k : Int) := by
  rw [h.eq]
  show t.calls < _
  have := h.calls
  have := h.pos
  omega
theorem Twin.small {s t : St} {k r : Nat} {ks : List Bool} (h : Twin s t k r ks) : t.pcs.length ≤ 25165824 ∧ s.pcs.length ≤ 25165824 := by
  have h1 := h.pcs
  have h2 := h.k6
  have h3 : (k - r) * 4194304 ≤ 6 * 4194304 := Nat.mul_le_mul_right _ (by omega)
  refine ⟨by omega, ?_⟩
  rw [h.eq]
  show t.pcs.length ≤ _
  omega
/-- Two answers that belong together. -/
def Met (x y : St × Int) (k : Nat) (ks : List Bool) : Prop :=
  (x.2 ≠ 6 ∧ x.2 = y.2 ∧ ∃ r, Twin x.1 y.1 k r ks) ∨ (x.2 = 6 ∧ y.2 = 0 ∧ x.1.calls = k ∧ y.1.down = false ∧ y.1.pcs.length ≤ 4000000000000 ∧ ∀ i, x.1.now i = (y.1.crash ks).now i)
theorem next_small {c : Int} (h : c ≤ 6) : next64 c = c + 1 := by unfold next64; rw [if_neg (by omega)]
theorem crash_now (s : St) (ks : List Bool) (i : Nat) : (s.crash ks).now i = foldF i (kept ks s.pcs) (s.sure i) := rfl
theorem count_met {t : St} {k r : Nat} {ks : List Bool} (tf : t.fuse = 0) (up : t.down = false) (pos : 1 ≤ r) (le : r ≤ k) (calls : t.calls = (k : Int) - r) (hp : t.pcs.length ≤ (k - r + 1) * 4194304) (k6 : k ≤ 6) :
    Met ({ t with fuse := r, keep := ks } : St).count t.count k ks := by
  have h3 : (k - r + 1) * 4194304 ≤ 7 * 4194304 := Nat.mul_le_mul_right _ (by omega)
  have hn : next64 t.calls = t.calls + 1 := next_small (by omega)
  have ht : t.count = ({ t with calls := t.calls + 1, fuse := 0 }, 0) := by
    unfold St.count
    rw [if_neg (by omega), hn, tf]
  rw [ht]
  by_cases hr : r = 1
  · subst hr
    right
    have hs : ({ t with fuse := 1, keep := ks } : St).count = (({ t with fuse := 1, keep := ks, calls := t.calls + 1 } : St).crash ks, 6) := by
      unfold St.count
      rw [if_pos rfl]
      simp only [hn]
    rw [hs]
    refine ⟨rfl, rfl, ?_, up, ?_, fun i => rfl⟩
    · show t.calls + 1 = _
      omega
    · show t.pcs.length ≤ _
      omega
  · left
    have hs : ({ t with fuse := r, keep := ks } : St).count = ({ t with fuse := r - 1, keep := ks, calls := t.calls + 1 }, 0) := by
      unfold St.count
      rw [if_neg hr]
      simp only [hn]
    rw [hs]
    refine ⟨by simp, rfl, r - 1, ⟨rfl, rfl, up, by omega, by omega, ?_, ?_, k6⟩⟩
    · show t.calls + 1 = _
      omega
    · show t.pcs.length ≤ _
      have : k - (r - 1) = k - r + 1 := by omega
      rw [this]
      exact hp
theorem may_up {s : St} {f : Int} (h : s.down = false) : s.may f = 0 ∨ s.may f = 1 := by
  unfold St.may
  rw [h]
  simp only [Bool.false_eq_true, if_false]
  split <;> simp
theorem Twin.write {s t : St} {k r : Nat} {ks : List Bool} (h : Twin s t k r ks) (f n : Int) (b : List UInt8) : Met (s.write f n b) (t.write f n b) k ks := by
  obtain ⟨rfl, tf, up, pos, le, calls, hp, k6⟩ := h
  have hT : Twin { t with fuse := r, keep := ks } t k r ks := ⟨rfl, tf, up, pos, le, calls, hp, k6⟩
  unfold St.write
  have hm : ({ t with fuse := r, keep := ks } : St).may f = t.may f := rfl
  rw [hm]
  split
  · next h0 => exact .inl ⟨by show t.may f ≠ 6; rcases may_up (f := f) up with e | e <;> omega, rfl, r, hT⟩
  · split
    · exact .inl ⟨show (1 : Int) ≠ 6 by decide, rfl, r, hT⟩
    · split
      · exact .inl ⟨show (5 : Int) ≠ 6 by decide, rfl, r, hT⟩
      · next h0 h1 h2 =>
        refine count_met (t := t.add (parts f.toNat n.toNat b)) tf up pos le calls ?_ k6
        show (t.pcs ++ _).length ≤ _
        rw [List.length_append]
        have := parts_le f.toNat n.toNat b
        have hb : b.length ≤ 4194304 := by omega
        have h9 : (k - r + 1) * 4194304 = (k - r) * 4194304 + 4194304 := by rw [Nat.add_mul]
        rw [h9]
        exact Nat.add_le_add hp (Nat.le_trans this hb)
theorem Twin.truncate {s t : St} {k r : Nat} {ks : List Bool} (h : Twin s t k r ks) (f n : Int) : Met (s.truncate f n) (t.truncate f n) k ks := by
  obtain ⟨rfl, tf, up, pos, le, calls, hp, k6⟩ := h
  have hT : Twin { t with fuse := r, keep := ks } t k r ks := ⟨rfl, tf, up, pos, le, calls, hp, k6⟩
  unfold St.truncate
  have hm : ({ t with fuse := r, keep := ks } : St).may f = t.may f := rfl
  have hw : ({ t with fuse := r, keep := ks } : St).now f.toNat = t.now f.toNat := rfl
  rw [hm, hw]
  split
  · next h0 => exact .inl ⟨by show t.may f ≠ 6; rcases may_up (f := f) up with e | e <;> omega, rfl, r, hT⟩
  · split
    · exact .inl ⟨show (1 : Int) ≠ 6 by decide, rfl, r, hT⟩
    · refine count_met (t := t.add [⟨f.toNat, true, n.toNat, []⟩]) tf up pos le calls ?_ k6
      show (t.pcs ++ _).length ≤ _
      rw [List.length_append, Nat.add_mul]
      simp only [List.length_cons, List.length_nil]
      omega
/-- Sync: the disk without a fuse has not been asked yet. -/
theorem Twin.sync {s t : St} {k r : Nat} {ks : List Bool} (h : Twin s t k r ks) (f : Int) :
    ((s.sync f).2 ≠ 6 ∧ (s.sync f).2 = (t.sync f).2 ∧ ∃ r, Twin (s.sync f).1 (t.sync f).1 k r ks) ∨ ((s.sync f).2 = 6 ∧ (s.sync f).1.calls = k ∧ ∀ i, (s.sync f).1.now i = (t.crash ks).now i) := by
  obtain ⟨rfl, tf, up, pos, le, calls, hp, k6⟩ := h
  have hT : Twin { t with fuse := r, keep := ks } t k r ks := ⟨rfl, tf, up, pos, le, calls, hp, k6⟩
  unfold St.sync
  have hm : ({ t with fuse := r, keep := ks } : St).may f = t.may f := rfl
  rw [hm]
  split
  · next h0 => exact .inl ⟨by show t.may f ≠ 6; rcases may_up (f := f) up with e | e <;> omega, rfl, r, hT⟩
  · by_cases hr : r = 1
    · subst hr
      right
      rw [if_pos rfl]
      have hn : next64 t.calls = t.calls + 1 := next_small (by omega)
      have hs : ({ t with fuse := 1, keep := ks } : St).count = (({ t with fuse := 1, keep := ks, calls := t.calls + 1 } : St).crash ks, 6) := by
        unfold St.count
        rw [if_pos rfl]
        simp only [hn]
      rw [hs]
      refine ⟨rfl, ?_, fun i => rfl⟩
      show t.calls + 1 = _
      omega
    · rw [if_neg hr, if_neg (by omega)]
      have hle : (others f.toNat t.pcs).length ≤ t.pcs.length := List.length_filter_le _ _
      have := count_met (t := t.settle f.toNat) (ks := ks) tf up pos le calls (by
        show (others f.toNat t.pcs).length ≤ _
        rw [Nat.add_mul]
        omega) k6
      rcases this with h | ⟨h, _⟩
      · exact .inl h
      · exfalso
        have : (({ (t.settle f.toNat) with fuse := r, keep := ks } : St).count).2 = 0 := by unfold St.count; rw [if_neg hr]
        exact absurd (this.symm.trans h) (by decide)

/-- Two disks of the program's that share nothing which either may write; what lies in X is neither's. -/
def Pair (w0 w : World) (d c : Nat) (s t : St) (X : Nat → Prop) : Prop := ∃ v pc qs kp v' pc' qs' kp', DSt w d v pc qs kp s ∧ DSt w c v' pc' qs' kp' t ∧ (∀ k, DF d v pc k → w0.heap.size ≤ k ∧ ¬ X k ∧ ¬ DR c v' pc' qs' kp' k) ∧ (∀ k, DF c v' pc' k → w0.heap.size ≤ k ∧ ¬ X k ∧ ¬ DR d v pc qs kp k) ∧ (∀ k, X k → k < w.heap.size) ∧ Below w0.heap.size w0 w
theorem Pair.swap {w0 w : World} {d c : Nat} {s t : St} {X : Nat → Prop} (h : Pair w0 w d c s t X) : Pair w0 w c d t s X := by
  obtain ⟨v, pc, qs, kp, v', pc', qs', kp', h1, h2, h3, h4, h5, h6⟩ := h
  exact ⟨v', pc', qs', kp', v, pc, qs, kp, h2, h1, h4, h3, h5, h6⟩
theorem Pair.bel {w0 w : World} {d c : Nat} {s t : St} {X : Nat → Prop} (h : Pair w0 w d c s t X) : Below w0.heap.size w0 w := by
  obtain ⟨_, _, _, _, _, _, _, _, _, _, _, _, _, h6⟩ := h
  exact h6
theorem Pair.disks {w0 w : World} {d c : Nat} {s t : St} {X : Nat → Prop} (h : Pair w0 w d c s t X) : ∃ F R F' R', Disk w d F R s ∧ Disk w c F' R' t := by
  obtain ⟨v, pc, qs, kp, v', pc', qs', kp', h1, h2, _⟩ := h
  exact ⟨_, _, _, _, h1.disk, h2.disk⟩
theorem Pair.below {w0 w w' : World} {d c : Nat} {s t : St} {X : Nat → Prop} (h : Pair w0 w d c s t X) (hb : Below w.heap.size w w') : Pair w0 w' d c s t X := by
  obtain ⟨v, pc, qs, kp, v', pc', qs', kp', h1, h2, h3, h4, h5, h6⟩ := h
  exact ⟨v, pc, qs, kp, v', pc', qs', kp', h1.below hb, h2.below hb, h3, h4, fun k hk => Nat.lt_of_lt_of_le (h5 k hk) hb.size, bt h6 hb⟩
theorem Pair.with {w0 w w' : World} {d c : Nat} {s t : St} {X : Nat → Prop} (h : Pair w0 w d c s t X) (hb : Below w.heap.size w w') : Pair w0 w' d c s t (fun k => w.heap.size ≤ k ∧ k < w'.heap.size) := by
  obtain ⟨v, pc, qs, kp, v', pc', qs', kp', h1, h2, h3, h4, h5, h6⟩ := h
  have l1 := h1.core.lt (Array.getElem?_eq_some_iff.1 h1.box).1
  have l2 := h2.core.lt (Array.getElem?_eq_some_iff.1 h2.box).1
  exact ⟨v, pc, qs, kp, v', pc', qs', kp', h1.below hb, h2.below hb, fun k hk => ⟨(h3 k hk).1, fun hx => by have := l1 k (.inl hk); omega, (h3 k hk).2.2⟩, fun k hk => ⟨(h4 k hk).1, fun hx => by have := l2 k (.inl hk); omega, (h4 k hk).2.2⟩, fun k hk => hk.2, bt h6 hb⟩
theorem pair_turned {w0 w w' : World} {d c : Nat} {t : St} {X : Nat → Prop} {v : Nat → Value} {pc : Value} {qs : List PV} {kp : Value} {v' : Nat → Value} {pc' : Value} {qs' : List PV} {kp' : Value} {x : St × Int} {e : Ending}
    (h2 : DSt w c v' pc' qs' kp' t) (h3 : ∀ k, DF d v pc k → w0.heap.size ≤ k ∧ ¬ X k ∧ ¬ DR c v' pc' qs' kp' k) (h4 : ∀ k, DF c v' pc' k → w0.heap.size ≤ k ∧ ¬ X k ∧ ¬ DR d v pc qs kp k) (h5 : ∀ k, X k → k < w.heap.size) (h6 : Below w0.heap.size w0 w)
    (h : Turned w d v pc qs kp x e w') : e = .returned (.int .i64 x.2) ∧ Pair w0 w' d c x.1 t X ∧ ∀ k, X k → w'.heap[k]? = w.heap[k]? := by
  obtain ⟨he, v1, pc1, qs1, kp1, hd, hr⟩ := h
  have l2 := h2.core.lt (Array.getElem?_eq_some_iff.1 h2.box).1
  refine ⟨he, ⟨v1, pc1, qs1, kp1, v', pc', qs', kp', hd, h2.same hr.turn.fr.size fun k hk hd' => hr.turn.fr.block k hk fun hf => (h3 k hf).2.2 hd', fun k hk => ?_, fun k hk => ?_, fun k hk => Nat.lt_of_lt_of_le (h5 k hk) hr.turn.fr.size, below_tr h6 (hr.turn.fr.below (fun k hk => (h3 k hk).1) h6.size)⟩, fun k hk => hr.turn.fr.block k (h5 k hk) fun hf => (h3 k hf).2.1 hk⟩
  · by_cases hkw : k < w.heap.size
    · exact h3 k (hr.turn.new k hkw hk)
    · exact ⟨by have := h6.size; omega, fun hx => hkw (h5 k hx), fun hd' => hkw (l2 k hd')⟩
  · obtain ⟨a1, a2, a3⟩ := h4 k hk
    exact ⟨a1, a2, fun hd' => a3 (hr.newR k (l2 k (.inl hk)) hd')⟩
theorem writeP {w0 w : World} {d c : Nat} {s t : St} {X : Nat → Prop} (f k : Int) (A : Option Addr) (m n : Nat) (b : List UInt8) (h : Pair w0 w d c s t X) (hA : BRd w A b) (hn : n = b.length) (hb : b.length ≤ 140737488355328) (hlim : s.pcs.length + 4194304 ≤ 8000000000000) :
    Calls Try.prog 19 #[.pointer (some ⟨d, 0, none⟩), .int .i64 f, .int .i64 k, .slice A n m] w fun e w' => e = .returned (.int .i64 (s.write f k b).2) ∧ Pair w0 w' d c (s.write f k b).1 t X ∧ ∀ k, X k → w'.heap[k]? = w.heap[k]? := by
  subst hn
  obtain ⟨v, pc, qs, kp, v', pc', qs', kp', h1, h2, h3, h4, h5, h6⟩ := h
  have hq : s.pcs.length = qs.length := by rw [h1.names, List.length_map]
  exact (write_any d f k A m b w v pc qs kp s h1 hA hb (by omega)).mono fun e w' h => pair_turned h2 h3 h4 h5 h6 h
theorem truncateP {w0 w : World} {d c : Nat} {s t : St} {X : Nat → Prop} (f k : Int) (h : Pair w0 w d c s t X) (hlim : s.pcs.length + 4194304 ≤ 8000000000000) :
    Calls Try.prog 22 #[.pointer (some ⟨d, 0, none⟩), .int .i64 f, .int .i64 k] w fun e w' => e = .returned (.int .i64 (s.truncate f k).2) ∧ Pair w0 w' d c (s.truncate f k).1 t X ∧ ∀ k, X k → w'.heap[k]? = w.heap[k]? := by
  obtain ⟨v, pc, qs, kp, v', pc', qs', kp', h1, h2, h3, h4, h5, h6⟩ := h
  have hq : s.pcs.length = qs.length := by rw [h1.names, List.length_map]
  exact (truncate_any d f k w v pc qs kp s h1 (by omega)).mono fun e w' h => pair_turned h2 h3 h4 h5 h6 h
theorem syncP {w0 w : World} {d c : Nat} {s t : St} {X : Nat → Prop} (f : Int) (h : Pair w0 w d c s t X) (hlim : s.pcs.length ≤ 7000000000000) :
    Calls Try.prog 20 #[.pointer (some ⟨d, 0, none⟩), .int .i64 f] w fun e w' => e = .returned (.int .i64 (s.sync f).2) ∧ Pair w0 w' d c (s.sync f).1 t X ∧ ∀ k, X k → w'.heap[k]? = w.heap[k]? := by
  obtain ⟨v, pc, qs, kp, v', pc', qs', kp', h1, h2, h3, h4, h5, h6⟩ := h
  have hq : s.pcs.length = qs.length := by rw [h1.names, List.length_map]
  exact (sync_any d f w v pc qs kp s h1 (by omega)).mono fun e w' h => pair_turned h2 h3 h4 h5 h6 h
theorem crashP {w0 w : World} {d c : Nat} {s t : St} {X : Nat → Prop} (A : Option Addr) (m n : Nat) (ks : List Bool) (h : Pair w0 w d c s t X) (hA : KRd w A ks) (hn : n = ks.length) (hAF : 0 < ks.length → ∀ a, A = some a → a.block < w0.heap.size) (hlim : s.pcs.length ≤ 8000000000000) :
    Calls Try.prog 23 #[.pointer (some ⟨d, 0, none⟩), .slice A n m] w fun e w' => e = .returned (.int .i64 (s.crashed ks).2) ∧ Pair w0 w' d c (s.crashed ks).1 t X ∧ ∀ k, X k → w'.heap[k]? = w.heap[k]? := by
  subst hn
  obtain ⟨v, pc, qs, kp, v', pc', qs', kp', h1, h2, h3, h4, h5, h6⟩ := h
  have hq : s.pcs.length = qs.length := by rw [h1.names, List.length_map]
  exact (crash_turned d A m ks w v pc qs kp s h1 hA (fun h0 a ha hk => by have h1 := (h3 _ hk).1; have h2 := hAF h0 a ha; omega) (by omega)).mono fun e w' h => pair_turned h2 h3 h4 h5 h6 h
theorem setFuseP {w0 w : World} {d c : Nat} {s t : St} {X : Nat → Prop} (n : Int) (A : Option Addr) (m l : Nat) (ks : List Bool) (h : Pair w0 w d c s t X) (hn : n ≤ 9223372036854775807) (hA : KRd w A ks) (hA0 : A = none → ks.length = 0) (hl0 : l = ks.length) (hAF : 0 < ks.length → ∀ a, A = some a → a.block < w0.heap.size) (hl : ks.length ≤ 140737488355328) :
    Calls Try.prog 26 #[.pointer (some ⟨d, 0, none⟩), .int .i64 n, .slice A l m] w fun e w' => e = .returned (.int .i64 (s.lit n ks).2) ∧ Pair w0 w' d c (s.lit n ks).1 t X ∧ ∀ k, X k → w'.heap[k]? = w.heap[k]? := by
  subst hl0
  obtain ⟨v, pc, qs, kp, v', pc', qs', kp', h1, h2, h3, h4, h5, h6⟩ := h
  exact (setFuse_any d n A m ks w v pc qs kp s h1 hn hA hA0 (fun h0 a ha e => by have h1 := (h3 d (.inl rfl)).1; have h2 := hAF h0 a ha; omega) hl).mono fun e w' h => pair_turned h2 h3 h4 h5 h6 h
theorem new_pair (w : World) : Calls Try.prog 10 #[] w fun e w' => ∃ g, e = .returned (.pointer (some ⟨g, 0, none⟩)) ∧ Below w.heap.size w w' ∧ ∀ (w0 w1 : World), Below w0.heap.size w0 w → Below w'.heap.size w' w1 → Calls Try.prog 10 #[] w1 fun e w2 => ∃ c, e = .returned (.pointer (some ⟨c, 0, none⟩)) ∧ Below w1.heap.size w1 w2 ∧ Pair w0 w2 g c St.new St.new (fun _ => False) := by
  refine (new_st w).mono ?_
  rintro e w' ⟨g, rfl, hb, v, pc, qs, kp, hd, hn⟩
  refine ⟨g, rfl, hb, fun w0 w1 h0 h1 => ?_⟩
  refine (new_st w1).mono ?_
  rintro e w2 ⟨c, rfl, hb2, v', pc', qs', kp', hd', hn'⟩
  have l1 := hd.core.lt (Array.getElem?_eq_some_iff.1 hd.box).1
  refine ⟨c, rfl, hb2, v, pc, qs, kp, v', pc', qs', kp', (hd.below h1).below hb2, hd', fun k hk => ⟨by have := hn k (.inl hk); have := h0.size; omega, id, fun hx => ?_⟩, fun k hk => ⟨by have := hn' k (.inl hk); have := h0.size; have := hb.size; have := h1.size; omega, id, fun hx => ?_⟩, fun _ h => h.elim, bt (bt (bt h0 hb) h1) hb2⟩
  · have h2 := hn' k hx
    have h3 := l1 k (.inl hk)
    have := h1.size
    omega
  · have h2 := hn' k (.inl hk)
    have h3 := l1 k hx
    have := h1.size
    omega
theorem sameP {w0 w : World} {d c : Nat} {s t : St} {X : Nat → Prop} (h : Pair w0 w d c s t X) (h0 : ∀ i, s.now i = t.now i) : Calls Try.prog 17 #[.pointer (some ⟨c, 0, none⟩), .pointer (some ⟨d, 0, none⟩)] w fun e w' => e = .returned (.bool true) ∧ Below w.heap.size w w' := by
  obtain ⟨F, R, F', R', h1, h2⟩ := h.disks
  refine (same_any c d h2 h1).mono ?_
  rintro e w' ⟨rfl, hb⟩
  refine ⟨?_, hb⟩
  rw [h0 0, h0 1]
  simp
end Go.Proofs.Ytphemfhdiefjeaa
