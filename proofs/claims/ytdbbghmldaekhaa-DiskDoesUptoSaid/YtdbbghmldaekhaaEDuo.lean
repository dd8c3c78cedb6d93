/-
  The program's disk and the document's, side by side: each call of either.
-/
import Derived.Test.YtdbbghmldaekhaaESync
import Derived.Test.YtdbbghmldaekhaaDOwnLaw
import Derived.Test.YtdbbghmldaekhaaDFuse
namespace Go.Proofs.Ytdbbghmldaekhaa
open Go.ChangeShapes Go.WideShapes Go.ChangeAt Go.RowKit
set_option linter.unusedVariables false

/-- A disk of the program's and one of the document's; neither has anything of Z. -/
def Duo (w0 w : World) (gd gr : Nat) (s t : St) (Z : Nat → Prop) : Prop := ∃ pc R, AtX w0 w gd s (fun k => RX gr pc R k ∨ Z k) ∧ RDisk w w0.heap.size gr pc R t ∧ (∀ k, RX gr pc R k → ¬ Z k) ∧ ∀ k, Z k → k < w.heap.size
theorem Duo.bel {w0 w : World} {gd gr : Nat} {s t : St} {Z : Nat → Prop} (h : Duo w0 w gd gr s t Z) : Below w0.heap.size w0 w := by
  obtain ⟨_, _, h1, _⟩ := h
  exact h1.at.bel
theorem Duo.disk {w0 w : World} {gd gr : Nat} {s t : St} {Z : Nat → Prop} (h : Duo w0 w gd gr s t Z) : ∃ F R, Disk w gd F R s := by
  obtain ⟨_, _, h1, _⟩ := h
  exact h1.at.disk
theorem Duo.ref {w0 w : World} {gd gr : Nat} {s t : St} {Z : Nat → Prop} (h : Duo w0 w gd gr s t Z) : ∃ a k pc qs ka kc ks R, RSt w w0.heap.size gr a k pc qs ka kc ks R t := by
  obtain ⟨pc, R, _, ⟨a, k, qs, ka, kc, ks, h⟩, _⟩ := h
  exact ⟨a, k, pc, qs, ka, kc, ks, R, h⟩
theorem Duo.below {w0 w w' : World} {gd gr : Nat} {s t : St} {Z : Nat → Prop} (h : Duo w0 w gd gr s t Z) (hb : Below w.heap.size w w') : Duo w0 w' gd gr s t Z := by
  obtain ⟨pc, R, h1, ⟨a, k, qs, ka, kc, ks, h2⟩, h3, h4⟩ := h
  exact ⟨pc, R, h1.fr (G := fun _ => False) (.of_below hb) fun _ _ h => h.elim, ⟨a, k, qs, ka, kc, ks, h2.below hb⟩, h3, fun k hk => Nat.lt_of_lt_of_le (h4 k hk) hb.size⟩
theorem Duo.sub {w0 w : World} {gd gr : Nat} {s t : St} {Z Z' : Nat → Prop} (h : Duo w0 w gd gr s t Z) (hz : ∀ k, Z' k → Z k) : Duo w0 w gd gr s t Z' := by
  obtain ⟨pc, R, ⟨v, pcd, qs, kp, i1, i2, i3, i4⟩, h2, h3, h4⟩ := h
  exact ⟨pc, R, ⟨v, pcd, qs, kp, i1, i2, i3, fun k hk => i4 k (hk.imp id (hz k))⟩, h2, fun k hk h => h3 k hk (hz k h), fun k hk => h4 k (hz k hk)⟩
/-- New memory, and that neither has it. -/
theorem Duo.box {w0 w w' : World} {gd gr : Nat} {s t : St} {Z Y : Nat → Prop} (h : Duo w0 w gd gr s t Z) (hb : Below w.heap.size w w') (hY : ∀ k, Y k → w.heap.size ≤ k ∧ k < w'.heap.size) : Duo w0 w' gd gr s t (fun k => Y k ∨ Z k) := by
  have h' := h.below hb
  obtain ⟨pc, R, ⟨v, pcd, qs, kp, i1, i2, i3, i4⟩, ⟨a, k, qs', ka, kc, ks, h2⟩, h3, h4⟩ := h
  have l1 := i1.core.lt (Array.getElem?_eq_some_iff.1 i1.box).1
  have l2 := h2.x_lt
  refine ⟨pc, R, ⟨v, pcd, qs, kp, i1.below hb, i2, bt i3 hb, fun k hk hd => ?_⟩, ⟨a, k, qs', ka, kc, ks, h2.below hb⟩, fun k hk hd => ?_, fun k hd => ?_⟩
  · rcases hk with hk | hk | hk
    · exact i4 k (.inl hk) hd
    · have := (hY k hk).1; have := l1 k hd; omega
    · exact i4 k (.inr hk) hd
  · rcases hd with hd | hd
    · have := (hY k hd).1; have := l2 k hk; omega
    · exact h3 k hk hd
  · rcases hd with hd | hd
    · exact (hY k hd).2
    · exact Nat.lt_of_lt_of_le (h4 k hd) hb.size
/-- What was there is there; of Z nothing has changed. -/
def Kept (Z : Nat → Prop) (w w' : World) : Prop := w.heap.size ≤ w'.heap.size ∧ ∀ k, Z k → w'.heap[k]? = w.heap[k]?
theorem Kept.trans {Z : Nat → Prop} {w w1 w2 : World} (h : Kept Z w w1) (k : Kept Z w1 w2) : Kept Z w w2 := ⟨Nat.le_trans h.1 k.1, fun j hj => (k.2 j hj).trans (h.2 j hj)⟩
theorem Kept.sub {Z Z' : Nat → Prop} {w w' : World} (h : Kept Z w w') (hz : ∀ k, Z' k → Z k) : Kept Z' w w' := ⟨h.1, fun k hk => h.2 k (hz k hk)⟩
theorem Kept.below {Z : Nat → Prop} {w w' : World} (h : Below w.heap.size w w') (hz : ∀ k, Z k → k < w.heap.size) : Kept Z w w' := ⟨h.size, fun k hk => h.block k (hz k hk)⟩
theorem duo_turned {w0 w w' : World} {gd gr : Nat} {t : St} {Z : Nat → Prop} {v : Nat → Value} {pcd : Value} {qs : List PV} {kp : Value} {x : St × Int} {e : Ending} {pc : Value} {R : Nat → Prop} (hF : ∀ k, DF gd v pcd k → w0.heap.size ≤ k) (h0 : Below w0.heap.size w0 w) (hX : ∀ k, (RX gr pc R k ∨ Z k) → ¬ DR gd v pcd qs kp k)
    (hr : RDisk w w0.heap.size gr pc R t) (hz : ∀ k, RX gr pc R k → ¬ Z k) (hl : ∀ k, Z k → k < w.heap.size) (hT : Turned w gd v pcd qs kp x e w') : e = .returned (.int .i64 x.2) ∧ Duo w0 w' gd gr x.1 t Z ∧ Kept Z w w' := by
  obtain ⟨h1, ⟨v', pc', qs', kp', i1, i2, i3, i4⟩, h3⟩ := AtX.turned hF h0 hX hT
  obtain ⟨a, k, rs, ka, kc, ks, hr⟩ := hr
  have l2 := hr.x_lt
  refine ⟨h1, ⟨pc, R, ⟨v', pc', qs', kp', i1, i2, i3, fun k hk => i4 k ⟨hk, ?_⟩⟩, ⟨a, k, rs, ka, kc, ks, hr.fr h3 fun j hj hx => hX j (.inl hx) (.inl hj)⟩, hz, fun k hk => Nat.lt_of_lt_of_le (hl k hk) h3.size⟩, h3.size, fun k hk => h3.block k (hl k hk) fun hf => hX k (.inr hk) (.inl hf)⟩
  exact hk.elim (l2 k) (hl k)
theorem duo_posted {w0 w w' : World} {gd gr : Nat} {s t : St} {Z : Nat → Prop} {x : St × Int} {e : Ending} {pc : Value} {R : Nat → Prop} (hA : AtX w0 w gd s (fun k => RX gr pc R k ∨ Z k)) (hr : RDisk w w0.heap.size gr pc R t) (hz : ∀ k, RX gr pc R k → ¬ Z k) (hl : ∀ k, Z k → k < w.heap.size) (hT : RPost w0.heap.size gr pc R x w e w') :
    e = .returned (.int .i64 x.2) ∧ Duo w0 w' gd gr s x.1 Z ∧ Kept Z w w' := by
  obtain ⟨h1, pc', R', hr', ht⟩ := hT
  obtain ⟨v, pcd, qs, kp, i1, i2, i3, i4⟩ := hA
  obtain ⟨a, k, rs, ka, kc, ks, hr⟩ := hr
  have l1 := i1.core.lt (Array.getElem?_eq_some_iff.1 i1.box).1
  have hx : ∀ k, RF gr pc k → RX gr pc R k := fun k hk => hk.elim .inl fun h => .inr (.inl h)
  have hlo : ∀ k, RF gr pc k → w0.heap.size ≤ k := fun k hk => hk.elim (fun e => by rw [e]; exact hr.core.base) fun h => (hr.core.row.lt k h).1
  have hnew : ∀ k, k < w.heap.size → RX gr pc' R' k → RX gr pc R k := fun k hk hx => by
    rcases hx with e | e | e
    · exact .inl e
    · exact .inr (.inl (ht.newp k hk e))
    · exact .inr (.inr (ht.newR k hk e))
  refine ⟨h1, ⟨pc', R', ⟨v, pcd, qs, kp, i1.same ht.fr.size fun k hk hd => ht.fr.block k hk fun hg => i4 k (.inl (hx k hg)) hd, i2, below_tr i3 (ht.fr.below hlo i3.size), fun k hk hd => ?_⟩, hr', fun k hk hd => ?_, fun k hk => Nat.lt_of_lt_of_le (hl k hk) ht.fr.size⟩, ht.fr.size, fun k hk => ht.fr.block k (hl k hk) fun hf => hz k (hx k hf) hk⟩
  · have hkw := l1 k hd
    exact i4 k (hk.imp (hnew k hkw) id) hd
  · exact hz k (hnew k (hl k hd) hk) hd
theorem writeD {w0 w : World} {gd gr : Nat} {s t : St} {Z : Nat → Prop} (f k : Int) (A : Option Addr) (c n : Nat) (b : List UInt8) (h : Duo w0 w gd gr s t Z) (hA : BRd w A b) (hn : n = b.length) (hb : b.length ≤ 140737488355328) (hlim : s.pcs.length + 4194304 ≤ 1000000000000) :
    Calls Try.prog 12 #[.pointer (some ⟨gd, 0, none⟩), .int .i64 f, .int .i64 k, .slice A n c] w fun e w' => e = .returned (.int .i64 (s.write f k b).2) ∧ Duo w0 w' gd gr (s.write f k b).1 t Z ∧ Kept Z w w' := by
  obtain ⟨pc, R, ⟨v, pcd, qs, kp, i1, i2, i3, i4⟩, h2, h3, h4⟩ := h
  have hq : s.pcs.length = qs.length := by rw [i1.names, List.length_map]
  subst hn
  exact (write_any gd f k A c b w v pcd qs kp s i1 hA hb (by omega)).mono fun e w' h => duo_turned i2 i3 i4 h2 h3 h4 h
theorem writeR {w0 w : World} {gd gr : Nat} {s t : St} {Z : Nat → Prop} (f k : Int) (A : Option Addr) (c n : Nat) (b : List UInt8) (h : Duo w0 w gd gr s t Z) (hA : BRd w A b) (hn : n = b.length) (hb : b.length ≤ 140737488355328) (hAF : 0 < b.length → ∀ x, A = some x → x.block < w0.heap.size) (hlim : t.pcs.length + 4194304 ≤ 1000000000000) :
    Calls Try.prog 57 #[.pointer (some ⟨gr, 0, none⟩), .int .i64 f, .int .i64 k, .slice A n c] w fun e w' => e = .returned (.int .i64 (t.write f k b).2) ∧ Duo w0 w' gd gr s (t.write f k b).1 Z ∧ Kept Z w w' := by
  obtain ⟨pc, R, h1, ⟨a, kk, qs, ka, kc, ks, hr⟩, h3, h4⟩ := h
  have hq : t.pcs.length = qs.length := by rw [hr.names, List.length_map]
  have hlo : ∀ k, RF gr pc k → w0.heap.size ≤ k := fun k hk => hk.elim (fun e => by rw [e]; exact hr.core.base) fun h => (hr.core.row.lt k h).1
  exact (rwrite_any f k A c n b w _ gr a kk pc qs ka kc ks R t hr hn hA (fun h0 x hx hf => by have := hlo _ hf; have := hAF h0 x hx; omega) hb hlim).mono fun e w' h => duo_posted h1 ⟨a, kk, qs, ka, kc, ks, hr⟩ h3 h4 h
theorem truncateD {w0 w : World} {gd gr : Nat} {s t : St} {Z : Nat → Prop} (f k : Int) (h : Duo w0 w gd gr s t Z) (hlim : s.pcs.length + 4194304 ≤ 1000000000000) :
    Calls Try.prog 58 #[.pointer (some ⟨gd, 0, none⟩), .int .i64 f, .int .i64 k] w fun e w' => e = .returned (.int .i64 (s.truncate f k).2) ∧ Duo w0 w' gd gr (s.truncate f k).1 t Z ∧ Kept Z w w' := by
  obtain ⟨pc, R, ⟨v, pcd, qs, kp, i1, i2, i3, i4⟩, h2, h3, h4⟩ := h
  have hq : s.pcs.length = qs.length := by rw [i1.names, List.length_map]
  exact (truncate_any gd f k w v pcd qs kp s i1 (by omega)).mono fun e w' h => duo_turned i2 i3 i4 h2 h3 h4 h
theorem truncateR {w0 w : World} {gd gr : Nat} {s t : St} {Z : Nat → Prop} (f k : Int) (h : Duo w0 w gd gr s t Z) (hlim : t.pcs.length + 4194304 ≤ 1000000000000) :
    Calls Try.prog 59 #[.pointer (some ⟨gr, 0, none⟩), .int .i64 f, .int .i64 k] w fun e w' => e = .returned (.int .i64 (t.truncate f k).2) ∧ Duo w0 w' gd gr s (t.truncate f k).1 Z ∧ Kept Z w w' := by
  obtain ⟨pc, R, h1, ⟨a, kk, qs, ka, kc, ks, hr⟩, h3, h4⟩ := h
  have hq : t.pcs.length = qs.length := by rw [hr.names, List.length_map]
  have hlo : ∀ k, RF gr pc k → w0.heap.size ≤ k := fun k hk => hk.elim (fun e => by rw [e]; exact hr.core.base) fun h => (hr.core.row.lt k h).1
  exact (rtrunc_any f k w _ gr a kk pc qs ka kc ks R t hr hlim).mono fun e w' h => duo_posted h1 ⟨a, kk, qs, ka, kc, ks, hr⟩ h3 h4 h
theorem syncD {w0 w : World} {gd gr : Nat} {s t : St} {Z : Nat → Prop} (f : Int) (h : Duo w0 w gd gr s t Z) (hlim : s.pcs.length + 4194304 ≤ 1000000000000) :
    Calls Try.prog 14 #[.pointer (some ⟨gd, 0, none⟩), .int .i64 f] w fun e w' => e = .returned (.int .i64 (s.sync f).2) ∧ Duo w0 w' gd gr (s.sync f).1 t Z ∧ Kept Z w w' := by
  obtain ⟨pc, R, ⟨v, pcd, qs, kp, i1, i2, i3, i4⟩, h2, h3, h4⟩ := h
  have hq : s.pcs.length = qs.length := by rw [i1.names, List.length_map]
  exact (sync_any gd f w v pcd qs kp s i1 (by omega)).mono fun e w' h => duo_turned i2 i3 i4 h2 h3 h4 h
theorem syncR {w0 w : World} {gd gr : Nat} {s t : St} {Z : Nat → Prop} (f : Int) (h : Duo w0 w gd gr s t Z) (hlim : t.pcs.length + 4194304 ≤ 1000000000000) :
    Calls Try.prog 60 #[.pointer (some ⟨gr, 0, none⟩), .int .i64 f] w fun e w' => e = .returned (.int .i64 (t.sync f).2) ∧ Duo w0 w' gd gr s (t.sync f).1 Z ∧ Kept Z w w' := by
  obtain ⟨pc, R, h1, ⟨a, kk, qs, ka, kc, ks, hr⟩, h3, h4⟩ := h
  have hq : t.pcs.length = qs.length := by rw [hr.names, List.length_map]
  have hlo : ∀ k, RF gr pc k → w0.heap.size ≤ k := fun k hk => hk.elim (fun e => by rw [e]; exact hr.core.base) fun h => (hr.core.row.lt k h).1
  exact (rsync_any f w _ gr a kk pc qs ka kc ks R t hr hlim).mono fun e w' h => duo_posted h1 ⟨a, kk, qs, ka, kc, ks, hr⟩ h3 h4 h
theorem crashD {w0 w : World} {gd gr : Nat} {s t : St} {Z : Nat → Prop} (A : Option Addr) (c n : Nat) (l : List Bool) (h : Duo w0 w gd gr s t Z) (hA : KRd w A l) (hn : n = l.length) (hAF : 0 < l.length → ∀ x, A = some x → x.block < w0.heap.size) (hlim : s.pcs.length + 4194304 ≤ 1000000000000) :
    Calls Try.prog 16 #[.pointer (some ⟨gd, 0, none⟩), .slice A n c] w fun e w' => e = .returned (.int .i64 (s.crashed l).2) ∧ Duo w0 w' gd gr (s.crashed l).1 t Z ∧ Kept Z w w' := by
  obtain ⟨pc, R, ⟨v, pcd, qs, kp, i1, i2, i3, i4⟩, h2, h3, h4⟩ := h
  have hq : s.pcs.length = qs.length := by rw [i1.names, List.length_map]
  subst hn
  exact (crash_turned gd A c l w v pcd qs kp s i1 hA (fun h0 x hx hk => by have h1 := i2 _ hk; have h2 := hAF h0 x hx; omega) (by omega)).mono fun e w' h => duo_turned i2 i3 i4 h2 h3 h4 h
theorem crashR {w0 w : World} {gd gr : Nat} {s t : St} {Z : Nat → Prop} (A : Option Addr) (c n : Nat) (l : List Bool) (h : Duo w0 w gd gr s t Z) (hA : KRd w A l) (hn : n = l.length) (hAF : 0 < l.length → ∀ x, A = some x → x.block < w0.heap.size) (hlim : t.pcs.length + 4194304 ≤ 1000000000000) :
    Calls Try.prog 61 #[.pointer (some ⟨gr, 0, none⟩), .slice A n c] w fun e w' => e = .returned (.int .i64 (t.crashed l).2) ∧ Duo w0 w' gd gr s (t.crashed l).1 Z ∧ Kept Z w w' := by
  obtain ⟨pc, R, h1, ⟨a, kk, qs, ka, kc, ks, hr⟩, h3, h4⟩ := h
  have hq : t.pcs.length = qs.length := by rw [hr.names, List.length_map]
  have hlo : ∀ k, RF gr pc k → w0.heap.size ≤ k := fun k hk => hk.elim (fun e => by rw [e]; exact hr.core.base) fun h => (hr.core.row.lt k h).1
  exact (rcrash_any A c n l w _ gr a kk pc qs ka kc ks R t hr hA hn (fun h0 x hx hf => by have := hlo _ hf; have := hAF h0 x hx; omega) (by omega)).mono fun e w' h => duo_posted h1 ⟨a, kk, qs, ka, kc, ks, hr⟩ h3 h4 h
theorem fuseD {w0 w : World} {gd gr : Nat} {s t : St} {Z : Nat → Prop} (m : Int) (A : Option Addr) (c n : Nat) (l : List Bool) (h : Duo w0 w gd gr s t Z) (hm : m ≤ 9223372036854775807) (hA0 : A = none → l.length = 0) (hl : l.length ≤ 140737488355328) (hA : KRd w A l) (hn : n = l.length) (hAF : 0 < l.length → ∀ x, A = some x → x.block < w0.heap.size)  :
    Calls Try.prog 46 #[.pointer (some ⟨gd, 0, none⟩), .int .i64 m, .slice A n c] w fun e w' => e = .returned (.int .i64 (s.lit m l).2) ∧ Duo w0 w' gd gr (s.lit m l).1 t Z ∧ Kept Z w w' := by
  obtain ⟨pc, R, ⟨v, pcd, qs, kp, i1, i2, i3, i4⟩, h2, h3, h4⟩ := h
  have hq : s.pcs.length = qs.length := by rw [i1.names, List.length_map]
  subst hn
  exact (setFuse_any gd m A c l w v pcd qs kp s i1 hm hA hA0 (fun h0 x hx e => by have h1 := i2 gd (.inl rfl); have h2 := hAF h0 x hx; omega) hl).mono fun e w' h => duo_turned i2 i3 i4 h2 h3 h4 h
theorem fuseR {w0 w : World} {gd gr : Nat} {s t : St} {Z : Nat → Prop} (m : Int) (A : Option Addr) (c n : Nat) (l : List Bool) (h : Duo w0 w gd gr s t Z) (hm : m ≤ 9223372036854775807) (hl : l.length ≤ 140737488355328) (hA : KRd w A l) (hn : n = l.length) (hAF : 0 < l.length → ∀ x, A = some x → x.block < w0.heap.size)  :
    Calls Try.prog 62 #[.pointer (some ⟨gr, 0, none⟩), .int .i64 m, .slice A n c] w fun e w' => e = .returned (.int .i64 (t.lit m l).2) ∧ Duo w0 w' gd gr s (t.lit m l).1 Z ∧ Kept Z w w' := by
  obtain ⟨pc, R, h1, ⟨a, kk, qs, ka, kc, ks, hr⟩, h3, h4⟩ := h
  have hq : t.pcs.length = qs.length := by rw [hr.names, List.length_map]
  have hlo : ∀ k, RF gr pc k → w0.heap.size ≤ k := fun k hk => hk.elim (fun e => by rw [e]; exact hr.core.base) fun h => (hr.core.row.lt k h).1
  exact (rfuse_any m A c n l w _ gr a kk pc qs ka kc ks R t hr hm hA hn (fun h0 x hx e => by have h1 := hr.core.base; have h2 := hAF h0 x hx; omega) hl).mono fun e w' h => duo_posted h1 ⟨a, kk, qs, ka, kc, ks, hr⟩ h3 h4 h
theorem restartD {w0 w : World} {gd gr : Nat} {s t : St} {Z : Nat → Prop} (h : Duo w0 w gd gr s t Z) :
    Calls Try.prog 17 #[.pointer (some ⟨gd, 0, none⟩)] w fun e w' => e = .returned (.int .i64 0) ∧ Duo w0 w' gd gr s.restart t Z ∧ Kept Z w w' := by
  obtain ⟨pc, R, ⟨v, pcd, qs, kp, i1, i2, i3, i4⟩, h2, h3, h4⟩ := h
  have hq : s.pcs.length = qs.length := by rw [i1.names, List.length_map]
  exact (restart_turned gd w v pcd qs kp s i1).mono fun e w' h => duo_turned (x := (s.restart, 0)) i2 i3 i4 h2 h3 h4 h
theorem restartR {w0 w : World} {gd gr : Nat} {s t : St} {Z : Nat → Prop} (h : Duo w0 w gd gr s t Z) :
    Calls Try.prog 24 #[.pointer (some ⟨gr, 0, none⟩)] w fun e w' => e = .returned (.int .i64 0) ∧ Duo w0 w' gd gr s t.restart Z ∧ Kept Z w w' := by
  obtain ⟨pc, R, h1, ⟨a, kk, qs, ka, kc, ks, hr⟩, h3, h4⟩ := h
  have hq : t.pcs.length = qs.length := by rw [hr.names, List.length_map]
  have hlo : ∀ k, RF gr pc k → w0.heap.size ≤ k := fun k hk => hk.elim (fun e => by rw [e]; exact hr.core.base) fun h => (hr.core.row.lt k h).1
  exact (rrestart_any w _ gr a kk pc qs ka kc ks R t hr).mono fun e w' h => duo_posted (x := (t.restart, 0)) h1 ⟨a, kk, qs, ka, kc, ks, hr⟩ h3 h4 h
/-- All that a pair has; where that is kept, the pair is. -/
theorem Duo.held {w0 w : World} {gd gr : Nat} {s t : St} {Z : Nat → Prop} (h : Duo w0 w gd gr s t Z) : ∃ C : Nat → Prop, (∀ k, C k → k < w.heap.size ∧ ¬ Z k) ∧ ∀ (W : World) (Z' : Nat → Prop), Kept C w W → Below w0.heap.size w0 W → (∀ k, Z' k → k < W.heap.size ∧ ¬ C k) → Duo w0 W gd gr s t Z' := by
  obtain ⟨pc, R, ⟨v, pcd, qs, kp, i1, i2, i3, i4⟩, ⟨a, k, rs, ka, kc, ks, hr⟩, h3, h4⟩ := h
  have l1 := i1.core.lt (Array.getElem?_eq_some_iff.1 i1.box).1
  have l2 := hr.x_lt
  refine ⟨fun k => DR gd v pcd qs kp k ∨ RX gr pc R k, fun k hk => ⟨hk.elim (l1 k) (l2 k), fun hz => hk.elim (i4 k (.inr hz)) fun hx => h3 k hx hz⟩, fun W Z' hK hB hZ => ⟨pc, R, ⟨v, pcd, qs, kp, i1.same hK.1 fun k _ hd => hK.2 k (.inl hd), i2, hB, fun k hk hd => hk.elim (fun hx => i4 k (.inl hx) hd) fun hz => (hZ k hz).2 (.inl hd)⟩, ⟨a, k, rs, ka, kc, ks, ?_⟩, fun k hx hz => (hZ k hz).2 (.inr hx), fun k hz => (hZ k hz).1⟩⟩
  have hlt : ∀ j, RX gr pc R j → W.heap[j]? = w.heap[j]? := fun j hj => hK.2 j (.inr hj)
  have brd : ∀ {A : Option Addr} {l : List UInt8}, BRd w A l → (0 < l.length → ∀ x, A = some x → R x.block) → BRd W A l := fun hb hx h0 => by
    obtain ⟨g, off, rfl, hl, hc⟩ := hb h0
    refine ⟨g, off, rfl, Nat.lt_of_lt_of_le hl hK.1, fun i hi => ?_⟩
    rw [World.cell?_of_block (w := w) (w' := W) (a := ⟨g, off + i, none⟩) (hlt g (.inr (.inr (hx h0 _ rfl))))]
    exact hc i hi
  refine ⟨(hlt gr (.inl rfl)).trans hr.box, ⟨hr.core.base, Nat.lt_of_lt_of_le hr.core.glt hK.1, ownsRow_same hr.core.row fun j _ e => hlt j (.inr (.inl e)), fun i hi => ⟨brd (hr.core.sure i hi).1 (hr.core.sure i hi).2.1, (hr.core.sure i hi).2⟩, fun q hq => ⟨brd (hr.core.reads q hq).1 (hr.core.reads q hq).2, (hr.core.reads q hq).2⟩, ⟨fun h0 => ?_, hr.core.keep.2⟩, hr.core.nog, hr.core.nop, hr.core.ng, fun j hj => Nat.lt_of_lt_of_le (hr.core.lt j hj) hK.1⟩, hr.lit, hr.names, hr.ok⟩
  obtain ⟨g, off, e, hl, hc⟩ := hr.core.keep.1 h0
  refine ⟨g, off, e, Nat.lt_of_lt_of_le hl hK.1, fun i hi => ?_⟩
  rw [World.cell?_of_block (w := w) (w' := W) (a := ⟨g, off + i, none⟩) (hlt g (.inr (.inr (hr.core.keep.2 h0 _ e))))]
  exact hc i hi
end Go.Proofs.Ytdbbghmldaekhaa
