/-
  Of disk: what may be written and what not; the disk of the program, as it lies in memory.
-/
import Derived.Test.YtellmmgiabfacaaDApply
import Derived.Handy
namespace Go.Proofs.Ytellmmgiabfacaa
open Go.ChangeShapes Go.WideShapes Go.ChangeAt Go.RowKit
set_option linter.unusedVariables false

/-- Of the blocks that were there only those of F may have been written. -/
structure Fr (F : Nat → Prop) (w w' : World) : Prop where
  os : w'.os = w.os
  tape : w'.tape = w.tape
  output : w'.output = w.output
  size : w.heap.size ≤ w'.heap.size
  block : ∀ k, k < w.heap.size → ¬ F k → w'.heap[k]? = w.heap[k]?
theorem Fr.refl (F : Nat → Prop) (w : World) : Fr F w w := ⟨rfl, rfl, rfl, Nat.le_refl _, fun _ _ _ => rfl⟩
theorem Fr.trans' {F F1 : Nat → Prop} {w w1 w2 : World} (h : Fr F w w1) (k : Fr F1 w1 w2) (hF : ∀ j, j < w.heap.size → F1 j → F j) : Fr F w w2 :=
  ⟨k.os.trans h.os, k.tape.trans h.tape, k.output.trans h.output, Nat.le_trans h.size k.size, fun j hj hn => (k.block j (Nat.lt_of_lt_of_le hj h.size) fun h' => hn (hF j hj h')).trans (h.block j hj hn)⟩
theorem Fr.trans {F : Nat → Prop} {w w1 w2 : World} (h : Fr F w w1) (k : Fr F w1 w2) : Fr F w w2 := h.trans' k fun _ _ h => h
theorem Fr.mono {F F1 : Nat → Prop} {w w' : World} (h : Fr F w w') (hF : ∀ k, k < w.heap.size → F k → F1 k) : Fr F1 w w' := ⟨h.os, h.tape, h.output, h.size, fun k hk hn => h.block k hk fun h' => hn (hF k hk h')⟩
theorem Fr.of_below {F : Nat → Prop} {w w' : World} (h : Below w.heap.size w w') : Fr F w w' := ⟨h.os, h.tape, h.output, h.size, fun k hk _ => h.block k hk⟩
theorem Fr.of_grw {F : Nat → Prop} {w w' : World} {v v' : Value} (h : Grw w w' v v') (hF : ∀ k, v.ownBlock = some k → F k) : Fr F w w' := ⟨h.by_.os, h.by_.tape, h.by_.output, h.by_.size, fun k hk hn => h.old hk fun e => hn (hF k e)⟩
theorem Fr.set {F : Nat → Prop} (w : World) (g i : Nat) (u : Value) (hg : F g) : Fr F w (w.setCell ⟨g, i, none⟩ u) := ⟨rfl, rfl, rfl, by simp [World.setCell], fun k hk hn => Below.heap_setCell _ _ _ _ fun e => hn (e ▸ hg)⟩
theorem Fr.alloc (F : Nat → Prop) (w : World) (o : Obj) : Fr F w (w.alloc o) := .of_below (alloc_below w o)
theorem Fr.drew (F : Nat → Prop) (w : World) : Fr F w w.drew := .of_below ((Below.refl _ w).drew)
theorem Fr.below {F : Nat → Prop} {w w' : World} {B : Nat} (h : Fr F w w') (hF : ∀ k, F k → B ≤ k) (hB : B ≤ w.heap.size) : Below B w w' := ⟨h.os, h.tape, h.output, h.size, fun k hk => h.block k (by omega) fun h' => by have := hF k h'; omega⟩
/-- F, and what is new. -/
def Plus (F : Nat → Prop) (w w' : World) : Nat → Prop := fun k => F k ∨ (w.heap.size ≤ k ∧ k < w'.heap.size)
theorem Plus.old {F : Nat → Prop} {w w' : World} {k : Nat} (h : Plus F w w' k) (hk : k < w.heap.size) : F k := h.elim id fun h => by omega

theorem BRd.fr {F : Nat → Prop} {w w' : World} {A : Option Addr} {l : List UInt8} (h : BRd w A l) (hf : Fr F w w') (hn : ∀ a, A = some a → ¬ F a.block) : BRd w' A l := fun h0 => by
  obtain ⟨g, off, rfl, hl, hc⟩ := h h0
  have hb : w'.heap[g]? = w.heap[g]? := hf.block g hl (hn _ rfl)
  refine ⟨g, off, rfl, Nat.lt_of_lt_of_le hl hf.size, fun i hi => ?_⟩
  rw [World.cell?_of_block (w := w) (w' := w') (a := ⟨g, off + i, none⟩) hb]
  exact hc i hi

/-- Two slices that share no block. -/
def Dj (x y : Value) : Prop := ∀ k, x.ownBlock = some k → y.ownBlock ≠ some k
theorem Dj.symm {x y : Value} (h : Dj x y) : Dj y x := fun k hy hx => h k hx hy
theorem ownsRow_same {w w' : World} {B : Nat} {e : TypeId} {s n : Nat} {v : Value} {xs : List Value} (h : w.ownsRow B e s v n xs) (hs : ∀ k, k < w.heap.size → v.ownBlock = some k → w'.heap[k]? = w.heap[k]?) : w'.ownsRow B e s v n xs := by
  refine ⟨h.1, ?_⟩
  rcases h.2 with h2 | ⟨g, cap, cur, hv, hb, hg, rest⟩
  · exact .inl h2
  · have hlt : g < w.heap.size := (Array.getElem?_eq_some_iff.1 hg).1
    exact .inr ⟨g, cap, cur, hv, hb, by rw [hs g hlt (by rw [hv]; rfl)]; exact hg, rest⟩
theorem own_type {w : World} {B : Nat} {e : TypeId} {s n : Nat} {v : Value} {xs : List Value} (h : w.ownsRow B e s v n xs) : ∀ g, v.ownBlock = some g → ∃ c, w.heap[g]? = some (.cells c e (0, 0)) := by
  intro g hg
  rcases h.2 with ⟨rfl, _⟩ | ⟨g', cap, cur, hv, hb, hg', rest⟩
  · simp [Value.ownBlock] at hg
  · rw [hv] at hg
    simp [Value.ownBlock] at hg
    subst hg
    exact ⟨cur, hg'⟩

/-- A piece in memory: what it is, where its bytes lie. -/
structure PV where
  p : Pc
  A : Option Addr
  c : Nat
def PV.iface (q : PV) : Value := if q.p.cut then .iface 195 (.agg #[.int .i64 q.p.pos]) else .iface 175 (.agg #[.int .i64 q.p.pos, .slice q.A q.p.b.length q.c])
def PV.func (q : PV) : Value := .func (.method "colonnade/disk.apply") #[q.iface] #[]
def PV.cells (q : PV) : List Value := [.int .i64 q.p.file, q.func]
def rowOf (qs : List PV) : List Value := qs.flatMap PV.cells
theorem rowOf_len (qs : List PV) : (rowOf qs).length = qs.length * 2 := by
  unfold rowOf
  induction qs with
  | nil => rfl
  | cons q qs ih => simp [PV.cells, ih]; omega
theorem rowOf_app (a b : List PV) : rowOf (a ++ b) = rowOf a ++ rowOf b := by simp [rowOf]
theorem rowOf_at (qs : List PV) (i : Nat) (h : i < qs.length) : (rowOf qs)[i * 2]? = some (.int .i64 qs[i].p.file) ∧ (rowOf qs)[i * 2 + 1]? = some qs[i].func := by
  induction qs generalizing i with
  | nil => simp at h
  | cons q qs ih =>
    cases i with
    | zero => simp [rowOf, PV.cells]
    | succ i =>
      have h' : i < qs.length := by simpa using h
      have := ih i h'
      have e1 : (i + 1) * 2 = i * 2 + 2 := by omega
      have e3 : rowOf (q :: qs) = PV.cells q ++ rowOf qs := by simp [rowOf]
      rw [e3, e1]
      simpa [PV.cells] using this

/-- The slices of a disk: what both files have and had (v, holding ct), the pieces (pc), the choice for the fuse (kp). -/
structure Core (w : World) (g : Nat) (v : Nat → Value) (ct : Nat → List UInt8) (pc : Value) (qs : List PV) (kp : Value) (keep : List Bool) : Prop where
  own : ∀ i, i < 4 → OwnB w 0 (v i) (ct i)
  dj : ∀ i j, i < 4 → j < 4 → i ≠ j → Dj (v i) (v j)
  row : w.ownsRow 0 134 2 pc qs.length (rowOf qs)
  reads : ∀ q ∈ qs, BRd w q.A q.p.b ∧ ∀ a, q.A = some a → a.block < w.heap.size ∧ a.block ≠ g ∧ pc.ownBlock ≠ some a.block ∧ ∀ i, i < 4 → (v i).ownBlock ≠ some a.block
  keep : w.ownsRow 0 4 1 kp keep.length (keep.map Value.bool)
  dgv : ∀ i, i < 4 → (v i).ownBlock ≠ some g
  dgp : pc.ownBlock ≠ some g
  dgk : kp.ownBlock ≠ some g
  dpv : ∀ i, i < 4 → Dj pc (v i)
  dkp : Dj kp pc
  dkv : ∀ i, i < 4 → Dj kp (v i)
def DF (g : Nat) (v : Nat → Value) (pc : Value) : Nat → Prop := fun k => k = g ∨ pc.ownBlock = some k ∨ ∃ i, i < 4 ∧ (v i).ownBlock = some k
def DR (g : Nat) (v : Nat → Value) (pc : Value) (qs : List PV) (kp : Value) : Nat → Prop := fun k => DF g v pc k ∨ kp.ownBlock = some k ∨ ∃ q ∈ qs, ∃ a, q.A = some a ∧ a.block = k
def upd {α : Type} (v : Nat → α) (i : Nat) (x : α) : Nat → α := fun j => if j = i then x else v j
@[simp] theorem upd_same {α : Type} (v : Nat → α) (i : Nat) (x : α) : upd v i x i = x := by simp [upd]
theorem upd_ne {α : Type} (v : Nat → α) {i j : Nat} (x : α) (h : j ≠ i) : upd v i x j = v j := by simp [upd, h]

theorem Core.same {w w' : World} {g : Nat} {v : Nat → Value} {ct : Nat → List UInt8} {pc : Value} {qs : List PV} {kp : Value} {keep : List Bool} (h : Core w g v ct pc qs kp keep) (hs : w.heap.size ≤ w'.heap.size)
    (hb : ∀ k, k < w.heap.size → k ≠ g → DR g v pc qs kp k → w'.heap[k]? = w.heap[k]?) : Core w' g v ct pc qs kp keep where
  own := fun i hi => (h.own i hi).same fun k hk e => hb k hk (fun e' => h.dgv i hi (e' ▸ e)) (.inl (.inr (.inr ⟨i, hi, e⟩)))
  dj := h.dj
  row := ownsRow_same h.row fun k hk e => hb k hk (fun e' => h.dgp (e' ▸ e)) (.inl (.inr (.inl e)))
  reads := fun q hq => by
    obtain ⟨h1, h2⟩ := h.reads q hq
    refine ⟨fun h0 => ?_, fun a ha => ⟨Nat.lt_of_lt_of_le (h2 a ha).1 hs, (h2 a ha).2⟩⟩
    obtain ⟨b, off, hA, hl, hc⟩ := h1 h0
    have h3 := h2 _ hA
    have hbb : w'.heap[b]? = w.heap[b]? := hb b hl h3.2.1 (.inr (.inr ⟨q, hq, _, hA, rfl⟩))
    refine ⟨b, off, hA, Nat.lt_of_lt_of_le hl hs, fun i hi => ?_⟩
    rw [World.cell?_of_block (w := w) (w' := w') (a := ⟨b, off + i, none⟩) hbb]
    exact hc i hi
  keep := ownsRow_same h.keep fun k hk e => hb k hk (fun e' => h.dgk (e' ▸ e)) (.inr (.inl e))
  dgv := h.dgv
  dgp := h.dgp
  dgk := h.dgk
  dpv := h.dpv
  dkp := h.dkp
  dkv := h.dkv
theorem Core.below {w w' : World} {g : Nat} {v : Nat → Value} {ct : Nat → List UInt8} {pc : Value} {qs : List PV} {kp : Value} {keep : List Bool} (h : Core w g v ct pc qs kp keep) (hb : Below w.heap.size w w') : Core w' g v ct pc qs kp keep :=
  h.same hb.size fun k hk _ _ => hb.block k hk
theorem Core.set {w : World} {g : Nat} {v : Nat → Value} {ct : Nat → List UInt8} {pc : Value} {qs : List PV} {kp : Value} {keep : List Bool} (h : Core w g v ct pc qs kp keep) (i : Nat) (u : Value) : Core (w.setCell ⟨g, i, none⟩ u) g v ct pc qs kp keep :=
  h.same (by simp [World.setCell]) fun k hk hg _ => Below.heap_setCell _ _ _ _ hg
/-- One of the four has grown. -/
theorem Core.upd {w w' : World} {g : Nat} {v : Nat → Value} {ct : Nat → List UInt8} {pc : Value} {qs : List PV} {kp : Value} {keep : List Bool} (h : Core w g v ct pc qs kp keep) (hg : g < w.heap.size) {i : Nat} (hi : i < 4) {x : Value} {l : List UInt8}
    (hx : OwnB w' 0 x l) (hw : Grw w w' (v i) x) : Core w' g (upd v i x) (upd ct i l) pc qs kp keep := by
  have hblk : ∀ {k}, k < w.heap.size → (v i).ownBlock ≠ some k → w'.heap[k]? = w.heap[k]? := fun hk hn => hw.old hk hn
  have hxa : ∀ k, x.ownBlock = some k → (v i).ownBlock = some k ∨ w.heap.size ≤ k := fun k hk => hw.at_.elim (fun e => .inl (e ▸ hk)) fun e => .inr (e k hk)
  have lt1 : ∀ j, j < 4 → ∀ k, (v j).ownBlock = some k → k < w.heap.size := fun j hj k hk => ((h.own j hj).lt k hk).2
  have lt2 : ∀ k, pc.ownBlock = some k → k < w.heap.size := fun k hk => (h.row.lt k hk).2
  have lt3 : ∀ k, kp.ownBlock = some k → k < w.heap.size := fun k hk => (h.keep.lt k hk).2
  refine ⟨?_, ?_, ?_, ?_, ?_, ?_, h.dgp, h.dgk, ?_, h.dkp, ?_⟩
  · intro j hj
    by_cases e : j = i
    · subst e; simpa using hx
    · rw [upd_ne _ _ e, upd_ne _ _ e]
      exact (h.own j hj).same fun k hk hk' => hblk hk fun h' => h.dj j i hj hi e k hk' h'
  · intro j1 j2 h1 h2 hne
    by_cases e1 : j1 = i
    · subst e1
      rw [upd_same, upd_ne _ _ (fun e => hne e.symm)]
      intro k hk hk'
      rcases hxa k hk with h' | h'
      · exact h.dj j1 j2 h1 h2 hne k h' hk'
      · have := lt1 j2 h2 k hk'; omega
    · by_cases e2 : j2 = i
      · subst e2
        rw [upd_same, upd_ne _ _ e1]
        intro k hk hk'
        rcases hxa k hk' with h' | h'
        · exact h.dj j1 j2 h1 h2 hne k hk h'
        · have := lt1 j1 h1 k hk; omega
      · rw [upd_ne _ _ e1, upd_ne _ _ e2]
        exact h.dj j1 j2 h1 h2 hne
  · exact ownsRow_same h.row fun k hk hk' => hblk hk fun h' => h.dpv i hi k hk' h'
  · intro q hq
    obtain ⟨h1, h2⟩ := h.reads q hq
    refine ⟨h1.grw hw fun a ha => (h2 a ha).2.2.2 i hi, fun a ha => ?_⟩
    obtain ⟨h3, h4, h5, h6⟩ := h2 a ha
    refine ⟨Nat.lt_of_lt_of_le h3 hw.by_.size, h4, h5, fun j hj => ?_⟩
    by_cases e : j = i
    · subst e
      rw [upd_same]
      intro hk
      rcases hxa _ hk with h' | h'
      · exact h6 j hj h'
      · omega
    · rw [upd_ne _ _ e]; exact h6 j hj
  · exact ownsRow_same h.keep fun k hk hk' => hblk hk fun h' => h.dkv i hi k hk' h'
  · intro j hj
    by_cases e : j = i
    · subst e
      rw [upd_same]
      intro hk
      rcases hxa _ hk with h' | h'
      · exact h.dgv j hj h'
      · omega
    · rw [upd_ne _ _ e]; exact h.dgv j hj
  · intro j hj
    by_cases e : j = i
    · subst e
      rw [upd_same]
      intro k hk hk'
      rcases hxa k hk' with h' | h'
      · exact h.dpv j hj k hk h'
      · have := lt2 k hk; omega
    · rw [upd_ne _ _ e]; exact h.dpv j hj
  · intro j hj
    by_cases e : j = i
    · subst e
      rw [upd_same]
      intro k hk hk'
      rcases hxa k hk' with h' | h'
      · exact h.dkv j hj k hk h'
      · have := lt3 k hk; omega
    · rw [upd_ne _ _ e]; exact h.dkv j hj
/-- The row of pieces is another one. -/
theorem Core.pieces {w w' : World} {g : Nat} {v : Nat → Value} {ct : Nat → List UInt8} {pc pc' : Value} {qs qs' : List PV} {kp : Value} {keep : List Bool} (h : Core w g v ct pc qs kp keep) (hg : g < w.heap.size)
    (hrow : w'.ownsRow 0 134 2 pc' qs'.length (rowOf qs')) (hw : Grw w w' pc pc') (hq : ∀ q ∈ qs', q ∈ qs ∨ BRd w q.A q.p.b ∧ ∀ a, q.A = some a → a.block < w.heap.size ∧ a.block ≠ g ∧ pc.ownBlock ≠ some a.block ∧ ∀ i, i < 4 → (v i).ownBlock ≠ some a.block) : Core w' g v ct pc' qs' kp keep := by
  have hblk : ∀ {k}, k < w.heap.size → pc.ownBlock ≠ some k → w'.heap[k]? = w.heap[k]? := fun hk hn => hw.old hk hn
  have hxa : ∀ k, pc'.ownBlock = some k → pc.ownBlock = some k ∨ w.heap.size ≤ k := fun k hk => hw.at_.elim (fun e => .inl (e ▸ hk)) fun e => .inr (e k hk)
  have lt1 : ∀ j, j < 4 → ∀ k, (v j).ownBlock = some k → k < w.heap.size := fun j hj k hk => ((h.own j hj).lt k hk).2
  have lt3 : ∀ k, kp.ownBlock = some k → k < w.heap.size := fun k hk => (h.keep.lt k hk).2
  refine ⟨fun j hj => (h.own j hj).same fun k hk hk' => hblk hk fun h' => h.dpv j hj k h' hk', h.dj, hrow, ?_, ownsRow_same h.keep fun k hk hk' => hblk hk fun h' => h.dkp k hk' h', h.dgv, ?_, h.dgk, ?_, ?_, h.dkv⟩
  · intro q hq'
    obtain ⟨h1, h2⟩ := (hq q hq').elim (h.reads q) id
    refine ⟨h1.grw hw fun a ha => (h2 a ha).2.2.1, fun a ha => ?_⟩
    obtain ⟨h3, h4, h5, h6⟩ := h2 a ha
    refine ⟨Nat.lt_of_lt_of_le h3 hw.by_.size, h4, fun hk => ?_, h6⟩
    rcases hxa _ hk with h' | h'
    · exact h5 h'
    · omega
  · intro hk
    rcases hxa _ hk with h' | h'
    · exact h.dgp h'
    · omega
  · intro j hj k hk hk'
    rcases hxa k hk with h' | h'
    · exact h.dpv j hj k h' hk'
    · have := lt1 j hj k hk'; omega
  · intro k hk hk'
    rcases hxa k hk' with h' | h'
    · exact h.dkp k hk h'
    · have := lt3 k hk; omega
/-- The choice is another one. -/
theorem Core.keeps {w w' : World} {g : Nat} {v : Nat → Value} {ct : Nat → List UInt8} {pc : Value} {qs : List PV} {kp kp' : Value} {keep keep' : List Bool} (h : Core w g v ct pc qs kp keep) (hg : g < w.heap.size)
    (hrow : w'.ownsRow 0 4 1 kp' keep'.length (keep'.map Value.bool)) (hb : Below w.heap.size w w') (hnew : ∀ k, kp'.ownBlock = some k → w.heap.size ≤ k) : Core w' g v ct pc qs kp' keep' := by
  have h' := h.below hb
  have lt1 : ∀ j, j < 4 → ∀ k, (v j).ownBlock = some k → k < w.heap.size := fun j hj k hk => ((h.own j hj).lt k hk).2
  have lt2 : ∀ k, pc.ownBlock = some k → k < w.heap.size := fun k hk => (h.row.lt k hk).2
  exact ⟨h'.own, h'.dj, h'.row, h'.reads, hrow, h.dgv, h.dgp, fun e => by have := hnew _ e; omega, h.dpv, fun k hk hk' => by have := hnew _ hk; have := lt2 k hk'; omega, fun i hi k hk hk' => by have := hnew _ hk; have := lt1 i hi k hk'; omega⟩
theorem Core.lt {w : World} {g : Nat} {v : Nat → Value} {ct : Nat → List UInt8} {pc : Value} {qs : List PV} {kp : Value} {keep : List Bool} (h : Core w g v ct pc qs kp keep) (hg : g < w.heap.size) : ∀ k, DR g v pc qs kp k → k < w.heap.size := by
  rintro k ((rfl | e | ⟨i, hi, e⟩) | e | ⟨q, hq, a, ha, rfl⟩)
  · exact hg
  · exact (h.row.lt k e).2
  · exact ((h.own i hi).lt k e).2
  · exact (h.keep.lt k e).2
  · exact ((h.reads q hq).2 a ha).1

/-- What the four slices hold. -/
def St.ct (s : St) (i : Nat) : List UInt8 := if i % 2 = 0 then s.now (i / 2) else s.sure (i / 2)
def boxOf (s : St) (v : Nat → Value) (pc kp : Value) : Array Value := #[.bool true, .bool s.down, .int .i64 s.calls, .int .i64 s.fuse, kp, v 0, v 1, v 2, v 3, pc]
/-- A disk of the program's, in the block g, in these slices. -/
structure DSt (w : World) (g : Nat) (v : Nat → Value) (pc : Value) (qs : List PV) (kp : Value) (s : St) : Prop where
  box : w.heap[g]? = some (.cells (boxOf s v pc kp) 95 (0, 0))
  core : Core w g v s.ct pc qs kp s.keep
  names : s.pcs = qs.map PV.p
  ok : s.Ok
/-- A disk of the program's: what it may write (F), what it reads (R). -/
def Disk (w : World) (g : Nat) (F R : Nat → Prop) (s : St) : Prop := ∃ v pc qs kp, DSt w g v pc qs kp s ∧ (∀ k, DF g v pc k → F k) ∧ (∀ k, DR g v pc qs kp k → R k) ∧ (∀ k, F k → R k) ∧ ∀ k, R k → k < w.heap.size
theorem DSt.same {w w' : World} {g : Nat} {v : Nat → Value} {pc : Value} {qs : List PV} {kp : Value} {s : St} (h : DSt w g v pc qs kp s) (hs : w.heap.size ≤ w'.heap.size) (hb : ∀ k, k < w.heap.size → DR g v pc qs kp k → w'.heap[k]? = w.heap[k]?) : DSt w' g v pc qs kp s := by
  have hg : g < w.heap.size := (Array.getElem?_eq_some_iff.1 h.box).1
  exact ⟨(hb g hg (.inl (.inl rfl))).trans h.box, h.core.same hs fun k hk _ hr => hb k hk hr, h.names, h.ok⟩
theorem Disk.fr {w w' : World} {g : Nat} {F R G : Nat → Prop} {s : St} (h : Disk w g F R s) (hf : Fr G w w') (hn : ∀ k, G k → ¬ R k) : Disk w' g F R s := by
  obtain ⟨v, pc, qs, kp, hd, h1, h2, h3, h4⟩ := h
  exact ⟨v, pc, qs, kp, hd.same hf.size fun k hk hr => hf.block k hk fun hG => hn k hG (h2 k hr), h1, h2, h3, fun k hk => Nat.lt_of_lt_of_le (h4 k hk) hf.size⟩
theorem Disk.below {w w' : World} {g : Nat} {F R : Nat → Prop} {s : St} (h : Disk w g F R s) (hb : Below w.heap.size w w') : Disk w' g F R s := h.fr (G := fun _ => False) (.of_below hb) fun _ h => h.elim
/-- What a call leaves that turns the disk. -/
def After (w w' : World) (g : Nat) (F R : Nat → Prop) (s : St) : Prop := Disk w' g (Plus F w w') (Plus R w w') s ∧ Fr F w w'
theorem After.mk' {w w' : World} {g : Nat} {F R : Nat → Prop} {s : St} {v v' : Nat → Value} {pc pc' : Value} {qs qs' : List PV} {kp kp' : Value} (hF : ∀ k, DF g v pc k → F k) (hR : ∀ k, DR g v pc qs kp k → R k) (hFR : ∀ k, F k → R k) (hlt : ∀ k, R k → k < w.heap.size)
    (hd : DSt w' g v' pc' qs' kp' s) (hf : Fr (DF g v pc) w w') (h1 : ∀ k, k < w.heap.size → DF g v' pc' k → DF g v pc k) (h2 : ∀ k, k < w.heap.size → DR g v' pc' qs' kp' k → DR g v pc qs kp k) : After w w' g F R s := by
  have hg : g < w'.heap.size := (Array.getElem?_eq_some_iff.1 hd.box).1
  have hl := hd.core.lt hg
  refine ⟨⟨v', pc', qs', kp', hd, fun k hk => ?_, fun k hk => ?_, fun k hk => hk.imp (hFR k) id, fun k hk => ?_⟩, hf.mono fun k _ hk => hF k hk⟩
  · by_cases hk' : k < w.heap.size
    · exact .inl (hF k (h1 k hk' hk))
    · exact .inr ⟨by omega, hl k (.inl hk)⟩
  · by_cases hk' : k < w.heap.size
    · exact .inl (hR k (h2 k hk' hk))
    · exact .inr ⟨by omega, hl k hk⟩
  · rcases hk with h | h
    · exact Nat.lt_of_lt_of_le (hlt k h) hf.size
    · exact h.2
end Go.Proofs.Ytellmmgiabfacaa
