/-
  Of codec: what the walks share: slices of the call's own, what they leave untouched.
-/
import Derived.Test.YtpdffcopigajgaaRows
import Derived.Test.YtpdffcopigajgaaCRead
import Derived.WalkKit
import Derived.ProofKit
import Derived.OpenShut
import Derived.Lib.Hide
import Derived.Below
import Derived.ChangeSame
import Derived.IntWalk
import Derived.Deep.AppendLies
import Derived.Deep.DeepCutAuto
import Derived.Deep.QuietTactic
import Derived.BigQuiet
import Derived.WalkLawsBesides
import Derived.WalkSpells
import Derived.Outline
import Derived.Lib.BufferRead
namespace Go.Proofs.Ytpdffcopigajgaa
open Go.ChangeShapes Go.WideShapes Go.ChangeAt Go.RowKit
set_option linter.unusedVariables false

theorem ret_pair {k k' : IntKind} {a b c d : Int} (h : a = b) (h' : c = d) : Ending.returned (.tuple #[.int k a, .int k' c]) = .returned (.tuple #[.int k b, .int k' d]) := by rw [h, h']
theorem ret_int {k : IntKind} {a b : Int} (h : a = b) : Ending.returned (.int k a) = .returned (.int k b) := by rw [h]
theorem ret_bool {a b : Bool} (h : a = b) : Ending.returned (.bool a) = .returned (.bool b) := by rw [h]
theorem bcell {W w1 : World} (hb : Below W.heap.size W w1) : (∀ b o, b < W.heap.size → w1.cell? ⟨b, o, none⟩ = W.cell? ⟨b, o, none⟩) ∧ (∀ b o, b < W.heap.size → w1.frozen? ⟨b, o, none⟩ = W.frozen? ⟨b, o, none⟩) :=
  ⟨fun b o h => hb.cell (p := ⟨b, o, none⟩) h, fun b o h => hb.frozen (p := ⟨b, o, none⟩) h⟩
theorem alloc_below (w : World) (o : Obj) : Below w.heap.size w (w.alloc o) := (Below.refl _ _).alloc (Nat.le_refl _) _
theorem b1 {w w1 : World} {o : Obj} (h : Below (w.alloc o).heap.size (w.alloc o) w1) : Below w.heap.size w w1 := (alloc_below w o).trans (h.mono (by simp))
theorem bt {w w1 w2 : World} (h : Below w.heap.size w w1) (h' : Below w1.heap.size w1 w2) : Below w.heap.size w w2 := h.trans (h'.mono h.size)
theorem below_tr {B : Nat} {a b c : World} (h1 : Below B a b) (h2 : Below B b c) : Below B a c := ⟨h2.os.trans h1.os, h2.tape.trans h1.tape, h2.output.trans h1.output, Nat.le_trans h1.size h2.size, fun k hk => (h2.block k hk).trans (h1.block k hk)⟩
theorem own_kind {w : World} {B : Nat} {e : TypeId} {v : Value} {n : Nat} {xs : List Value} (h : w.ownsRow B e 1 v n xs) : ∀ g, v.ownBlock = some g → ∃ c fz, w.heap[g]? = some (.cells c e fz) := Lib.ownsRowF_kind (World.ownsRowF_of h)

theorem byteInfo : (Try.prog.info? 5).map (fun i => (i.zero, i.size, i.bytes)) = some (some (.int .u8 0), 1, 1) := by kernel_rfl

/-- What grows: of the blocks that were there only v's own is written, and the new value lies there or in a new block. -/
structure Grw (w w' : World) (v v' : Value) : Prop where
  by_ : w.grownBy w' v.ownBlock
  at_ : v'.ownBlock = v.ownBlock ∨ ∀ k, v'.ownBlock = some k → w.heap.size ≤ k
theorem Grw.refl (w : World) (v : Value) : Grw w w v v := ⟨⟨rfl, rfl, rfl, Nat.le_refl _, fun _ _ _ => rfl⟩, .inl rfl⟩
theorem Grw.trans {w w1 w2 : World} {v v1 v2 : Value} (h : Grw w w1 v v1) (k : Grw w1 w2 v1 v2) : Grw w w2 v v2 := by
  have hs := h.by_.size
  refine ⟨⟨k.by_.os.trans h.by_.os, k.by_.tape.trans h.by_.tape, k.by_.output.trans h.by_.output, Nat.le_trans hs k.by_.size, fun j hj hr => (k.by_.block j (by omega) ?_).trans (h.by_.block j hj hr)⟩, ?_⟩
  · rcases h.at_ with e | e
    · rw [e]; exact hr
    · intro e'
      have := e j e'.symm
      omega
  · rcases k.at_ with e | e
    · rcases h.at_ with e' | e'
      · exact .inl (e.trans e')
      · exact .inr fun j hj => e' j (e ▸ hj)
    · exact .inr fun j hj => Nat.le_trans hs (e j hj)
theorem Grw.of_below {w w1 w2 : World} {v v' : Value} (hb : Below w.heap.size w w1) (h : Grw w1 w2 v v') : Grw w w2 v v' := by
  have hs := hb.size
  refine ⟨⟨h.by_.os.trans hb.os, h.by_.tape.trans hb.tape, h.by_.output.trans hb.output, Nat.le_trans hs h.by_.size, fun j hj hr => (h.by_.block j (by omega) hr).trans (hb.block j hj)⟩, ?_⟩
  rcases h.at_ with e | e
  · exact .inl e
  · exact .inr fun j hj => Nat.le_trans hs (e j hj)
theorem Grw.alloc {w w2 : World} {v v' : Value} {o : Obj} (h : Grw (w.alloc o) w2 v v') : Grw w w2 v v' := Grw.of_below (alloc_below w o) h
theorem Grw.lies {w w' : World} {v : Value} {g n c : Nat} (hg : w.grownBy w' v.ownBlock) (hat : v.ownBlock = some g ∨ g = w.heap.size) : Grw w w' v (.slice (some ⟨g, 0, none⟩) n c) := by
  refine ⟨hg, ?_⟩
  rcases hat with e | e
  · exact .inl e.symm
  · exact .inr fun k hk => by simp [Value.ownBlock] at hk; omega
/-- An old block that is not v's own. -/
theorem Grw.old {w w' : World} {v v' : Value} (h : Grw w w' v v') {k : Nat} (hk : k < w.heap.size) (hn : v.ownBlock ≠ some k) : w'.heap[k]? = w.heap[k]? := h.by_.block k hk fun e => hn e.symm
theorem Grw.below {w w' : World} {v v' : Value} {B n : Nat} {xs : List Value} {t : TypeId} {s : Nat} (h : Grw w w' v v') (hown : w.ownsRow B t s v n xs) (hB : B ≤ w.heap.size) : Below B w w' :=
  (Below.refl B w).grown h.by_ hB fun k hk => (hown.lt k hk).1
theorem Grw.fresh {w w' : World} {v' : Value} {n : Nat} (h : Grw w w' (.slice none 0 n) v') : Below w.heap.size w w' :=
  (Below.refl _ w).grown h.by_ (Nat.le_refl _) fun k hk => by simp [Value.ownBlock] at hk

/-- A slice of the call's own that holds these bytes. -/
def OwnB (w : World) (B : Nat) (v : Value) (l : List UInt8) : Prop := w.ownsRow B 5 1 v l.length (Lib.byteCells l)
theorem OwnB.nil (w : World) (B : Nat) : OwnB w B (.slice none 0 0) [] := World.ownsRow_nil _ _ _ _
theorem OwnB.alloc {w : World} {B : Nat} {v : Value} {l : List UInt8} (h : OwnB w B v l) (o : Obj) : OwnB (w.alloc o) B v l := World.ownsRow.alloc h o
theorem OwnB.same {w w' : World} {B : Nat} {v : Value} {l : List UInt8} (h : OwnB w B v l) (hs : ∀ k, k < w.heap.size → v.ownBlock = some k → w'.heap[k]? = w.heap[k]?) : OwnB w' B v l := by
  refine ⟨h.1, ?_⟩
  rcases h.2 with h2 | ⟨g, cap, cur, hv, hb, hg, rest⟩
  · exact .inl h2
  · have hlt : g < w.heap.size := (Array.getElem?_eq_some_iff.1 hg).1
    exact .inr ⟨g, cap, cur, hv, hb, by rw [hs g hlt (by rw [hv]; rfl)]; exact hg, rest⟩
theorem OwnB.below {w w' : World} {B : Nat} {v : Value} {l : List UInt8} (h : OwnB w B v l) (hb : Below w.heap.size w w') : OwnB w' B v l := h.same fun k hk _ => hb.block k hk
theorem OwnB.slice {w : World} {B : Nat} {v : Value} {l : List UInt8} (h : OwnB w B v l) : ∃ a cap, v = .slice a l.length cap ∧ l.length ≤ cap ∧ (a = none → cap = 0) := by
  rcases h.2 with ⟨rfl, h0⟩ | ⟨g, cap, cur, rfl, hb, hg, hn, rest⟩
  · exact ⟨none, 0, by rw [h0], by omega, fun _ => rfl⟩
  · exact ⟨_, cap, rfl, hn, fun h => by cases h⟩
theorem OwnB.app {w : World} {B g cap n : Nat} {l : List UInt8} (c : UInt8) (h : w.ownsRow B 5 1 (.slice (some ⟨g, 0, none⟩) n cap) n (Lib.byteCells l ++ [.int .u8 (c.toNat : Int)])) : OwnB w B (.slice (some ⟨g, 0, none⟩) n cap) (l ++ [c]) := by
  have e : Lib.byteCells l ++ [.int .u8 (c.toNat : Int)] = Lib.byteCells (l ++ [c]) := by simp [Lib.byteCells]
  rw [e] at h
  have hn : n = (l ++ [c]).length := by
    have := h.1
    simp [Lib.byteCells] at this ⊢
    omega
  unfold OwnB
  rw [← hn]
  exact h

/-- One byte is appended to a slice of the call's own. -/
theorem wpList_byte {w0 : World} {T : TypeId} {z : Int} {ops : Array Oper} {rest : List Oper} {o : Oper} {a : Act} {Q : Exit → Act → World → Prop} (hgd : o.guard = none) (s x : Operand)
    (ho : o.op = .call { callee := .builtin .append, args := #[s, x], argTypes := #[23, 23] }) (B : Nat) (v : Value) (l : List UInt8) (c : UInt8) (hz : z = (c.toNat : Int)) (hs : a.eval s = v) (hx : a.eval x = .slice (some ⟨w0.heap.size, 0, none⟩) 1 1)
    (hown : OwnB w0 B v l) (hB : B ≤ w0.heap.size) (hlim : l.length + 1 ≤ 140737488355328)
    (h : ∀ v' w', OwnB w' B v' (l ++ [c]) → Grw w0 w' v v' → wpList Try.prog ops Q rest (a.put o.dst v') w') : wpList Try.prog ops Q (o :: rest) a (w0.alloc (.cells #[.int .u8 z] T)) := by
  obtain ⟨i0, hi, hz0, hz1, hz2⟩ := info_parts byteInfo
  subst hz
  refine wpList_append_lies _ hgd s x 23 ho B 5 i0 (.int .u8 0) 1 1 Try.underlying23 hi hz0 hz1 hz2 rfl (by decide) v _ _ hs (hown.alloc _) ⟨w0.heap.size, 0, none⟩ 1 1 [.int .u8 (c.toNat : Int)] hx rfl (fun j u hj => by match j, hj with | 0, hj => (simp at hj; subst hj; simp [Addr.add])) (fun u hu => by simp at hu; subst hu; rfl) (by decide) (by unfold maxLen; omega) (by omega) (by simp; omega) _ rfl ?_
  intro g cap w1 hown1 hgrow hat hlt
  refine h _ w1 (OwnB.app c hown1) ?_
  have hg : w0.grownBy w1 v.ownBlock := ⟨hgrow.os, hgrow.tape, hgrow.output, Nat.le_trans (by simp) hgrow.size, fun k hk hr => (hgrow.block k (by simp; omega) hr).trans (Below.heap_alloc _ _ _ hk)⟩
  refine ⟨hg, ?_⟩
  rcases hat with e | e
  · exact .inl e.symm
  · exact .inr fun k hk => by simp [Value.ownBlock] at hk; simp at e; omega
/-- What a call leaves that appends the bytes x onto the slice v of the caller's own. -/
def AppPost (B : Nat) (v : Value) (l x : List UInt8) (w : World) (e : Ending) (w' : World) : Prop := ∃ v', e = .returned v' ∧ OwnB w' B v' (l ++ x) ∧ Grw w w' v v'

/-- A slice of bytes, wherever it lies. -/
def BRd (w : World) (A : Option Addr) (l : List UInt8) : Prop := 0 < l.length → ∃ g off, A = some ⟨g, off, none⟩ ∧ g < w.heap.size ∧ ∀ i (h : i < l.length), w.cell? ⟨g, off + i, none⟩ = some (.int .u8 (l[i].toNat : Int))
theorem BRd.nil (w : World) (A : Option Addr) : BRd w A [] := fun h => by simp at h
theorem BRd.below {w w' : World} {A : Option Addr} {l : List UInt8} (h : BRd w A l) (hb : Below w.heap.size w w') : BRd w' A l := fun hn => by
  obtain ⟨g, off, hA, hg, hc⟩ := h hn
  refine ⟨g, off, hA, Nat.lt_of_lt_of_le hg hb.size, fun i hi => ?_⟩
  rw [(bcell hb).1 _ _ hg]
  exact hc i hi
theorem OwnB.brd {w : World} {B cap : Nat} {a : Option Addr} {l : List UInt8} (h : OwnB w B (.slice a l.length cap) l) : BRd w a l := fun hn => by
  obtain ⟨g, cap', hv, hb, hg⟩ := World.ownsRow.form h hn
  obtain ⟨rfl, rfl⟩ : a = some ⟨g, 0, none⟩ ∧ cap = cap' := by simpa using hv
  refine ⟨g, 0, rfl, hg, fun j hj => ?_⟩
  have hc := World.ownsRow.cells h (g := g) rfl j _ (by rw [Lib.byteCells, List.getElem?_map, List.getElem?_eq_getElem hj]; rfl)
  rw [show (⟨g, 0, none⟩ : Addr).add j = ⟨g, 0 + j, none⟩ from Go.WideShapes.add_plain g 0 j] at hc
  exact hc
/-- The two lie in other blocks. -/
def Apart (A : Option Addr) (v : Value) : Prop := ∀ a, A = some a → v.ownBlock ≠ some a.block
theorem BRd.grw {w w' : World} {A : Option Addr} {l : List UInt8} {v v' : Value} (h : BRd w A l) (hg : Grw w w' v v') (hne : Apart A v) : BRd w' A l := fun hn => by
  obtain ⟨g, off, rfl, hl, hc⟩ := h hn
  have hb : w'.heap[g]? = w.heap[g]? := hg.old hl (hne _ rfl)
  refine ⟨g, off, rfl, Nat.lt_of_lt_of_le hl hg.by_.size, fun i hi => ?_⟩
  rw [World.cell?_of_block (w := w) (w' := w') (a := ⟨g, off + i, none⟩) hb]
  exact hc i hi
theorem BRd.alloc {w : World} {A : Option Addr} {l : List UInt8} (h : BRd w A l) (o : Obj) : BRd (w.alloc o) A l := h.below (alloc_below w o)
theorem byteCells_get {l : List UInt8} {j : Nat} {u : Value} (h : (Lib.byteCells l)[j]? = some u) : ∃ hj : j < l.length, u = .int .u8 (l[j].toNat : Int) := by
  have hj : j < l.length := by have := (List.getElem?_eq_some_iff.1 h).1; simpa [Lib.byteCells] using this
  refine ⟨hj, ?_⟩
  rw [Lib.byteCells, List.getElem?_map, List.getElem?_eq_getElem hj] at h
  exact (Option.some.inj h).symm
/-- Some bytes are appended, out of wherever they lie. -/
theorem wpList_app {w : World} {ops : Array Oper} {rest : List Oper} {o : Oper} {a : Act} {Q : Exit → Act → World → Prop} (hgd : o.guard = none) (s x : Operand)
    (ho : o.op = .call { callee := .builtin .append, args := #[s, x], argTypes := #[23, 23] }) (B : Nat) (v : Value) (l : List UInt8) (A : Option Addr) (c : Nat) (r : List UInt8) (hs : a.eval s = v) (hx : a.eval x = .slice A r.length c)
    (hown : OwnB w B v l) (hr : BRd w A r) (h0 : 0 < r.length) (hB : B ≤ w.heap.size) (hlim : l.length + r.length ≤ 140737488355328)
    (h : ∀ v' w', OwnB w' B v' (l ++ r) → Grw w w' v v' → wpList Try.prog ops Q rest (a.put o.dst v') w') : wpList Try.prog ops Q (o :: rest) a w := by
  obtain ⟨i0, hi, hz0, hz1, hz2⟩ := info_parts byteInfo
  obtain ⟨g, off, rfl, hg, hc⟩ := hr h0
  refine wpList_append_lies _ hgd s x 23 ho B 5 i0 (.int .u8 0) 1 1 Try.underlying23 hi hz0 hz1 hz2 rfl (by decide) v _ _ hs hown ⟨g, off, none⟩ r.length c (Lib.byteCells r) hx (by simp [Lib.byteCells]) (fun j u hj => by
      obtain ⟨hj', rfl⟩ := byteCells_get hj
      rw [Go.WideShapes.add_plain, hc j hj']) (fun u hu => by simp [Lib.byteCells] at hu; obtain ⟨c, _, rfl⟩ := hu; rfl) h0 (by unfold maxLen; omega) (by omega) hB _ rfl ?_
  intro g2 cap w1 hown1 hgrow hat hlt
  have e : Lib.byteCells l ++ Lib.byteCells r = Lib.byteCells (l ++ r) := by simp [Lib.byteCells]
  rw [e, show l.length + r.length = (l ++ r).length by simp] at hown1
  rw [show l.length + r.length = (l ++ r).length by simp]
  exact h _ w1 hown1 (Grw.lies hgrow hat)
theorem BRd.at {w : World} {g off : Nat} {l : List UInt8} (h : BRd w (some ⟨g, off, none⟩) l) (k : Nat) (hk : k < l.length) : w.cell? ⟨g, off + k, none⟩ = some (.int .u8 (l[k].toNat : Int)) := by
  obtain ⟨g', off', e, _, hc⟩ := h (by omega)
  obtain ⟨rfl, rfl⟩ : g = g' ∧ off = off' := by simpa using e
  exact hc k hk
theorem brd_two (w : World) (T : TypeId) (c d : UInt8) : BRd (w.alloc (.cells #[.int .u8 (c.toNat : Int), .int .u8 (d.toNat : Int)] T)) (some ⟨w.heap.size, 0, none⟩) [c, d] := fun _ => by
  refine ⟨_, _, rfl, by simp, fun i hi => ?_⟩
  match i, hi with
  | 0, _ => exact World.cell?_alloc_at _ _ _ _ rfl
  | 1, _ => exact World.cell?_alloc_at _ _ _ _ rfl
end Go.Proofs.Ytpdffcopigajgaa
