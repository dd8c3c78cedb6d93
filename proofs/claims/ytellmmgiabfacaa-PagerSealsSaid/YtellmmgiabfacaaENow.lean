/-
  The document's disk, as it lies in memory; what a file has (Now); may, Down, Calls, New.
-/
import Derived.Test.YtellmmgiabfacaaEDone
import Derived.Test.YtellmmgiabfacaaDCrashB
namespace Go.Proofs.Ytellmmgiabfacaa
open Go.ChangeShapes Go.WideShapes Go.ChangeAt Go.RowKit
set_option linter.unusedVariables false

def PV.cells4 (q : PV) : List Value := [.int .i64 q.p.file, .bool q.p.cut, .int .i64 q.p.pos, .slice q.A q.p.b.length q.c]
def row4 (qs : List PV) : List Value := qs.flatMap PV.cells4
theorem row4_len (qs : List PV) : (row4 qs).length = qs.length * 4 := by
  unfold row4
  induction qs with
  | nil => rfl
  | cons q qs ih => simp [PV.cells4, ih]; omega
theorem row4_app (a b : List PV) : row4 (a ++ b) = row4 a ++ row4 b := by simp [row4]
theorem row4_at (qs : List PV) (i : Nat) (h : i < qs.length) : (row4 qs)[i * 4]? = some (.int .i64 qs[i].p.file) ∧ (row4 qs)[i * 4 + 1]? = some (.bool qs[i].p.cut) ∧ (row4 qs)[i * 4 + 2]? = some (.int .i64 qs[i].p.pos) ∧ (row4 qs)[i * 4 + 3]? = some (.slice qs[i].A qs[i].p.b.length qs[i].c) := by
  induction qs generalizing i with
  | nil => simp at h
  | cons q qs ih =>
    cases i with
    | zero => simp [row4, PV.cells4]
    | succ i =>
      have h' : i < qs.length := by simpa using h
      have := ih i h'
      have e1 : (i + 1) * 4 = i * 4 + 4 := by omega
      have e3 : row4 (q :: qs) = PV.cells4 q ++ row4 qs := by simp [row4]
      rw [e3, e1]
      simpa [PV.cells4] using this
def rbox (s : St) (a : Nat → Option Addr) (k : Nat → Nat) (pc : Value) (ka : Option Addr) (kc : Nat) (ks : List Bool) : Array Value := #[.slice (a 0) (s.sure 0).length (k 0), .slice (a 1) (s.sure 1).length (k 1), pc, .int .i64 s.fuse, .slice ka ks.length kc, .int .i64 s.calls, .bool s.down]
theorem BRd.fr' {F : Nat → Prop} {w w' : World} {A : Option Addr} {l : List UInt8} (h : BRd w A l) (hf : Fr F w w') (hn : 0 < l.length → ∀ a, A = some a → ¬ F a.block) : BRd w' A l := fun h0 => by
  obtain ⟨g, off, rfl, hl, hc⟩ := h h0
  refine ⟨g, off, rfl, Nat.lt_of_lt_of_le hl hf.size, fun i hi => ?_⟩
  rw [World.cell?_of_block (w := w) (w' := w') (a := ⟨g, off + i, none⟩) (hf.block g hl (hn h0 _ rfl))]
  exact hc i hi
/-- What it is, and what it reads. -/
def RX (g : Nat) (pc : Value) (R : Nat → Prop) : Nat → Prop := fun j => j = g ∨ pc.ownBlock = some j ∨ R j
def RF (g : Nat) (pc : Value) : Nat → Prop := fun j => j = g ∨ pc.ownBlock = some j
/-- What a call of the document's disk leaves. -/
structure RTurn (w w' : World) (g : Nat) (pc : Value) (R : Nat → Prop) (pc' : Value) (R' : Nat → Prop) : Prop where
  fr : Fr (RF g pc) w w'
  newp : ∀ j, j < w.heap.size → pc'.ownBlock = some j → pc.ownBlock = some j
  newR : ∀ j, j < w.heap.size → R' j → R j
theorem RTurn.refl (w : World) (g : Nat) (pc : Value) (R : Nat → Prop) : RTurn w w g pc R pc R := ⟨.refl _ _, fun _ _ h => h, fun _ _ h => h⟩
theorem RTurn.trans {w w1 w2 : World} {g : Nat} {pc pc1 pc2 : Value} {R R1 R2 : Nat → Prop} (h : RTurn w w1 g pc R pc1 R1) (k : RTurn w1 w2 g pc1 R1 pc2 R2) : RTurn w w2 g pc R pc2 R2 :=
  ⟨h.fr.trans' k.fr fun j hj hd => hd.imp id (h.newp j hj), fun j hj hd => h.newp j hj (k.newp j (Nat.lt_of_lt_of_le hj h.fr.size) hd), fun j hj hd => h.newR j hj (k.newR j (Nat.lt_of_lt_of_le hj h.fr.size) hd)⟩
theorem RTurn.set (w : World) (g i : Nat) (u : Value) (pc : Value) (R : Nat → Prop) : RTurn w (w.setCell ⟨g, i, none⟩ u) g pc R pc R := ⟨Fr.set _ _ _ _ (.inl rfl), fun _ _ h => h, fun _ _ h => h⟩
theorem RTurn.below {w w' : World} {g : Nat} {pc : Value} {R : Nat → Prop} (h : Below w.heap.size w w') : RTurn w w' g pc R pc R := ⟨.of_below h, fun _ _ h => h, fun _ _ h => h⟩
theorem box7 {w : World} {g : Nat} {a0 a1 a2 a3 a4 a5 a6 : Value} {T : TypeId} (h : w.heap[g]? = some (.cells #[a0, a1, a2, a3, a4, a5, a6] T (0, 0))) :
    (w.cell? ⟨g, 0, none⟩ = some a0 ∧ w.cell? ⟨g, 1, none⟩ = some a1 ∧ w.cell? ⟨g, 2, none⟩ = some a2 ∧ w.cell? ⟨g, 3, none⟩ = some a3 ∧ w.cell? ⟨g, 4, none⟩ = some a4 ∧ w.cell? ⟨g, 5, none⟩ = some a5 ∧ w.cell? ⟨g, 6, none⟩ = some a6) ∧ ∀ i, w.frozen? ⟨g, i, none⟩ = false := by
  simp [World.cell?, World.frozen?, h]
theorem row_sliceV {w : World} {B : Nat} {e : TypeId} {sz : Nat} {v : Value} {n : Nat} {xs : List Value} (h : w.ownsRow B e sz v n xs) : ∃ p c, v = .slice p n c := by
  rcases h.2 with ⟨rfl, h0⟩ | ⟨g, cap, cur, rfl, _⟩
  · exact ⟨none, 0, by rw [h0]⟩
  · exact ⟨_, _, rfl⟩
/-- Of what Now answers: bytes that are read, or new. -/
def Shown (R : Nat → Prop) (l : List UInt8) (w : World) (e : Ending) (w' : World) : Prop := ∃ a n k, e = .returned (.slice a n k) ∧ n = l.length ∧ l.length ≤ k ∧ BRd w' a l ∧ (0 < l.length → ∀ x, a = some x → R x.block ∨ w.heap.size ≤ x.block ∧ x.block < w'.heap.size) ∧ Below w.heap.size w w'
theorem foldF_at (f : Nat) (qs : List PV) (j : Nat) (h : j < qs.length) (l : List UInt8) : foldF f ((qs.take (j + 1)).map PV.p) l = if qs[j].p.file = f then qs[j].p.ap (foldF f ((qs.take j).map PV.p) l) else foldF f ((qs.take j).map PV.p) l := by
  rw [List.take_succ_eq_append_getElem h, List.map_append, foldF_app]
  rfl

end Go.Proofs.Ytellmmgiabfacaa
