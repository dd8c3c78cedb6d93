/-
  Two slices that grow side by side; the world in which two wide sums lie; what taking turns comes to.
-/
import Derived.Test.YtflkljenkhjnfaaDoorGath
import Derived.Test.YtflkljenkhjnfaaDoorWide4
import Derived.Lib.SmallJoins
namespace Go.Proofs.YtflkljenkhjnfaaDoor
open Go.ChangeShapes Go.WideShapes Go.ChangeAt Go.RowKit
set_option linter.unusedVariables false

def ints (l : List Int) : List Value := l.map (Value.int .i64)
def Rows2 (W wr : World) (v7 v8 : Value) (N P : List Int) : Prop :=
  Below W.heap.size W wr ∧ wr.ownsRow W.heap.size 2 1 v7 N.length (ints N) ∧ wr.ownsRow W.heap.size 2 1 v8 P.length (ints P) ∧ ∀ g, v7.ownBlock = some g → v8.ownBlock ≠ some g
theorem Rows2.nil (W : World) : Rows2 W W (.slice none 0 0) (.slice none 0 0) [] [] :=
  ⟨Below.refl _ _, World.ownsRow_nil _ _ _ _, World.ownsRow_nil _ _ _ _, fun g h => by simp [Value.ownBlock] at h⟩
theorem Rows2.swap {W wr : World} {v7 v8 : Value} {N P : List Int} (h : Rows2 W wr v7 v8 N P) : Rows2 W wr v8 v7 P N :=
  ⟨h.1, h.2.2.1, h.2.1, fun g h8 h7 => h.2.2.2 g h7 h8⟩
theorem Rows2.left {W wr w1 : World} {v7 v8 : Value} {N P : List Int} (h : Rows2 W wr v7 v8 N P) {o : Obj} {g c : Nat} {n : Int}
    (hown : w1.ownsRow W.heap.size 2 1 (.slice (some ⟨g, 0, none⟩) (N.length + 1) c) (N.length + 1) (ints N ++ [.int .i64 n])) (hgrow : (wr.alloc o).grownBy w1 v7.ownBlock)
    (hat : v7.ownBlock = some g ∨ g = (wr.alloc o).heap.size) : Rows2 W w1 (.slice (some ⟨g, 0, none⟩) (N.length + 1) c) v8 (N ++ [n]) P := by
  obtain ⟨hb, h7, h8, hd⟩ := h
  refine ⟨(hb.alloc hb.size o).grown hgrow (by have := hb.size; simp; omega) (fun j hj => (h7.lt j hj).1), ?_, (h8.alloc o).kept hgrow ?_, ?_⟩
  · simpa [ints] using hown
  · cases e8 : v8.ownBlock with
    | none => exact .inl rfl
    | some k =>
      right
      intro e
      exact hd k e.symm e8
  · intro g' hg' h8'
    obtain rfl : g = g' := by simpa [Value.ownBlock] using hg'
    rcases hat with hat | hat
    · exact hd g hat h8'
    · have := (h8.lt g h8').2
      simp at hat
      omega
theorem row_read {wr : World} {B : Nat} {v : Value} {xs : List Int} (h : wr.ownsRow B 2 1 v xs.length (ints xs)) : ∃ A c, v = .slice A xs.length c ∧ IRd wr A xs ∧ xs.length ≤ c := by
  have hlt := h.lt
  have hc := @World.ownsRow.cells _ _ _ _ _ _ _ h
  have hcap : ∀ g cap, v = .slice (some ⟨g, 0, none⟩) xs.length cap → xs.length ≤ cap := by
    rintro g cap rfl
    rcases h.2 with ⟨e, _⟩ | ⟨g', cap', cur, e, _, _, hn, _⟩
    · cases e
    · cases e; exact hn
  rcases Joins.ownsRow_forms h with ⟨rfl, h0⟩ | ⟨g, cap, rfl⟩
  · exact ⟨none, 0, by rw [h0], fun hn => by omega, by omega⟩
  · refine ⟨some ⟨g, 0, none⟩, cap, rfl, fun hn => ⟨g, 0, rfl, (hlt g rfl).2, fun i hi => ?_⟩, hcap g cap rfl⟩
    have := hc (g := g) rfl i (.int .i64 xs[i]) (by simp [ints, hi])
    have e : (⟨g, 0, none⟩ : Addr).add i = ⟨g, 0 + i, none⟩ := by unfold Addr.add; split <;> simp_all
    rwa [e] at this
theorem IRd.tail {w : World} {b o : Nat} {a : Int} {N : List Int} (hb : b < w.heap.size) (h : ∀ i (h : i < (a :: N).length), w.cell? ⟨b, o + i, none⟩ = some (.int .i64 (a :: N)[i])) : IRd w (some ⟨b, o + 1, none⟩) N := fun _ =>
  ⟨b, o + 1, rfl, hb, fun i hi => by
    have := h (i + 1) (by simp; omega)
    rw [show o + (i + 1) = o + 1 + i by omega] at this
    simpa using this⟩
theorem IRd.tail2 {w : World} {b o c : Nat} {a : Int} {N : List Int} (hb : b < w.heap.size) (h : ∀ i (h : i < (a :: N).length), w.cell? ⟨b, o + i, none⟩ = some (.int .i64 (a :: N)[i])) (hc : (a :: N).length ≤ c) :
    IRd w (if c = 1 then some ⟨b, o, none⟩ else some ⟨b, o + 1, none⟩) N := fun hn => by
  have h1 : ¬ c = 1 := by rw [List.length_cons] at hc; omega
  rw [if_neg h1]
  exact IRd.tail hb h hn
def sliceLen : Value → Nat
  | .slice _ n _ => n
  | _ => 0

theorem turn_neg {s a : Int} (hs : In64 s) (ha : In64 a) (h0 : 0 ≤ s) (h1 : a < 0) : In64 (s + a) := by unfold In64 at *; omega
theorem turn_pos {s a : Int} (hs : In64 s) (ha : In64 a) (h0 : s < 0) (h1 : 0 ≤ a) : In64 (s + a) := by unfold In64 at *; omega
theorem far_neg {s a : Int} {N : List Int} (hs : In64 s) (ha : a < 0) (hN : ∀ z ∈ N, z < 0) (h : ¬ In64 (s + a)) : ¬ In64 (s + (a + N.sum)) := by
  have := sum_neg N hN
  unfold In64 at *; omega
theorem far_pos {s a : Int} {P : List Int} (hs : In64 s) (ha : 0 ≤ a) (hP : ∀ z ∈ P, 0 ≤ z) (h : ¬ In64 (s + a)) : ¬ In64 (s + (a + P.sum)) := by
  have := sum_pos P hP
  unfold In64 at *; omega

theorem co {w : World} {a b : Addr} {v x : Value} (h : a ≠ b) (hc : w.cell? b = some x) : (w.setCell a v).cell? b = some x := by
  rw [World.cell?_setCell_other _ _ _ _ h]; exact hc
theorem cs {w : World} {a : Addr} {v x : Value} (hc : w.cell? a = some x) : (w.setCell a v).cell? a = some v := World.cell?_setCell_same' w a v (by rw [hc]; rfl)
/-- Two wide numbers in two blocks of their own. -/
def GSt (w1 wr : World) (S T : Int) : Prop := Below w1.heap.size w1 wr ∧ w1.heap.size + 1 < wr.heap.size ∧
  wr.cell? ⟨w1.heap.size, 0, none⟩ = some (.int .i64 (hiOf S)) ∧ wr.cell? ⟨w1.heap.size, 1, none⟩ = some (.int .u64 (loOf S)) ∧
  wr.cell? ⟨w1.heap.size + 1, 0, none⟩ = some (.int .i64 (hiOf T)) ∧ wr.cell? ⟨w1.heap.size + 1, 1, none⟩ = some (.int .u64 (loOf T)) ∧
  wr.frozen? ⟨w1.heap.size, 0, none⟩ = false ∧ wr.frozen? ⟨w1.heap.size, 1, none⟩ = false ∧ wr.frozen? ⟨w1.heap.size + 1, 0, none⟩ = false ∧ wr.frozen? ⟨w1.heap.size + 1, 1, none⟩ = false
theorem GSt.start (w1 : World) : GSt w1 ((w1.alloc (.cells #[.int .i64 0, .int .u64 0] 48)).alloc (.cells #[.int .i64 0, .int .u64 0] 48)) 0 0 := by
  have hB : Below w1.heap.size w1 ((w1.alloc (.cells #[.int .i64 0, .int .u64 0] 48)).alloc (.cells #[.int .i64 0, .int .u64 0] 48)) := ((Below.refl _ _).alloc (Nat.le_refl _) _).alloc (by simp) _
  have e0 : hiOf 0 = 0 := by simp [hiOf, wrap64]
  have e1 : loOf 0 = 0 := by simp [loOf]
  refine ⟨hB, by simp, ?_, ?_, ?_, ?_, ?_, ?_, ?_, ?_⟩
  · rw [World.cell?_alloc_past _ _ _ (by simp), World.cell?_alloc_at _ _ _ _ rfl, e0]; rfl
  · rw [World.cell?_alloc_past _ _ _ (by simp), World.cell?_alloc_at _ _ _ _ rfl, e1]; rfl
  · rw [World.cell?_alloc_at _ _ _ _ (by simp), e0]; rfl
  · rw [World.cell?_alloc_at _ _ _ _ (by simp), e1]; rfl
  · rw [World.frozen?_alloc_past _ _ _ (by simp)]; exact World.frozen?_alloc_at _ _ _ _ rfl
  · rw [World.frozen?_alloc_past _ _ _ (by simp)]; exact World.frozen?_alloc_at _ _ _ _ rfl
  · exact World.frozen?_alloc_at _ _ _ _ (by simp)
  · exact World.frozen?_alloc_at _ _ _ _ (by simp)
theorem GSt.far {w1 wr w' : World} {S T : Int} (h : GSt w1 wr S T) (hb : Below wr.heap.size wr w') : GSt w1 w' S T := by
  obtain ⟨h1, h2, c0, c1, d0, d1, f0, f1, g0, g1⟩ := h
  have b := bcell hb
  exact ⟨h1.trans (hb.mono h1.size), Nat.lt_of_lt_of_le h2 hb.size, (b.1 _ _ (by omega)).trans c0, (b.1 _ _ (by omega)).trans c1, (b.1 _ _ (by omega)).trans d0, (b.1 _ _ (by omega)).trans d1,
    (b.2 _ _ (by omega)).trans f0, (b.2 _ _ (by omega)).trans f1, (b.2 _ _ (by omega)).trans g0, (b.2 _ _ (by omega)).trans g1⟩
theorem GSt.set0 {w1 w3 : World} {S T : Int} (X : Int) (h : GSt w1 w3 S T) : GSt w1 ((w3.setCell ⟨w1.heap.size, 0, none⟩ (.int .i64 (hiOf X))).setCell ⟨w1.heap.size, 1, none⟩ (.int .u64 (loOf X))) X T := by
  obtain ⟨h1, h2, c0, c1, d0, d1, f0, f1, g0, g1⟩ := h
  refine ⟨(h1.setCell (Nat.le_refl _) _).setCell (Nat.le_refl _) _, by simp; omega, co (by simp) (cs c0), cs (co (by simp) c1),
    co (by simp) (co (by simp) d0), co (by simp) (co (by simp) d1), by simpa using f0, by simpa using f1, by simpa using g0, by simpa using g1⟩
theorem GSt.set1 {w1 w3 : World} {S T : Int} (X : Int) (h : GSt w1 w3 S T) : GSt w1 ((w3.setCell ⟨w1.heap.size + 1, 0, none⟩ (.int .i64 (hiOf X))).setCell ⟨w1.heap.size + 1, 1, none⟩ (.int .u64 (loOf X))) S X := by
  obtain ⟨h1, h2, c0, c1, d0, d1, f0, f1, g0, g1⟩ := h
  refine ⟨(h1.setCell (by simp) _).setCell (by simp) _, by simp; omega, co (by simp) (co (by simp) c0), co (by simp) (co (by simp) c1),
    co (by simp) (cs d0), cs (co (by simp) d1), by simpa using f0, by simpa using f1, by simpa using g0, by simpa using g1⟩
end Go.Proofs.YtflkljenkhjnfaaDoor
