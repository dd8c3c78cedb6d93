/-
  What is read as a piece.
-/
import Derived.Test.YtdjppchcnbfcoaaCPiece
namespace Go.Proofs.Ytdjppchcnbfcoaa
open Go.ChangeShapes Go.WideShapes Go.ChangeAt Go.RowKit
set_option linter.unusedVariables false

/-- The number, the text, how many bytes are taken, and the error. -/
def rdP (k : Nat) (l : List UInt8) : Int × List UInt8 × Nat × Int :=
  if k % 4 = 0 then ((rdI l).1, [], (rdI l).2.1, (rdI l).2.2)
  else if k % 4 = 3 then (if (rdF l).1 then 1 else 0, [], (rdF l).2.1, (rdF l).2.2)
  else (0, (rdB l).1, (rdB l).2.1, (rdB l).2.2)
def FromPost (k g q : Nat) (l : List UInt8) (w : World) (e : Ending) (w' : World) : Prop :=
  e = .returned (.tuple #[.agg #[.int .u8 k, .int .i64 (rdP k l).1, .string ⟨(rdP k l).2.1.toArray⟩], .int .i64 (rdP k l).2.2.2]) ∧ RdS w' g q (l.drop (rdP k l).2.2.1) ∧ RGr w w' g
theorem cells3 {w : World} {g : Nat} {a0 a1 a2 : Value} {t : TypeId} (h : w.heap[g]? = some (.cells #[a0, a1, a2] t (0, 0))) :
    (w.cell? ⟨g, 0, none⟩ = some a0 ∧ w.cell? ⟨g, 1, none⟩ = some a1 ∧ w.cell? ⟨g, 2, none⟩ = some a2) ∧ w.frozen? ⟨g, 0, none⟩ = false ∧ w.frozen? ⟨g, 1, none⟩ = false ∧ w.frozen? ⟨g, 2, none⟩ = false := by
  refine ⟨⟨?_, ?_, ?_⟩, ?_, ?_, ?_⟩
  · rw [cell_of_row w g _ _ t (0, 0) h]; rfl
  · rw [cell_of_row w g _ _ t (0, 0) h]; rfl
  · rw [cell_of_row w g _ _ t (0, 0) h]; rfl
  · simp [World.frozen?, h]
  · simp [World.frozen?, h]
  · simp [World.frozen?, h]

theorem RdS.set {w : World} {g q b o : Nat} {l : List UInt8} (h : RdS w g q l) (u : Value) (hb : b ≠ g) (hq : b ≠ q) : RdS (w.setCell ⟨b, o, none⟩ u) g q l := by
  obtain ⟨A, cap, h1, h2, h3, hn, h4⟩ := h
  refine ⟨A, cap, (Below.heap_setCell _ _ _ _ (fun e => hb e.symm)).trans h1, fun h0 => ?_, h3, hn, fun a e => ⟨(h4 a e).1, (h4 a e).2.1, by simpa [World.setCell] using (h4 a e).2.2⟩⟩
  obtain ⟨q', off, e, hl, hc⟩ := h2 h0
  have hqq := (h4 _ e).1
  obtain rfl : q' = q := by simpa using hqq
  refine ⟨q', off, e, by simpa [World.setCell] using hl, fun i hi => ?_⟩
  rw [World.cell?_of_block (w := w) (a := ⟨q', off + i, none⟩) (Below.heap_setCell _ _ _ _ (fun e => hq e.symm)), hc i hi]
theorem RGr.setb {w w1 : World} {g b o : Nat} (h : RGr w w1 g) (u : Value) (hb : w.heap.size ≤ b) : RGr w (w1.setCell ⟨b, o, none⟩ u) g :=
  ⟨h.os, h.tape, h.output, by simpa [World.setCell] using h.size, fun k hk hg => (Below.heap_setCell _ _ _ _ (by simp; omega)).trans (h.block k hk hg)⟩
/-- The three boxes at the start, behind a call that writes the reader alone. -/
theorem boxes {w w1 : World} {a b c : Obj} {g : Nat} (hg : g < w.heap.size) (h : RGr (((w.alloc a).alloc b).alloc c) w1 g) : w1.heap[w.heap.size]? = some a ∧ w1.heap[w.heap.size + 1]? = some b ∧ w1.heap[w.heap.size + 2]? = some c := by
  have e1 : (w.alloc a).heap.size = w.heap.size + 1 := by simp
  have e2 : ((w.alloc a).alloc b).heap.size = w.heap.size + 2 := by simp
  have e3 : (((w.alloc a).alloc b).alloc c).heap.size = w.heap.size + 3 := by simp
  have n1 : ∀ (W : World) (o : Obj), (W.alloc o).heap[W.heap.size]? = some o := fun W o => Array.getElem?_push_size
  refine ⟨?_, ?_, ?_⟩
  · rw [h.block _ (by rw [e3]; omega) (by omega), Below.heap_alloc _ _ _ (by rw [e2]; omega), Below.heap_alloc _ _ _ (by rw [e1]; omega), n1]
  · rw [h.block _ (by rw [e3]; omega) (by omega), Below.heap_alloc _ _ _ (by rw [e2]; omega), ← e1, n1]
  · rw [h.block _ (by rw [e3]; omega) (by omega), ← e2, n1]
theorem alloc3 (w : World) (a b c : Obj) : Below w.heap.size w (((w.alloc a).alloc b).alloc c) := (((Below.refl _ _).alloc (Nat.le_refl _) _).alloc (by simp) _).alloc (by simp; omega) _

set_option maxHeartbeats 3200000 in
set_option maxRecDepth 100000 in
theorem from_any (p : PR) (hp : p.Ok) (w : World) (g q : Nat) (l : List UInt8) (h : RdS w g q l) (hl : l.length ≤ 140737488355328) (hq : q < w.heap.size) :
    Calls Try.prog 20 #[p.val, .pointer (some ⟨g, 0, none⟩)] w (FromPost p.k g q l w) := by
  obtain ⟨k, n, s⟩ := p
  obtain ⟨hk, hn, hs⟩ := hp
  simp only at hk hn hs
  unfold PR.val
  simp only
  have HI := Lib.hid (fun W (hW : RdS W g q l) => rInt_any W g q l hW hl)
  have HBY := Lib.hid (fun W (hW : RdS W g q l) => rBytes_any W g q l hW hl)
  have HTX := Lib.hid (fun W (hW : RdS W g q l) => rText_any W g q l hW hl)
  have HFL := Lib.hid (fun W (hW : RdS W g q l) => rFlag_any W g q l hW hl)
  have HS := Lib.hid h
  have hgl : g < w.heap.size := by obtain ⟨A, cap, h1, _⟩ := h; exact (Array.getElem?_eq_some_iff.1 h1).1
  clear h
  have hk0 : (0 : Int) ≤ (k : Int) := by omega
  rcases (by omega : k % 4 = 0 ∨ k % 4 = 1 ∨ k % 4 = 2 ∨ k % 4 = 3) with h4 | h4 | h4 | h4
  · have e4 : (k : Int) % 4 = 0 := by omega
    have HP : Hid (rdP k l = ((rdI l).1, [], (rdI l).2.1, (rdI l).2.2)) := if_pos h4
    unfold FromPost
    rw [HP.out]
    clear h4
    go_enter Try.func20, Try.ntmps20
    go_wp2_with fail
    refine (HI.out _ (HS.out.below (alloc3 _ _ _ _))).mono ?_
    rintro e w1 ⟨rfl, h1, h2⟩
    obtain ⟨b0, b1, b2⟩ := boxes hgl h2
    obtain ⟨⟨x0, x1, x2⟩, -, -, -⟩ := cells3 b0
    obtain ⟨⟨y0, y1, y2⟩, f0, f1, f2⟩ := cells3 b1
    obtain ⟨⟨z0, z1, z2⟩, g0, g1, g2⟩ := cells3 b2
    have hz := h2.size
    have hz2 : w.heap.size + 2 < w1.heap.size := by have := hz; simp at this; omega
    have H1 := Lib.hid h1
    have H2 := Lib.hid ((RGr.of_below (alloc3 _ _ _ _)).trans h2)
    clear b0 b1 b2 h1 h2
    go_wp2_with fail
    exact bodyPost_ret (v := .tuple #[.agg #[.int .u8 k, .int .i64 (rdI l).1, .string ⟨#[]⟩], .int .i64 (rdI l).2.2]) (by simp [results, Try.results20, go_sem, y0, y1, y2]) rfl ⟨rfl, by repeat' first | exact H1.out | refine RdS.set ?_ _ (by omega) (by omega), by repeat' first | exact H2.out | refine RGr.setb ?_ _ (by omega)⟩
  · have e4 : (k : Int) % 4 = 1 := by omega
    have HP : Hid (rdP k l = (0, (rdB l).1, (rdB l).2.1, (rdB l).2.2)) := by show _ = _; unfold rdP; rw [if_neg (by omega), if_neg (by omega)]
    unfold FromPost
    rw [HP.out]
    clear h4
    go_enter Try.func20, Try.ntmps20
    go_wp2_with fail
    refine (HBY.out _ (HS.out.below (alloc3 _ _ _ _))).mono ?_
    rintro e w1 ⟨v1, rfl, hown, h1, h2⟩
    have hcv := conv_own hown
    clear hown
    obtain ⟨b0, b1, b2⟩ := boxes hgl h2
    obtain ⟨⟨x0, x1, x2⟩, -, -, -⟩ := cells3 b0
    obtain ⟨⟨y0, y1, y2⟩, f0, f1, f2⟩ := cells3 b1
    obtain ⟨⟨z0, z1, z2⟩, g0, g1, g2⟩ := cells3 b2
    have hz := h2.size
    have hz2 : w.heap.size + 2 < w1.heap.size := by have := hz; simp at this; omega
    have H1 := Lib.hid h1
    have H2 := Lib.hid ((RGr.of_below (alloc3 _ _ _ _)).trans h2)
    clear b0 b1 b2 h1 h2
    go_wp2_with fail
    exact bodyPost_ret (v := .tuple #[.agg #[.int .u8 k, .int .i64 0, .string ⟨(rdB l).1.toArray⟩], .int .i64 (rdB l).2.2]) (by simp [results, Try.results20, go_sem, y0, y1, y2]) rfl ⟨rfl, by repeat' first | exact H1.out | refine RdS.set ?_ _ (by omega) (by omega), by repeat' first | exact H2.out | refine RGr.setb ?_ _ (by omega)⟩
  · have e4 : (k : Int) % 4 = 2 := by omega
    have HP : Hid (rdP k l = (0, (rdB l).1, (rdB l).2.1, (rdB l).2.2)) := by show _ = _; unfold rdP; rw [if_neg (by omega), if_neg (by omega)]
    unfold FromPost
    rw [HP.out]
    clear h4
    go_enter Try.func20, Try.ntmps20
    go_wp2_with fail
    refine (HTX.out _ (HS.out.below (alloc3 _ _ _ _))).mono ?_
    rintro e w1 ⟨rfl, h1, h2⟩
    obtain ⟨b0, b1, b2⟩ := boxes hgl h2
    obtain ⟨⟨x0, x1, x2⟩, -, -, -⟩ := cells3 b0
    obtain ⟨⟨y0, y1, y2⟩, f0, f1, f2⟩ := cells3 b1
    obtain ⟨⟨z0, z1, z2⟩, g0, g1, g2⟩ := cells3 b2
    have hz := h2.size
    have hz2 : w.heap.size + 2 < w1.heap.size := by have := hz; simp at this; omega
    have H1 := Lib.hid h1
    have H2 := Lib.hid ((RGr.of_below (alloc3 _ _ _ _)).trans h2)
    clear b0 b1 b2 h1 h2
    go_wp2_with fail
    exact bodyPost_ret (v := .tuple #[.agg #[.int .u8 k, .int .i64 0, .string ⟨(rdB l).1.toArray⟩], .int .i64 (rdB l).2.2]) (by simp [results, Try.results20, go_sem, y0, y1, y2]) rfl ⟨rfl, by repeat' first | exact H1.out | refine RdS.set ?_ _ (by omega) (by omega), by repeat' first | exact H2.out | refine RGr.setb ?_ _ (by omega)⟩
  · have e4 : (k : Int) % 4 = 3 := by omega
    have HP0 : Hid (rdP k l = (if (rdF l).1 then 1 else 0, [], (rdF l).2.1, (rdF l).2.2)) := by show _ = _; unfold rdP; rw [if_neg (by omega), if_pos h4]
    cases hb : (rdF l).1
    · have HP : Hid (rdP k l = (0, [], (rdF l).2.1, (rdF l).2.2)) := by show _ = _; rw [HP0.out, hb]; rfl
      clear HP0
      unfold FromPost
      rw [HP.out]
      clear h4
      go_enter Try.func20, Try.ntmps20
      go_wp2_with fail
      refine (HFL.out _ (HS.out.below (alloc3 _ _ _ _))).mono ?_
      rintro e w1 ⟨rfl, h1, h2⟩
      rw [hb]
      clear hb
      obtain ⟨b0, b1, b2⟩ := boxes hgl h2
      obtain ⟨⟨x0, x1, x2⟩, -, -, -⟩ := cells3 b0
      obtain ⟨⟨y0, y1, y2⟩, f0, f1, f2⟩ := cells3 b1
      obtain ⟨⟨z0, z1, z2⟩, g0, g1, g2⟩ := cells3 b2
      have hz := h2.size
      have hz2 : w.heap.size + 2 < w1.heap.size := by have := hz; simp at this; omega
      have H1 := Lib.hid h1
      have H2 := Lib.hid ((RGr.of_below (alloc3 _ _ _ _)).trans h2)
      clear b0 b1 b2 h1 h2
      go_wp2_with fail
      exact bodyPost_ret (v := .tuple #[.agg #[.int .u8 k, .int .i64 0, .string ⟨#[]⟩], .int .i64 (rdF l).2.2]) (by simp [results, Try.results20, go_sem, y0, y1, y2]) rfl ⟨rfl, by repeat' first | exact H1.out | refine RdS.set ?_ _ (by omega) (by omega), by repeat' first | exact H2.out | refine RGr.setb ?_ _ (by omega)⟩
    · have HP : Hid (rdP k l = (1, [], (rdF l).2.1, (rdF l).2.2)) := by show _ = _; rw [HP0.out, hb]; rfl
      clear HP0
      unfold FromPost
      rw [HP.out]
      clear h4
      go_enter Try.func20, Try.ntmps20
      go_wp2_with fail
      refine (HFL.out _ (HS.out.below (alloc3 _ _ _ _))).mono ?_
      rintro e w1 ⟨rfl, h1, h2⟩
      rw [hb]
      clear hb
      obtain ⟨b0, b1, b2⟩ := boxes hgl h2
      obtain ⟨⟨x0, x1, x2⟩, -, -, -⟩ := cells3 b0
      obtain ⟨⟨y0, y1, y2⟩, f0, f1, f2⟩ := cells3 b1
      obtain ⟨⟨z0, z1, z2⟩, g0, g1, g2⟩ := cells3 b2
      have hz := h2.size
      have hz2 : w.heap.size + 2 < w1.heap.size := by have := hz; simp at this; omega
      have H1 := Lib.hid h1
      have H2 := Lib.hid ((RGr.of_below (alloc3 _ _ _ _)).trans h2)
      clear b0 b1 b2 h1 h2
      go_wp2_with fail
      exact bodyPost_ret (v := .tuple #[.agg #[.int .u8 k, .int .i64 1, .string ⟨#[]⟩], .int .i64 (rdF l).2.2]) (by simp [results, Try.results20, go_sem, y0, y1, y2]) rfl ⟨rfl, by repeat' first | exact H1.out | refine RdS.set ?_ _ (by omega) (by omega), by repeat' first | exact H2.out | refine RGr.setb ?_ _ (by omega)⟩
end Go.Proofs.Ytdjppchcnbfcoaa
