/-
  Contracts of codec.Reader.
-/
import Derived.Test.YtdjppchcnbfcoaaCWr2
import Derived.Test.YtdjppchcnbfcoaaCTakeI
import Derived.Test.YtdjppchcnbfcoaaCTakeB
namespace Go.Proofs.Ytdjppchcnbfcoaa
open Go.ChangeShapes Go.WideShapes Go.ChangeAt Go.RowKit
set_option linter.unusedVariables false

/-- A reader that NewReader made, in the block g; its bytes lie in the block q. -/
def RdS (w : World) (g q : Nat) (l : List UInt8) : Prop := ∃ A cap, w.heap[g]? = some (.cells #[.bool true, .slice A l.length cap] 70 (0, 0)) ∧ BRd w A l ∧ l.length ≤ cap ∧ (A = none → cap = 0) ∧ ∀ a, A = some a → a = ⟨q, a.off, none⟩ ∧ q ≠ g ∧ q < w.heap.size
/-- Of the blocks that were there only g is written. -/
structure RGr (w w' : World) (g : Nat) : Prop where
  os : w'.os = w.os
  tape : w'.tape = w.tape
  output : w'.output = w.output
  size : w.heap.size ≤ w'.heap.size
  block : ∀ k, k < w.heap.size → k ≠ g → w'.heap[k]? = w.heap[k]?
theorem RGr.of_below {w w' : World} {g : Nat} (hb : Below w.heap.size w w') : RGr w w' g := ⟨hb.os, hb.tape, hb.output, hb.size, fun k hk _ => hb.block k hk⟩
theorem RGr.trans {w w1 w2 : World} {g : Nat} (h : RGr w w1 g) (k : RGr w1 w2 g) : RGr w w2 g :=
  ⟨k.os.trans h.os, k.tape.trans h.tape, k.output.trans h.output, Nat.le_trans h.size k.size, fun j hj hg => (k.block j (Nat.lt_of_lt_of_le hj h.size) hg).trans (h.block j hj hg)⟩
theorem RGr.set {w : World} {g : Nat} (v : Value) : RGr w (w.setCell ⟨g, 1, none⟩ v) g := ⟨rfl, rfl, rfl, by simp [World.setCell], fun k hk hg => Below.heap_setCell _ _ _ _ hg⟩
theorem box_set {w : World} {g : Nat} {a0 a1 b : Value} {t : TypeId} (h : w.heap[g]? = some (.cells #[a0, a1] t (0, 0))) : (w.setCell ⟨g, 1, none⟩ b).heap[g]? = some (.cells #[a0, b] t (0, 0)) := by
  simp only [World.setCell, Array.getElem?_modify, if_pos, h, Option.map_some]
  rfl
theorem RdS.below {w w' : World} {g q : Nat} {l : List UInt8} (h : RdS w g q l) (hb : Below w.heap.size w w') : RdS w' g q l := by
  obtain ⟨A, cap, h1, h2, h3, hn, h4⟩ := h
  have hg : g < w.heap.size := (Array.getElem?_eq_some_iff.1 h1).1
  exact ⟨A, cap, (hb.block g hg).trans h1, h2.below hb, h3, hn, fun a e => ⟨(h4 a e).1, (h4 a e).2.1, Nat.lt_of_lt_of_le (h4 a e).2.2 hb.size⟩⟩

set_option maxHeartbeats 1600000 in
theorem newReader_any (A : Option Addr) (c : Nat) (l : List UInt8) (w : World) (hA : BRd w A l) (hl : l.length ≤ 140737488355328) :
    Calls Try.prog 19 #[.slice A l.length c] w fun e w' => ∃ g q, e = .returned (.pointer (some ⟨g, 0, none⟩)) ∧ w.heap.size ≤ g ∧ w.heap.size ≤ q ∧ q < w'.heap.size ∧ RdS w' g q l ∧ Below w.heap.size w w' := by
  have HC := Lib.hid (clone_any A c l w hA hl)
  clear hA
  go_enter Try.func19, Try.ntmps19
  go_wp2_with fail
  refine HC.out.mono ?_
  rintro e w1 ⟨v1, rfl, hown, hb⟩
  obtain ⟨a, cap, rfl, hcap, hcn⟩ := hown.slice
  have HO := Lib.hid hown
  have HB := Lib.hid hb
  have HCP := Lib.hid hcap
  have HCN := Lib.hid hcn
  have hBr : w.heap.size ≤ w1.heap.size := hb.size
  clear hown hb hcap hcn
  go_wp2_with fail
  go_ret
  cases a with
  | none => exact ⟨w1.heap.size, w1.heap.size, rfl, hBr, hBr, by simp, ⟨none, cap, heap_alloc_new w1 _, HO.out.brd.alloc _, HCP.out, HCN.out, fun a e => by cases e⟩, HB.out.alloc hBr _⟩
  | some a =>
    have h := World.ownsRow.lt HO.out a.block rfl
    have ha : a = ⟨a.block, a.off, none⟩ := by
      rcases HO.out.2 with ⟨h2, _⟩ | ⟨g, c2, cur, h2, _⟩
      · cases h2
      · cases h2; rfl
    exact ⟨w1.heap.size, a.block, rfl, hBr, h.1, by simp; omega, ⟨some a, cap, heap_alloc_new w1 _, HO.out.brd.alloc _, HCP.out, HCN.out, fun a' e => by
      obtain rfl := Option.some.inj e
      exact ⟨ha, Nat.ne_of_lt h.2, by simp; omega⟩⟩, HB.out.alloc hBr _⟩
theorem isMade_any (w : World) (g q : Nat) (l : List UInt8) (h : RdS w g q l) :
    Calls Try.prog 48 #[.pointer (some ⟨g, 0, none⟩)] w fun e w' => e = .returned (.bool true) ∧ w = w' := by
  obtain ⟨A, cap, h1, h2, h3, hn, h4⟩ := h
  obtain ⟨c0, c1, f0, f1⟩ := box_cell h1
  clear h1 h2 h3 h4 hn
  go_enter Try.func48, Try.ntmps48
  go_wp2
  go_ret
  exact ⟨rfl, rfl⟩
theorem left_any (w : World) (g q : Nat) (l : List UInt8) (h : RdS w g q l) :
    Calls Try.prog 24 #[.pointer (some ⟨g, 0, none⟩)] w fun e w' => e = .returned (.int .i64 l.length) ∧ w = w' := by
  obtain ⟨A, cap, h1, h2, h3, hn, h4⟩ := h
  obtain ⟨c0, c1, f0, f1⟩ := box_cell h1
  clear h1 h2 h3 h4 hn
  go_enter Try.func24, Try.ntmps24
  go_wp2
  go_ret
  exact ⟨rfl, rfl⟩
theorem end_any (w : World) (g q : Nat) (l : List UInt8) (h : RdS w g q l) :
    Calls Try.prog 25 #[.pointer (some ⟨g, 0, none⟩)] w fun e w' => e = .returned (.int .i64 (if l.length = 0 then 0 else 32)) ∧ w = w' := by
  have HM := Lib.hid (isMade_any w g q l h)
  obtain ⟨A, cap, h1, h2, h3, hn, h4⟩ := h
  obtain ⟨c0, c1, f0, f1⟩ := box_cell h1
  clear h1 h2 h3 h4 hn
  by_cases h0 : l.length = 0
  · rw [if_pos h0]
    have hI : ¬ (0 < (l.length : Int)) := by omega
    have hI2 : ¬ (0 < l.length) := by omega
    clear h0
    go_enter Try.func25, Try.ntmps25
    go_wp2_with (go_at_call 48; refine HM.out.mono ?_; rintro e w' ⟨rfl, rfl⟩)
    go_ret
    exact ⟨rfl, rfl⟩
  · rw [if_neg h0]
    have hI : (0 < (l.length : Int)) := by omega
    have hI2 : (0 < l.length) := by omega
    clear h0
    go_enter Try.func25, Try.ntmps25
    go_wp2_with (go_at_call 48; refine HM.out.mono ?_; rintro e w' ⟨rfl, rfl⟩)
    go_ret
    exact ⟨rfl, rfl⟩
theorem rdI_len {b : List UInt8} {n : Int} {k : Nat} {e : Int} (h : rdI b = (n, k, e)) : k ≤ b.length := by
  by_cases he : e = 0
  · subst he
    obtain ⟨_, h1, x, h2⟩ := rd_sound b n k h
    rw [h2, List.length_append, ← h1]
    omega
  · have := rd_none b n k e h he
    omega
/-- What is left behind k bytes, as the walk writes it. -/
theorem RdS.moved {w : World} {g q k cap off : Nat} {l : List UInt8} (A' : Option Addr) (h1 : w.heap[g]? = some (.cells #[.bool true, .slice (some ⟨q, off, none⟩) l.length cap] 70 (0, 0))) (h2 : BRd w (some ⟨q, off, none⟩) l) (h3 : l.length ≤ cap) (hk : k ≤ l.length) (hq : q ≠ g) (hqs : q < w.heap.size) (n' c' : Nat) (hn : n' = l.length - k) (hc : c' = cap - k)
    (hA : A' = some ⟨q, off + k, none⟩ ∨ (cap = k ∧ A' = some ⟨q, off, none⟩)) : RdS (w.setCell ⟨g, 1, none⟩ (.slice A' n' c')) g q (l.drop k) ∧ RGr w (w.setCell ⟨g, 1, none⟩ (.slice A' n' c')) g := by
  subst hn hc
  refine ⟨⟨A', cap - k, ?_, ?_, ?_, ?_, ?_⟩, RGr.set _⟩
  · rw [List.length_drop]; exact box_set h1
  · intro hn0
    rw [List.length_drop] at hn0
    obtain ⟨q', off', e, hg, hc⟩ := h2 (by omega)
    obtain ⟨rfl, rfl⟩ : q = q' ∧ off = off' := by simpa using e
    have hA2 : A' = some ⟨q, off + k, none⟩ := by
      rcases hA with h | ⟨h, _⟩
      · exact h
      · omega
    refine ⟨q, off + k, hA2, by simpa [World.setCell] using hg, fun i hi => ?_⟩
    rw [List.length_drop] at hi
    rw [World.cell?_of_block (w := w) (a := ⟨q, off + k + i, none⟩) (Below.heap_setCell _ _ _ _ hq), Nat.add_assoc, hc (k + i) (by omega)]
    simp
  · rw [List.length_drop]; omega
  · rcases hA with h | ⟨_, h⟩ <;> (rw [h]; intro e; cases e)
  · intro a e
    rcases hA with h | ⟨_, h⟩ <;> (rw [h] at e; obtain rfl := Option.some.inj e; exact ⟨rfl, hq, by simpa [World.setCell] using hqs⟩)
theorem RdS.moved0 {w : World} {g q : Nat} (h1 : w.heap[g]? = some (.cells #[.bool true, .slice none 0 0] 70 (0, 0))) : RdS (w.setCell ⟨g, 1, none⟩ (.slice none 0 0)) g q (([] : List UInt8).drop 0) :=
  ⟨none, 0, box_set h1, BRd.nil _ _, Nat.le_refl _, fun _ => rfl, fun a e => by cases e⟩
def RIPost (g q : Nat) (l : List UInt8) (w : World) (e : Ending) (w' : World) : Prop := e = .returned (.tuple #[.int .i64 (rdI l).1, .int .i64 (rdI l).2.2]) ∧ RdS w' g q (l.drop (rdI l).2.1) ∧ RGr w w' g

set_option maxHeartbeats 1600000 in
theorem rInt_any (w : World) (g q : Nat) (l : List UInt8) (h : RdS w g q l) (hl : l.length ≤ 140737488355328) :
    Calls Try.prog 43 #[.pointer (some ⟨g, 0, none⟩)] w (RIPost g q l w) := by
  have HM := Lib.hid (isMade_any w g q l h)
  obtain ⟨A, cap, h1, h2, h3, hn, h4⟩ := h
  have HT := Lib.hid (takeInt_any A cap l w h2 hl h3)
  obtain ⟨c0, c1, f0, f1⟩ := box_cell h1
  unfold TakeI at HT
  unfold RIPost
  rcases hr : rdI l with ⟨n, k, er⟩
  have hk := rdI_len hr
  rw [hr] at HT
  simp only at HT
  simp only
  clear hr
  have H1 := Lib.hid h1
  have H2 := Lib.hid h2
  cases A with
  | none =>
    obtain rfl := hn rfl
    have hl0 : l = [] := List.length_eq_zero_iff.1 (by omega)
    subst hl0
    obtain rfl : k = 0 := by simpa using hk
    clear h1 h2 h3 h4 hn hk
    go_enter Try.func43, Try.ntmps43
    go_wp2_with (first | (go_at_call 48; refine HM.out.mono ?_; rintro e w' ⟨rfl, rfl⟩) | (go_at_call 63; refine HT.out.mono ?_; rintro e w' ⟨rfl, rfl⟩))
    go_ret2
    exact ⟨rfl, RdS.moved0 H1.out, RGr.set _⟩
  | some a =>
    obtain ⟨ha, hq, hqs⟩ := h4 a rfl
    obtain ⟨qb, off, sp⟩ := a
    simp only [Addr.mk.injEq] at ha
    obtain ⟨rfl, -, rfl⟩ := ha
    have HQ := Lib.hid hq
    have HH3 := Lib.hid h3
    have HKL := Lib.hid hk
    have hkI : (k : Int) ≤ (l.length : Int) := by omega
    have hkc : (k : Int) ≤ (cap : Int) := by omega
    have hlc : (l.length : Int) ≤ (cap : Int) := by omega
    by_cases hck : cap = k
    · obtain rfl : k = cap := hck.symm
      have hlk : l.length = k := by omega
      have HLK := Lib.hid hlk
      clear h1 h2 h3 h4 hn hk hq hlk
      go_enter Try.func43, Try.ntmps43
      go_wp2_with (first | (go_at_call 48; refine HM.out.mono ?_; rintro e w' ⟨rfl, rfl⟩) | (go_at_call 63; refine HT.out.mono ?_; rintro e w' ⟨rfl, rfl⟩))
      go_ret2
      exact ⟨rfl, RdS.moved _ H1.out H2.out HH3.out HKL.out HQ.out hqs _ _ (by omega) (by omega) (.inr ⟨rfl, rfl⟩)⟩
    · clear h1 h2 h3 h4 hn hk hq
      go_enter Try.func43, Try.ntmps43
      go_wp2_with (first | (go_at_call 48; refine HM.out.mono ?_; rintro e w' ⟨rfl, rfl⟩) | (go_at_call 63; refine HT.out.mono ?_; rintro e w' ⟨rfl, rfl⟩))
      go_ret2
      exact ⟨rfl, RdS.moved _ H1.out H2.out HH3.out HKL.out HQ.out hqs _ _ rfl rfl (.inl rfl)⟩
end Go.Proofs.Ytdjppchcnbfcoaa
