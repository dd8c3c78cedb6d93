/-
  Contracts of codec.Reader: Bytes, Text, Flag.
-/
import Derived.Test.YtdjppchcnbfcoaaCRdr
import Derived.Test.YtdjppchcnbfcoaaCWr3
import Derived.Lib.BufferRead
namespace Go.Proofs.Ytdjppchcnbfcoaa
open Go.ChangeShapes Go.WideShapes Go.ChangeAt Go.RowKit
set_option linter.unusedVariables false

def RBPost (g q : Nat) (l : List UInt8) (w : World) (e : Ending) (w' : World) : Prop := ∃ v', e = .returned (.tuple #[v', .int .i64 (rdB l).2.2]) ∧ OwnB w' w.heap.size v' (rdB l).1 ∧ RdS w' g q (l.drop (rdB l).2.1) ∧ RGr w w' g
theorem OwnB.far {w : World} {B g : Nat} {v u : Value} {l : List UInt8} (h : OwnB w B v l) (hg : g < B) : OwnB (w.setCell ⟨g, 1, none⟩ u) B v l :=
  h.same fun k hk e => Below.heap_setCell _ _ _ _ fun e2 => by
    have := (World.ownsRow.lt h k e).1
    simp at e2
    omega

set_option maxHeartbeats 1600000 in
theorem rBytes_any (w : World) (g q : Nat) (l : List UInt8) (h : RdS w g q l) (hl : l.length ≤ 140737488355328) :
    Calls Try.prog 39 #[.pointer (some ⟨g, 0, none⟩)] w (RBPost g q l w) := by
  have HM := Lib.hid (isMade_any w g q l h)
  obtain ⟨A, cap, h1, h2, h3, hn, h4⟩ := h
  have HT := Lib.hid (takeBytes_any A cap l w h2 hl)
  obtain ⟨c0, c1, f0, f1⟩ := box_cell h1
  have hgl : g < w.heap.size := (Array.getElem?_eq_some_iff.1 h1).1
  unfold TakeB at HT
  unfold RBPost
  rcases hr : rdB l with ⟨x, k, er⟩
  have hk := (rdB_len hr).2
  rw [hr] at HT
  simp only at HT
  simp only
  clear hr
  have H1 := Lib.hid h1
  have H2 := Lib.hid h2
  cases A with
  | none =>
    obtain rfl := hn rfl
    have hl0 : l = [] := List.length_eq_zero_iff.1 (by omega)
    subst hl0
    obtain rfl : k = 0 := by simpa using hk
    clear h1 h2 h3 h4 hn hk
    go_enter Try.func39, Try.ntmps39
    go_wp2_with (first | (go_at_call 48; refine HM.out.mono ?_; rintro e w' ⟨rfl, rfl⟩))
    refine HT.out.mono ?_
    rintro e w1 ⟨v1, rfl, hown, hb⟩
    obtain ⟨a1, cap1, rfl, _, _⟩ := hown.slice
    have HO := Lib.hid hown
    have HB := Lib.hid hb
    have B1 := Lib.hid ((hb.block g hgl).trans H1.out)
    obtain ⟨d0, d1, e0, e1⟩ := box_cell B1.out
    clear hown hb c0 c1 f0 f1
    go_wp2_with fail
    go_ret2
    exact ⟨_, rfl, HO.out.far hgl, RdS.moved0 B1.out, (RGr.of_below HB.out).trans (RGr.set _)⟩
  | some a =>
    obtain ⟨ha, hq, hqs⟩ := h4 a rfl
    obtain ⟨qb, off, sp⟩ := a
    simp only [Addr.mk.injEq] at ha
    obtain ⟨rfl, -, rfl⟩ := ha
    have HQ := Lib.hid hq
    have HH3 := Lib.hid h3
    have HKL := Lib.hid hk
    have hkI : (k : Int) ≤ (l.length : Int) := by omega
    have hkc : (k : Int) ≤ (cap : Int) := by omega
    have hlc : (l.length : Int) ≤ (cap : Int) := by omega
    by_cases hck : cap = k
    · obtain rfl : k = cap := hck.symm
      have hlk : l.length = k := by omega
      have HLK := Lib.hid hlk
      clear h1 h2 h3 h4 hn hk hq hlk
      go_enter Try.func39, Try.ntmps39
      go_wp2_with (first | (go_at_call 48; refine HM.out.mono ?_; rintro e w' ⟨rfl, rfl⟩))
      refine HT.out.mono ?_
      rintro e w1 ⟨v1, rfl, hown, hb⟩
      obtain ⟨a1, cap1, rfl, _, _⟩ := hown.slice
      have HO := Lib.hid hown
      have HB := Lib.hid hb
      have B1 := Lib.hid ((hb.block g hgl).trans H1.out)
      have B2 := Lib.hid (H2.out.below hb)
      obtain ⟨d0, d1, e0, e1⟩ := box_cell B1.out
      clear hown hb c0 c1 f0 f1
      go_wp2_with fail
      go_ret2
      exact ⟨_, rfl, HO.out.far hgl, (RdS.moved _ B1.out B2.out HH3.out HKL.out HQ.out (Nat.lt_of_lt_of_le hqs HB.out.size) _ _ (by omega) (by omega) (.inr ⟨rfl, rfl⟩)).1, (RGr.of_below HB.out).trans (RGr.set _)⟩
    · clear h1 h2 h3 h4 hn hk hq
      go_enter Try.func39, Try.ntmps39
      go_wp2_with (first | (go_at_call 48; refine HM.out.mono ?_; rintro e w' ⟨rfl, rfl⟩))
      refine HT.out.mono ?_
      rintro e w1 ⟨v1, rfl, hown, hb⟩
      obtain ⟨a1, cap1, rfl, _, _⟩ := hown.slice
      have HO := Lib.hid hown
      have HB := Lib.hid hb
      have B1 := Lib.hid ((hb.block g hgl).trans H1.out)
      have B2 := Lib.hid (H2.out.below hb)
      obtain ⟨d0, d1, e0, e1⟩ := box_cell B1.out
      clear hown hb c0 c1 f0 f1
      go_wp2_with fail
      go_ret2
      obtain ⟨r1, r2⟩ := RdS.moved _ B1.out B2.out HH3.out HKL.out HQ.out (Nat.lt_of_lt_of_le hqs HB.out.size) _ _ rfl rfl (.inl rfl)
      exact ⟨_, rfl, HO.out.far hgl, r1, (RGr.of_below HB.out).trans r2⟩

/-- string(b) of a row of the call's own. -/
theorem conv_own {w : World} {B : Nat} {v : Value} {l : List UInt8} (hown : OwnB w B v l) : (convert 26 9 v).run Try.prog w = .ok (.string ⟨l.toArray⟩) w := by
  rcases hown.2 with ⟨hv, h0⟩ | ⟨g, cap, cur, hv, hb, hg, rest⟩
  · have hl : l = [] := List.length_eq_zero_iff.1 h0
    subst hl hv
    exact Lib.run_convert_nil_bytes w _ _ 5 0 Try.underlying26 Try.underlying5 Try.underlying9
  · have hc := World.ownsRow.cells hown (g := g) (by rw [hv]; rfl)
    rw [hv]
    refine run_convert_bytes_back w _ _ 5 ⟨g, 0, none⟩ cap l Try.underlying26 Try.underlying5 Try.underlying9 (fun j hj => ?_)
    refine hc j _ ?_
    rw [Lib.byteCells, List.getElem?_map, List.getElem?_eq_getElem hj]
    rfl
def RTPost (g q : Nat) (l : List UInt8) (w : World) (e : Ending) (w' : World) : Prop := e = .returned (.tuple #[.string ⟨(rdB l).1.toArray⟩, .int .i64 (rdB l).2.2]) ∧ RdS w' g q (l.drop (rdB l).2.1) ∧ RGr w w' g
set_option maxHeartbeats 1600000 in
theorem rText_any (w : World) (g q : Nat) (l : List UInt8) (h : RdS w g q l) (hl : l.length ≤ 140737488355328) :
    Calls Try.prog 44 #[.pointer (some ⟨g, 0, none⟩)] w (RTPost g q l w) := by
  have HB := Lib.hid (rBytes_any w g q l h hl)
  clear h
  go_enter Try.func44, Try.ntmps44
  go_wp2_with fail
  refine HB.out.mono ?_
  rintro e w1 ⟨v1, rfl, hown, h1, h2⟩
  have hcv := conv_own hown
  have H1 := Lib.hid h1
  have H2 := Lib.hid h2
  clear hown h1 h2
  go_wp2_with fail
  go_ret2
  exact ⟨rfl, H1.out, H2.out⟩
end Go.Proofs.Ytdjppchcnbfcoaa
