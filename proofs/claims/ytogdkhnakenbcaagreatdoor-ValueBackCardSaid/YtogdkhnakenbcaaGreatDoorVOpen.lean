/-
  A value of the document's type Value out of memory; the listed tables; the row's last step.
-/
import Derived.Test.YtogdkhnakenbcaaGreatDoorVBegun
import Derived.Test.YtogdkhnakenbcaaGreatDoorPost
import Derived.Test.YtogdkhnakenbcaaGreatDoorCards
import Derived.Test.YtogdkhnakenbcaaGreatDoorTie
import Derived.Lay
import Derived.SevenTiedAt
import Derived.LaidMore
import Derived.Stop.Joined
import Derived.FnData
import Derived.ChangeSame
import Derived.SizedLaws
import Derived.WideKeyArgs
namespace Go.Proofs.YtogdkhnakenbcaaGreatDoor
open Go.ChangeShapes Go.WideShapes Go.ChangeAt Go.RowKit
set_option linter.unusedVariables false

theorem own : ownKnob Tryz.prog.godebug = none := by kernel_rfl
theorem laidOut : laidOutB Tryz.prog = true := by kernel_rfl

/-- The six tables that each row of these statements lists. -/
def laid6 : List (String × DataW Unit) := [("math/bits.deBruijn32tab", Rows.laid_math_bits_deBruijn32tab), ("math/bits.deBruijn64tab", Rows.laid_math_bits_deBruijn64tab), ("internal/strconv.uint64pow10", Rows.laid_internal_strconv_uint64pow10), ("unicode/utf8.acceptRanges", Rows.laid_unicode_utf8_acceptRanges), ("colonnade/num.monthLengths", Rows.laid_colonnade_num_monthLengths), ("unicode/utf8.first", Rows.laid_unicode_utf8_first)]

/-- What a value's cells hold. -/
structure VR.Ok (a : VR) : Prop where
  k : In64 a.k
  s : In64 a.s
  n : In64 a.n
  t : a.t.size ≤ maxLen
def VR.cells (a : VR) : List Value := [.int .i64 a.k, .int .i64 a.s, .bool a.nl, .int .i64 a.n, .string a.t]

theorem cellsV : Tryz.prog.cellsOf 25 = 5 := by kernel_rfl
theorem cellsT : Tryz.prog.cellsOf 23 = 2 := by kernel_rfl
theorem cellsB : Tryz.prog.cellsOf 4 = 1 := by kernel_rfl
theorem cells64 : Tryz.prog.cellsOf 2 = 1 := by kernel_rfl
theorem cellsI : Tryz.prog.cellsOf 3 = 1 := by kernel_rfl
theorem cellsS : Tryz.prog.cellsOf 9 = 1 := by kernel_rfl
section
variable {H : Type} {enc : TypeId × Value → H} {W : World} {base : Nat} {sp : Nat → Bool} {held : Bool}
theorem trod4 {P : Program} {t : TypeId} {f0 f1 f2 f3 : Field} (hs : P.underlying t = some (.struct #[f0, f1, f2, f3])) {fuel : Nat} {cs : List Value} {x : DataW H × List MemPlace} (h : DataW.trod enc P W base sp held fuel t cs = some x) :
    ∃ (y0 y1 y2 y3 : DataW H × List MemPlace) (n : Nat), cs.length = P.cellsOf t ∧ DataW.trod enc P W base sp held n f0.type ((cs.drop f0.offset).take (P.cellsOf f0.type)) = some y0 ∧ DataW.trod enc P W base sp held n f1.type ((cs.drop f1.offset).take (P.cellsOf f1.type)) = some y1 ∧
      DataW.trod enc P W base sp held n f2.type ((cs.drop f2.offset).take (P.cellsOf f2.type)) = some y2 ∧ DataW.trod enc P W base sp held n f3.type ((cs.drop f3.offset).take (P.cellsOf f3.type)) = some y3 := by
  obtain ⟨xs, n, _, _, hl, hlen, hg⟩ := DataW.trod_struct hs h
  match xs, hlen with
  | [y0, y1, y2, y3], _ => exact ⟨y0, y1, y2, y3, n, hl, hg 0 f0 rfl, hg 1 f1 rfl, hg 2 f2 rfl, hg 3 f3 rfl⟩
theorem trod2 {P : Program} {t : TypeId} {f0 f1 : Field} (hs : P.underlying t = some (.struct #[f0, f1])) {fuel : Nat} {cs : List Value} {x : DataW H × List MemPlace} (h : DataW.trod enc P W base sp held fuel t cs = some x) :
    ∃ (y0 y1 : DataW H × List MemPlace) (n : Nat), cs.length = P.cellsOf t ∧ DataW.trod enc P W base sp held n f0.type ((cs.drop f0.offset).take (P.cellsOf f0.type)) = some y0 ∧ DataW.trod enc P W base sp held n f1.type ((cs.drop f1.offset).take (P.cellsOf f1.type)) = some y1 := by
  obtain ⟨xs, n, _, _, hl, hlen, hg⟩ := DataW.trod_struct hs h
  match xs, hlen with
  | [y0, y1], _ => exact ⟨y0, y1, n, hl, hg 0 f0 rfl, hg 1 f1 rfl⟩
set_option maxRecDepth 100000 in
theorem val_of_cells {fuel : Nat} {cs : List Value} {x : DataW H × List MemPlace} (h : DataW.trod enc Tryz.prog W base sp held fuel 25 cs = some x) : ∃ a : VR, cs = a.cells ∧ a.Ok := by
  obtain ⟨y0, y1, y2, y3, n, hl, g0, g1, g2, g3⟩ := trod4 Tryz.underlying25 h
  rw [cellsV] at hl
  match cs, hl with
  | [c0, c1, c2, c3, c4], _ =>
    dsimp only at g0 g1 g2 g3
    rw [cellsT] at g0
    rw [cellsB] at g1
    rw [cells64] at g2
    rw [cellsS] at g3
    change DataW.trod enc Tryz.prog W base sp held n _ [c0, c1] = _ at g0
    change DataW.trod enc Tryz.prog W base sp held n _ [c2] = _ at g1
    change DataW.trod enc Tryz.prog W base sp held n _ [c3] = _ at g2
    change DataW.trod enc Tryz.prog W base sp held n _ [c4] = _ at g3
    obtain ⟨z0, z1, m, _, k0, k1⟩ := trod2 Tryz.underlying23 g0
    dsimp only at k0 k1
    rw [cellsI] at k0 k1
    change DataW.trod enc Tryz.prog W base sp held m _ [c0] = _ at k0
    change DataW.trod enc Tryz.prog W base sp held m _ [c1] = _ at k1
    obtain ⟨k, ek, _, wk⟩ := DataW.trod_int Tryz.underlying3 k0
    obtain ⟨s, es, _, ws⟩ := DataW.trod_int Tryz.underlying3 k1
    obtain ⟨b, eb, _⟩ := DataW.trod_bool Tryz.underlying4 g1
    obtain ⟨n', en, _, wn⟩ := DataW.trod_int Tryz.underlying2 g2
    obtain ⟨t, et, _, ht⟩ := DataW.trod_string Tryz.underlying9 g3
    simp only [List.cons.injEq, and_true] at ek es eb en et
    exact ⟨⟨k, s, b, n', t⟩, by rw [ek, es, eb, en, et]; rfl, in64_of wk, in64_of ws, in64_of wn, ht⟩
set_option maxRecDepth 100000 in
theorem open_val {v : Value} {d : DataW H} {p : List MemPlace} (hv : Value.okWide Tryz.prog W .any base 25 v) (h : DataW.Trod enc Tryz.prog W 0 sp held 25 v d p) : ∃ a : VR, v = a.val ∧ a.Ok := by
  obtain ⟨cs, rfl, _⟩ := okWide_struct Tryz.underlying25 hv
  obtain ⟨fuel, hf⟩ := h
  obtain ⟨a, ha, ho⟩ := val_of_cells hf
  refine ⟨a, ?_, ho⟩
  obtain ⟨l⟩ := cs
  have e : l = a.cells := by simpa [Value.cells] using ha
  rw [e]; rfl
end
end Go.Proofs.YtogdkhnakenbcaaGreatDoor
