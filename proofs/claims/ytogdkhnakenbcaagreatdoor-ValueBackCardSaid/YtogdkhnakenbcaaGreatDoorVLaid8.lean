/-
  What the eight listed variables of the rows of casts give the walks.
-/
import Derived.Test.YtogdkhnakenbcaaGreatDoorVLaid
import Derived.Test.YtogdkhnakenbcaaGreatDoorInts
import Derived.Stop.LaidErr
namespace Go.Proofs.YtogdkhnakenbcaaGreatDoor
open Go.ChangeShapes Go.WideShapes Go.ChangeAt Go.RowKit
open Cal
set_option linter.unusedVariables false

/-- The eight variables that the rows of casts list. -/
def laid8 : List (String × DataW Unit) := [("math/bits.deBruijn32tab", Rows.laid_math_bits_deBruijn32tab), ("math/bits.deBruijn64tab", Rows.laid_math_bits_deBruijn64tab), ("internal/strconv.uint64pow10", Rows.laid_internal_strconv_uint64pow10), ("unicode/utf8.acceptRanges", Rows.laid_unicode_utf8_acceptRanges), ("strconv.ErrRange", Rows.laid_strconv_ErrRange), ("strconv.ErrSyntax", Rows.laid_strconv_ErrSyntax), ("colonnade/num.monthLengths", Rows.laid_colonnade_num_monthLengths), ("unicode/utf8.first", Rows.laid_unicode_utf8_first)]

theorem tErr : (Tryz.prog.globals[6]?).map (·.type) = some 106 := by kernel_rfl
theorem rowErr (u : TypeId) (h : Tryz.prog.typeName? 3 u = some "*errors.errorString") : u = 175 :=
  typeName_ptr_named (nm := "errors.errorString") (by kernel_rfl) (by kernel_rfl) (by decide) u h
theorem of_laid8 {W : World} (h : laidMetH Tryz.prog laid8 W) : MLaid W ∧ PowLaid W ∧ VRange W := by
  rw [MakeChecks.laidMetH_plain _ _ _ (by kernel_rfl)] at h
  have hV : VRange W := by
    obtain ⟨a, s, hv, _⟩ := laid_sentinel h.tail.tail.tail.tail gErr tErr Tryz.underlying106 rowErr Tryz.underlying175 Tryz.underlying177 rfl rfl Tryz.underlying9 (by kernel_rfl) (by kernel_rfl)
    exact ⟨_, _, hv⟩
  obtain ⟨ps, ⟨g0, t0, cs0, f0, p0, q0, hg0, ht0, hv0, hd0, ⟨g1, t1, cs1, f1, p1, q1, hg1, ht1, hv1, hd1, ⟨g2, t2, cs2, f2, p2, q2, hg2, ht2, hv2, hd2, ⟨g3, t3, cs3, f3, p3, q3, hg3, ht3, hv3, hd3, ⟨g4, t4, cs4, f4, p4, q4, hg4, ht4, hv4, hd4, ⟨g5, t5, cs5, f5, p5, q5, hg5, ht5, hv5, hd5, ⟨g6, t6, cs6, f6, p6, q6, hg6, ht6, hv6, hd6, _, _⟩, _⟩, _⟩, _⟩, _⟩, _⟩, _⟩, _, _⟩ := h
  have hf := facts_of W g2 g6 t2 t6 cs2 cs6 f2 f6 p2 p6 hg2 ht2 hv2 hd2 hg6 ht6 hv6 hd6
  exact ⟨hf.1, hf.2, hV⟩

section
variable {H : Type} {enc : TypeId × Value → H} {W : World} {base : Nat} {sp : Nat → Bool} {held : Bool}
theorem trod4y {P : Program} {t : TypeId} {f0 f1 f2 f3 : Field} (hs : P.underlying t = some (.struct #[f0, f1, f2, f3])) {fuel : Nat} {cs : List Value} {x : DataW H × List MemPlace} (h : DataW.trod enc P W base sp held fuel t cs = some x) :
    ∃ (y0 y1 y2 y3 : DataW H × List MemPlace) (n : Nat), x.1 = .agg [y0.1, y1.1, y2.1, y3.1] ∧ DataW.trod enc P W base sp held n f3.type ((cs.drop f3.offset).take (P.cellsOf f3.type)) = some y3 := by
  obtain ⟨xs, n, _, rfl, hl, hlen, hg⟩ := DataW.trod_struct hs h
  match xs, hlen with
  | [y0, y1, y2, y3], _ => exact ⟨y0, y1, y2, y3, n, rfl, hg 3 f3 rfl⟩
set_option maxRecDepth 100000 in
theorem val_weight {a : VR} {d : DataW H} {p : List MemPlace} (h : DataW.Trod enc Tryz.prog W 0 sp held 25 a.val d p) : a.t.size ∈ d.weights Tryz.prog 25 := by
  obtain ⟨fuel, hf⟩ := h
  obtain ⟨y0, y1, y2, y3, n, hx, g3⟩ := trod4y Tryz.underlying25 hf
  dsimp only at g3 hx
  rw [cellsS] at g3
  change DataW.trod enc Tryz.prog W 0 sp held n _ [.string a.t] = some y3 at g3
  obtain ⟨t, et, ex, _⟩ := DataW.trod_string Tryz.underlying9 g3
  obtain rfl : a.t = t := by simpa using et
  have e : a.t.data.toList.length = a.t.size := Array.length_toList
  have hy : y3.1 = .lit (.string a.t.data.toList) := by rw [ex]
  rw [hx, hy]
  unfold DataW.weights
  rw [Tryz.underlying25]
  simp [DataW.weightsEach, DataW.weights, e]
set_option maxRecDepth 100000 in
theorem open_type {v : Value} {d : DataW H} {p : List MemPlace} (hv : Value.okWide Tryz.prog W .any base 23 v) (h : DataW.Trod enc Tryz.prog W 0 sp held 23 v d p) : ∃ k s : Int, v = .agg #[.int .i64 k, .int .i64 s] ∧ In64 k ∧ In64 s := by
  obtain ⟨cs, rfl, _⟩ := okWide_struct Tryz.underlying23 hv
  obtain ⟨fuel, hf⟩ := h
  obtain ⟨z0, z1, m, hl, k0, k1⟩ := trod2 Tryz.underlying23 hf
  dsimp only at k0 k1
  rw [cellsI] at k0 k1
  rw [cellsT] at hl
  obtain ⟨cs⟩ := cs
  match cs, hl with
  | [c0, c1], _ =>
    change DataW.trod enc Tryz.prog W 0 sp held m _ [c0] = _ at k0
    change DataW.trod enc Tryz.prog W 0 sp held m _ [c1] = _ at k1
    obtain ⟨k, ek, _, wk⟩ := DataW.trod_int Tryz.underlying3 k0
    obtain ⟨s, es, _, ws⟩ := DataW.trod_int Tryz.underlying3 k1
    simp only [List.cons.injEq, and_true] at ek es
    exact ⟨k, s, by rw [ek, es], in64_of wk, in64_of ws⟩
end
end Go.Proofs.YtogdkhnakenbcaaGreatDoor
