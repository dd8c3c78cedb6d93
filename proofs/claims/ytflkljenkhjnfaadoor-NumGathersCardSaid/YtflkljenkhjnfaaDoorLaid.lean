/-
  What the listed variables give the walks; a start at which they read so.
-/
import Derived.Test.YtflkljenkhjnfaaDoorBegun
import Derived.Test.YtflkljenkhjnfaaDoorTie
import Derived.LaidMore
import Derived.Stop.Joined
import Derived.FnData
namespace Go.Proofs.YtflkljenkhjnfaaDoor
open Go.ChangeShapes Go.WideShapes Go.ChangeAt Go.RowKit
open Cal
set_option linter.unusedVariables false

theorem own : ownKnob Tryd.prog.godebug = none := by kernel_rfl

/-- The four tables that each row of these statements lists. -/
def laid4 : List (String × DataW Unit) := [("math/bits.deBruijn32tab", Rows.laid_math_bits_deBruijn32tab), ("math/bits.deBruijn64tab", Rows.laid_math_bits_deBruijn64tab), ("internal/strconv.uint64pow10", Rows.laid_internal_strconv_uint64pow10), ("colonnade/num.monthLengths", Rows.laid_colonnade_num_monthLengths)]

theorem gPow : Tryd.prog.globalNamed "internal/strconv.uint64pow10" = some 4 := by kernel_rfl
theorem gMon : Tryd.prog.globalNamed "colonnade/num.monthLengths" = some 0 := by kernel_rfl
theorem tPow : (Tryd.prog.globals[4]?).map (·.type) = some 127 := by kernel_rfl
theorem tMon : (Tryd.prog.globals[0]?).map (·.type) = some 89 := by kernel_rfl

def monTab : List Int := [31, 28, 31, 30, 31, 30, 31, 31, 30, 31, 30, 31]

theorem mlaid_of {W : World} (h : W.var? Tryd.prog "colonnade/num.monthLengths" = some (monTab.map fun z => Value.int .i64 z).toArray) : MLaid W := by
  intro m h1 h2
  rw [World.var?_cell gMon h]
  rcases months h1 h2 with rfl | rfl | rfl | rfl | rfl | rfl | rfl | rfl | rfl | rfl | rfl | rfl <;> rfl

theorem facts_of (W : World) (g g' : Nat) (t t' : TypeId) (cs cs' : Array Value) (f f' : Nat) (p p' : List MemPlace)
    (hg : Tryd.prog.globalNamed "internal/strconv.uint64pow10" = some g) (ht : (Tryd.prog.globals[g]?).map (·.type) = some t) (hv : W.var? Tryd.prog "internal/strconv.uint64pow10" = some cs)
    (hd : DataW.trod (fun _ => ()) Tryd.prog W 0 (fun _ => true) false f t cs.toList = some (Rows.laid_internal_strconv_uint64pow10, p))
    (hg' : Tryd.prog.globalNamed "colonnade/num.monthLengths" = some g') (ht' : (Tryd.prog.globals[g']?).map (·.type) = some t') (hv' : W.var? Tryd.prog "colonnade/num.monthLengths" = some cs')
    (hd' : DataW.trod (fun _ => ()) Tryd.prog W 0 (fun _ => true) false f' t' cs'.toList = some (Rows.laid_colonnade_num_monthLengths, p')) : MLaid W ∧ PowLaid W := by
  obtain rfl := Option.some.inj (gPow.symm.trans hg)
  obtain rfl := Option.some.inj (gMon.symm.trans hg')
  obtain rfl := Option.some.inj (tPow.symm.trans ht)
  obtain rfl := Option.some.inj (tMon.symm.trans ht')
  constructor
  · have e : cs'.toList = monTab.map fun z => Value.int .i64 z := Lib.cells_of_tab Tryd.underlying89 Tryd.underlying3 (by kernel_rfl) (by kernel_rfl) (zs := monTab) hd'
    refine mlaid_of ?_
    rw [hv', ← e]
  · have e : cs.toList = Lib.pow10Tab.map fun z => Value.int .u64 z := Lib.cells_of_tab Tryd.underlying127 Tryd.underlying46 (by kernel_rfl) (by kernel_rfl) (zs := Lib.pow10Tab) hd
    show W.var? _ _ = _
    rw [hv, ← e]

theorem of_laid4 {W : World} (h : laidMetH Tryd.prog laid4 W) : MLaid W ∧ PowLaid W := by
  rw [MakeChecks.laidMetH_plain _ _ _ (by kernel_rfl)] at h
  obtain ⟨ps, ⟨g0, t0, cs0, f0, p0, q0, hg0, ht0, hv0, hd0, ⟨g1, t1, cs1, f1, p1, q1, hg1, ht1, hv1, hd1, ⟨g2, t2, cs2, f2, p2, q2, hg2, ht2, hv2, hd2, ⟨g3, t3, cs3, f3, p3, q3, hg3, ht3, hv3, hd3, _, _⟩, _⟩, _⟩, _⟩, _, _⟩ := h
  exact facts_of W g2 g3 t2 t3 cs2 cs3 f2 f3 p2 p3 hg2 ht2 hv2 hd2 hg3 ht3 hv3 hd3

theorem pow_low {W : World} (h : MLaid W) : 0 < W.heap.size := by
  have := h 1 (by omega) (by omega)
  rcases Nat.lt_or_ge 0 W.heap.size with h' | h'
  · exact h'
  · simp [World.cell?, Array.getElem?_eq_none h'] at this
theorem MLaid.next {w w' : World} (h : MLaid w) (hb : Below w.heap.size w w') : MLaid w' := h.below hb (pow_low h)

theorem door_met4 (os : Os) (args : Array Value) : laidMetH Tryd.prog laid4 ((World.doorLaid Tryd.prog 400 os).forCall (fun _ _ => 0) ⟨#[], args, []⟩).memory :=
  laidMetH_of_parts3 (fuel := 8) (laidMet_of_run' 8 (by kernel_rfl) (by kernel_rfl)) (by kernel_rfl) (by kernel_rfl)
end Go.Proofs.YtflkljenkhjnfaaDoor
