/-
  What the listed tables give the walks.
-/
import Derived.Test.YtogdkhnakenbcaaGreatDoorVOpen
import Derived.Test.YtogdkhnakenbcaaGreatDoorDates
import Derived.Test.YtogdkhnakenbcaaGreatDoorText
import Derived.LaidMore
import Derived.Stop.Joined
import Derived.FnData
namespace Go.Proofs.YtogdkhnakenbcaaGreatDoor
open Go.ChangeShapes Go.WideShapes Go.ChangeAt Go.RowKit
open Cal
set_option linter.unusedVariables false

theorem gPow : Tryz.prog.globalNamed "internal/strconv.uint64pow10" = some 1 := by kernel_rfl
theorem gMon : Tryz.prog.globalNamed "colonnade/num.monthLengths" = some 4 := by kernel_rfl
theorem tPow : (Tryz.prog.globals[1]?).map (·.type) = some 141 := by kernel_rfl
theorem tMon : (Tryz.prog.globals[4]?).map (·.type) = some 155 := by kernel_rfl

def monTab : List Int := [31, 28, 31, 30, 31, 30, 31, 31, 30, 31, 30, 31]

theorem mlaid_of {W : World} (h : W.var? Tryz.prog "colonnade/num.monthLengths" = some (monTab.map fun z => Value.int .i64 z).toArray) : MLaid W := by
  intro m h1 h2
  rw [World.var?_cell gMon h]
  rcases months h1 h2 with rfl | rfl | rfl | rfl | rfl | rfl | rfl | rfl | rfl | rfl | rfl | rfl <;> rfl

theorem facts_of (W : World) (g g' : Nat) (t t' : TypeId) (cs cs' : Array Value) (f f' : Nat) (p p' : List MemPlace)
    (hg : Tryz.prog.globalNamed "internal/strconv.uint64pow10" = some g) (ht : (Tryz.prog.globals[g]?).map (·.type) = some t) (hv : W.var? Tryz.prog "internal/strconv.uint64pow10" = some cs)
    (hd : DataW.trod (fun _ => ()) Tryz.prog W 0 (fun _ => true) false f t cs.toList = some (Rows.laid_internal_strconv_uint64pow10, p))
    (hg' : Tryz.prog.globalNamed "colonnade/num.monthLengths" = some g') (ht' : (Tryz.prog.globals[g']?).map (·.type) = some t') (hv' : W.var? Tryz.prog "colonnade/num.monthLengths" = some cs')
    (hd' : DataW.trod (fun _ => ()) Tryz.prog W 0 (fun _ => true) false f' t' cs'.toList = some (Rows.laid_colonnade_num_monthLengths, p')) : MLaid W ∧ PowLaid W := by
  obtain rfl := Option.some.inj (gPow.symm.trans hg)
  obtain rfl := Option.some.inj (gMon.symm.trans hg')
  obtain rfl := Option.some.inj (tPow.symm.trans ht)
  obtain rfl := Option.some.inj (tMon.symm.trans ht')
  constructor
  · have e : cs'.toList = monTab.map fun z => Value.int .i64 z := Lib.cells_of_tab Tryz.underlying155 Tryz.underlying3 (by kernel_rfl) (by kernel_rfl) (zs := monTab) hd'
    refine mlaid_of ?_
    rw [hv', ← e]
  · have e : cs.toList = Lib.pow10Tab.map fun z => Value.int .u64 z := Lib.cells_of_tab Tryz.underlying141 Tryz.underlying31 (by kernel_rfl) (by kernel_rfl) (zs := Lib.pow10Tab) hd
    show W.var? _ _ = _
    rw [hv, ← e]

theorem of_laid6 {W : World} (h : laidMetH Tryz.prog laid6 W) : MLaid W ∧ PowLaid W := by
  rw [MakeChecks.laidMetH_plain _ _ _ (by kernel_rfl)] at h
  obtain ⟨ps, ⟨g0, t0, cs0, f0, p0, q0, hg0, ht0, hv0, hd0, ⟨g1, t1, cs1, f1, p1, q1, hg1, ht1, hv1, hd1, ⟨g2, t2, cs2, f2, p2, q2, hg2, ht2, hv2, hd2, ⟨g3, t3, cs3, f3, p3, q3, hg3, ht3, hv3, hd3, ⟨g4, t4, cs4, f4, p4, q4, hg4, ht4, hv4, hd4, _, _⟩, _⟩, _⟩, _⟩, _⟩, _, _⟩ := h
  exact facts_of W g2 g4 t2 t4 cs2 cs4 f2 f4 p2 p4 hg2 ht2 hv2 hd2 hg4 ht4 hv4 hd4

theorem pow_low {W : World} (h : MLaid W) : 4 < W.heap.size := by
  have := h 1 (by omega) (by omega)
  rcases Nat.lt_or_ge 4 W.heap.size with h' | h'
  · exact h'
  · simp [World.cell?, Array.getElem?_eq_none h'] at this
theorem MLaid.next {w w' : World} (h : MLaid w) (hb : Below w.heap.size w w') : MLaid w' := h.below hb (pow_low h)

theorem powLow {W : World} (h : PowLaid W) : 1 < W.heap.size := by
  unfold PowLaid Lib.TabIs World.var? at h
  rw [gPow] at h
  rcases Nat.lt_or_ge 1 W.heap.size with h' | h'
  · exact h'
  · simp [Array.getElem?_eq_none h'] at h
end Go.Proofs.YtogdkhnakenbcaaGreatDoor
