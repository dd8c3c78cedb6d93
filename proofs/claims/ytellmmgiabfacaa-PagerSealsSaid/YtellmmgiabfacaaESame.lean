/-
  The document's disk: Same.
-/
import Derived.Test.YtellmmgiabfacaaESync
namespace Go.Proofs.Ytellmmgiabfacaa
open Go.ChangeShapes Go.WideShapes Go.ChangeAt Go.RowKit
set_option linter.unusedVariables false

theorem conv_brd {w : World} {a : Option Addr} {n k : Nat} {l : List UInt8} (h : BRd w a l) (hn : n = l.length) : (convert 23 9 (.slice a n k)).run Try.prog w = .ok (.string ⟨l.toArray⟩) w := by
  subst hn
  by_cases h0 : 0 < l.length
  · obtain ⟨g, off, rfl, hg, hc⟩ := h h0
    refine run_convert_bytes_back w _ _ 5 ⟨g, off, none⟩ k l Try.underlying23 Try.underlying5 Try.underlying9 (fun j hj => ?_)
    rw [Go.WideShapes.add_plain]
    exact hc j hj
  · obtain rfl : l = [] := List.length_eq_zero_iff.1 (by omega)
    cases a with
    | none => exact Lib.run_convert_nil_bytes w _ _ 5 k Try.underlying23 Try.underlying5 Try.underlying9
    | some a => exact run_convert_bytes_back w _ _ 5 a k [] Try.underlying23 Try.underlying5 Try.underlying9 (fun j hj => by simp at hj)
/-- What Now tells, and that all that was read stays. -/
def Tell (L : List UInt8) (w W : World) (e : Ending) (w' : World) : Prop := ∃ a n k, e = .returned (.slice a n k) ∧ n = L.length ∧ BRd w' a L ∧ Below w.heap.size w w' ∧ ∀ a' l', BRd W a' l' → BRd w' a' l'
theorem Shown.tell {R : Nat → Prop} {L : List UInt8} {w W : World} {e : Ending} {w' : World} (hW : Below w.heap.size w W) (h : Shown R L W e w') : Tell L w W e w' := by
  obtain ⟨a, n, k, h1, h2, -, h3, -, h4⟩ := h
  exact ⟨a, n, k, h1, h2, h3, bt hW h4, fun a' l' h => h.below h4⟩
theorem bytes_back (l : List UInt8) : (⟨l.toArray⟩ : ByteArray).toList = l := by
  rw [ByteArray.toList_eq]
theorem bytes_ext {l m : List UInt8} (h : (⟨l.toArray⟩ : ByteArray) = ⟨m.toArray⟩) : l = m := by simpa using congrArg (fun b : ByteArray => b.data.toList) h
end Go.Proofs.Ytellmmgiabfacaa
