/-
  Two values are compared cell by cell.
-/
import Derived.Test.YtogdkhnakenbcaaGreatDoorVOpen
import Derived.Lib.BufferRead
import Derived.Laws.StructEq
namespace Go.Proofs.YtogdkhnakenbcaaGreatDoor
open Go.ChangeShapes Go.WideShapes Go.ChangeAt Go.RowKit Go.Sort
set_option linter.unusedVariables false

theorem bytes_toList {s t : ByteArray} (h : s.toList = t.toList) : s = t := by
  have e : ∀ s : ByteArray, s.toList = s.data.toList := Go.ByteArray.toList_eq
  rw [e, e] at h
  exact ByteArray.ext (Array.ext' h)
def eqVB (a b : VR) : Bool := (a.k == b.k && a.s == b.s) && (a.nl == b.nl && (a.n == b.n && decide (a.t.toList = b.t.toList)))
theorem eqVB_yes {a b : VR} (h : eqVB a b = true) : a = b := by
  cases a; cases b
  simp only [eqVB, Bool.and_eq_true, beq_iff_eq, decide_eq_true_eq] at h
  simp only [VR.mk.injEq]
  exact ⟨h.1.1, h.1.2, h.2.1, h.2.2.1, bytes_toList h.2.2.2⟩
theorem eqVB_self (a : VR) : eqVB a a = true := by simp [eqVB]
/-- Two values are compared cell by cell. -/
theorem eqVV (a b : Int) (x : Bool) (m : Int) (s : ByteArray) (a' b' : Int) (x' : Bool) (m' : Int) (s' : ByteArray) (w : World) : (Op.equalIn 10000 25 (.agg #[.int .i64 a, .int .i64 b, .bool x, .int .i64 m, .string s]) (.agg #[.int .i64 a', .int .i64 b', .bool x', .int .i64 m', .string s'])).run Tryz.prog w = .ok (eqVB ⟨a, b, x, m, s⟩ ⟨a', b', x', m', s'⟩) w := by
  have u2 := Tryz.underlying3
  have u3 := Tryz.underlying4
  have u4 := Tryz.underlying2
  have u5 := Tryz.underlying9
  have u6 := Tryz.underlying23
  have hS : Tryz.prog.underlying 25 = some (.struct (Tryz.prog.fieldsOf 25)) := by kernel_rfl
  have hp : Tryz.prog.stoodInHeld 25 = false := by kernel_rfl
  have hS2 : Tryz.prog.underlying 23 = some (.struct (Tryz.prog.fieldsOf 23)) := by kernel_rfl
  have hp2 : Tryz.prog.stoodInHeld 23 = false := by kernel_rfl
  rw [show (10000 : Nat) = 9999 + 1 from rfl, run_equalIn_agg w 9999 25 _ _ hS hp]
  simp only [Program.fieldsOf, Tryz.underlying25]
  go_simp
  unfold eqVB
  by_cases h1 : a = a' <;> by_cases h2 : b = b' <;> by_cases h3 : x = x' <;> by_cases h4 : m = m' <;> by_cases h5 : s.toList = s'.toList <;> simp [h1, h2, h3, h4, h5]
end Go.Proofs.YtogdkhnakenbcaaGreatDoor
