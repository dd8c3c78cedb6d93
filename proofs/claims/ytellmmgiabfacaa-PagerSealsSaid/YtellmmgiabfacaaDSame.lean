/-
  Of disk: contract of Same.
-/
import Derived.Test.YtellmmgiabfacaaDIdx
namespace Go.Proofs.Ytellmmgiabfacaa
open Go.ChangeShapes Go.WideShapes Go.ChangeAt Go.RowKit
set_option linter.unusedVariables false

/-- A file's slice, as a value that shows what it is. -/
theorem now_form {w : World} {g : Nat} {v : Nat → Value} {pc : Value} {qs : List PV} {kp : Value} {s : St} (hd : DSt w g v pc qs kp s) (i : Nat) (hi : i < 4) : ∃ a n k, v i = .slice a n k ∧ n = (s.ct i).length ∧ BRd w a (s.ct i) := by
  obtain ⟨a, k, e, -, -⟩ := (hd.core.own i hi).slice
  have h := hd.core.own i hi
  rw [e] at h
  exact ⟨a, _, k, e, rfl, h.brd⟩
theorem equal_at {w W : World} {A1 A2 : Option Addr} {c1 c2 n1 n2 : Nat} {l1 l2 : List UInt8} (h1 : BRd w A1 l1) (h2 : BRd w A2 l2) (e1 : n1 = l1.length) (e2 : n2 = l2.length) (hW : Below w.heap.size w W) :
    Calls Try.prog 15 #[.slice A1 n1 c1, .slice A2 n2 c2] W fun e w' => e = .returned (.bool (l1 == l2)) ∧ W = w' := by
  subst e1 e2
  exact equal_any A1 A2 c1 c2 l1 l2 W (h1.below hW) (h2.below hW)

end Go.Proofs.Ytellmmgiabfacaa
