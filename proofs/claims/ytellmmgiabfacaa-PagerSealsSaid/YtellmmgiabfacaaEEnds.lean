/-
  The document's disk: ends, Crash; a piece more.
-/
import Derived.Test.YtellmmgiabfacaaELose
namespace Go.Proofs.Ytellmmgiabfacaa
open Go.ChangeShapes Go.WideShapes Go.ChangeAt Go.RowKit
set_option linter.unusedVariables false

theorem RTurn.push {w w' : World} {g : Nat} {pc pc' : Value} {R : Nat → Prop} (h : Grw w w' pc pc') : RTurn w w' g pc R pc' R :=
  ⟨.of_grw h fun k hk => .inr hk, fun j hj hd => h.at_.elim (fun e => e ▸ hd) fun e => by have := e j hd; omega, fun _ _ h => h⟩
end Go.Proofs.Ytellmmgiabfacaa
