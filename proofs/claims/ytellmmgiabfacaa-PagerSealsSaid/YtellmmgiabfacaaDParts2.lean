/-
  Of disk: patches of no bytes, wherever.
-/
import Derived.Test.YtellmmgiabfacaaDParts
namespace Go.Proofs.Ytellmmgiabfacaa
open Go.ChangeShapes Go.WideShapes Go.ChangeAt Go.RowKit
set_option linter.unusedVariables false

set_option maxHeartbeats 2000000 in
set_option maxRecDepth 100000 in
theorem patches_nil (k : Int) (A : Option Addr) (c : Nat) (w : World) :
    Calls Try.prog 84 #[.int .i64 k, .slice A 0 c] w fun e w' => e = .returned (.slice none 0 0) ∧ Below w.heap.size w w' := by
  have HC := Lib.hid (clone_any A c [] w (BRd.nil _ _) (by simp))
  go_enter Try.func84, Try.ntmps84
  go_wp2_with fail
  refine HC.out.mono ?_
  rintro e w1 ⟨v1, rfl, hown, hb⟩
  obtain ⟨a1, cap1, rfl, hcap1, hcn1⟩ := hown.slice
  have HB := Lib.hid hb
  clear hown hb
  go_wp2_with fail
  go_loopw [5, 1] (fun x rest wr => x = .slice none 0 0 ∧ rest = .slice a1 0 cap1 ∧ wr = w1) (fun _ _ _ => 0)
  case atStart => exact ⟨rfl, rfl, rfl⟩
  case round =>
    obtain ⟨rfl, rfl, rfl⟩ := hrel
    go_wp2_with fail
    go_ret
    exact ⟨rfl, HB.out⟩
end Go.Proofs.Ytellmmgiabfacaa
