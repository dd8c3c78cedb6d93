/-
  The document's disk: Sync.
-/
import Derived.Test.YtellmmgiabfacaaETrunc
namespace Go.Proofs.Ytellmmgiabfacaa
open Go.ChangeShapes Go.WideShapes Go.ChangeAt Go.RowKit
set_option linter.unusedVariables false

theorem sync_eq (s : St) (ks : List Bool) (hk : s.fuse ≠ 0 → ks = s.keep) (f : Int) (hm : s.may f = 0) : s.sync f = if decide (s.fuse = 1) = true then (({ s with calls := next64 s.calls, fuse := s.fuse - 1 } : St).crash ks, 6) else (({ s with calls := next64 s.calls, fuse := s.fuse - 1 } : St).settle f.toNat, 0) := by
  unfold St.sync
  rw [if_neg (by omega)]
  by_cases h : s.fuse = 1
  · rw [if_pos h, if_pos (by simpa using h), hk (by omega)]
    unfold St.count
    rw [if_pos h]
    rfl
  · rw [if_neg h, if_neg (by simpa using h)]
    unfold St.count
    rw [if_neg (show ¬ (s.settle f.toNat).fuse = 1 from h)]
    rfl
end Go.Proofs.Ytellmmgiabfacaa
