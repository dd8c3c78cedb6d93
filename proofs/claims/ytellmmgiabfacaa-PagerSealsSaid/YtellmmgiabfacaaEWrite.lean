/-
  The document's disk: Write.
-/
import Derived.Test.YtellmmgiabfacaaEEnds
import Derived.Test.YtellmmgiabfacaaDParts
namespace Go.Proofs.Ytellmmgiabfacaa
open Go.ChangeShapes Go.WideShapes Go.ChangeAt Go.RowKit
set_option linter.unusedVariables false

theorem count_eq (s : St) (ks : List Bool) (hk : s.fuse ≠ 0 → ks = s.keep) (l : List Pc) : (s.add l).count = if decide (s.fuse = 1) = true then ((({ s with calls := next64 s.calls, fuse := s.fuse - 1 } : St).add l).crash ks, 6) else (({ s with calls := next64 s.calls, fuse := s.fuse - 1 } : St).add l, 0) := by
  unfold St.count
  show (if s.fuse = 1 then _ else _) = _
  by_cases h : s.fuse = 1
  · rw [if_pos h, if_pos (by simpa using h)]
    rw [hk (by omega)]
    rfl
  · rw [if_neg h, if_neg (by simpa using h)]
    rfl
theorem brd_take {w : World} {A : Option Addr} {l : List UInt8} (h : BRd w A l) (n : Nat) : BRd w A (l.take n) := fun h0 => by
  have h1 : 0 < l.length := by simp at h0; omega
  obtain ⟨g, off, hA, hg, hc⟩ := h h1
  refine ⟨g, off, hA, hg, fun i hi => ?_⟩
  have hi' : i < l.length := by simp at hi; omega
  rw [hc i hi']
  simp
end Go.Proofs.Ytellmmgiabfacaa
