/-
  Of bits: slices.Equal of the same truths, of the same bytes; small; bits out of memory.
-/
import Derived.Test.YtpdffcopigajgaaKRank
import Derived.SizedLaws
import Derived.ChangeSame
import Derived.ChangeSlices
import Derived.Carry
import Derived.WideKeyArgs
import Derived.Deep.Slices
import Derived.Deep.Grids
import Derived.JoinedOf
import Derived.JoinedCond
import Derived.Deep.CondSized
namespace Go.Proofs.Ytpdffcopigajgaa
open Go.ChangeShapes Go.WideShapes Go.ChangeAt Go.RowKit Go.Deep
set_option linter.unusedVariables false

set_option maxHeartbeats 2000000 in
set_option maxRecDepth 100000 in
theorem sameT_any (A C : Option Addr) (c d n : Nat) (l : List Bool) (w : World) (hA : KRd w A l) (hC : KRd w C l) (hn : n = l.length) (hl : l.length ≤ 140737488355328) : Calls Try.prog 16 #[.slice A n c, .slice C n d] w fun e w' => e = .returned (.bool true) ∧ Below w.heap.size w w' := by
  have HA := Lib.hid hA
  have HC := Lib.hid hC
  have HN := Lib.hid hn
  have hnB : n ≤ 140737488355328 := by omega
  clear hA hC hn hl
  go_enter Try.func16, Try.ntmps16
  go_wp2_with fail
  go_loopw [13] (fun idx wr => ∃ (k m : Nat), k ≤ n ∧ idx = .int .i64 (k : Int) ∧ wr = w.drewN m) (fun idx _ => n - (intOf idx).toNat)
  case atStart => exact ⟨0, 0, by omega, rfl, rfl⟩
  case round =>
    obtain ⟨k, m, hk, rfl, rfl⟩ := hrel
    by_cases hkn : k < n
    · have hkl : k < l.length := by have := HN.out; omega
      obtain ⟨g, off, rfl, _, hc1⟩ := HA.out (by omega)
      obtain ⟨g', off', rfl, _, hc2⟩ := HC.out (by omega)
      have c1 : w.cell? ⟨g, off + k, none⟩ = some (.bool l[k]) := hc1 k hkl
      have c2 : w.cell? ⟨g', off' + k, none⟩ = some (.bool l[k]) := hc2 k hkl
      have kI : (k : Int) < (n : Int) := by omega
      have kN : k < n := hkn
      have k0 : (0 : Int) ≤ (k : Int) := by omega
      clear hc1 hc2 hkn
      generalize l[k] = y at *
      clear hkl
      have hyy : (y != y) = false := by simp
      go_wp2_with fail
      go_region
      go_wp2_with fail
      go_roundw
      case rel => exact ⟨k + 1, m + 1, by omega, by go_num, rfl⟩
      case measure => simp [intOf]; omega
    · obtain rfl : k = n := by omega
      have kI : ¬ ((k : Int) < (k : Int)) := by omega
      go_wp2_with fail
      go_ret
      exact ⟨rfl, below_drewN (Below.refl _ _) _⟩
set_option maxHeartbeats 2000000 in
set_option maxRecDepth 100000 in
theorem sameB_any (A C : Option Addr) (c d n : Nat) (l : List UInt8) (w : World) (hA : BRd w A l) (hC : BRd w C l) (hn : n = l.length) (hl : l.length ≤ 140737488355328) : Calls Try.prog 48 #[.slice A n c, .slice C n d] w fun e w' => e = .returned (.bool true) ∧ Below w.heap.size w w' := by
  have HA := Lib.hid hA
  have HC := Lib.hid hC
  have HN := Lib.hid hn
  have hnB : n ≤ 140737488355328 := by omega
  clear hA hC hn hl
  go_enter Try.func48, Try.ntmps48
  go_wp2_with fail
  go_loopw [13] (fun idx wr => ∃ (k m : Nat), k ≤ n ∧ idx = .int .i64 (k : Int) ∧ wr = w.drewN m) (fun idx _ => n - (intOf idx).toNat)
  case atStart => exact ⟨0, 0, by omega, rfl, rfl⟩
  case round =>
    obtain ⟨k, m, hk, rfl, rfl⟩ := hrel
    by_cases hkn : k < n
    · have hkl : k < l.length := by have := HN.out; omega
      obtain ⟨g, off, rfl, _, hc1⟩ := HA.out (by omega)
      obtain ⟨g', off', rfl, _, hc2⟩ := HC.out (by omega)
      have c1 : w.cell? ⟨g, off + k, none⟩ = some (.int .u8 (l[k].toNat : Int)) := hc1 k hkl
      have c2 : w.cell? ⟨g', off' + k, none⟩ = some (.int .u8 (l[k].toNat : Int)) := hc2 k hkl
      have kI : (k : Int) < (n : Int) := by omega
      have kN : k < n := hkn
      have k0 : (0 : Int) ≤ (k : Int) := by omega
      clear hc1 hc2 hkn
      generalize l[k] = y at *
      clear hkl
      have hyy : ((y.toNat : Int) != (y.toNat : Int)) = false := by simp
      go_wp2_with fail
      go_region
      go_wp2_with fail
      go_roundw
      case rel => exact ⟨k + 1, m + 1, by omega, by go_num, rfl⟩
      case measure => simp [intOf]; omega
    · obtain rfl : k = n := by omega
      have kI : ¬ ((k : Int) < (k : Int)) := by omega
      go_wp2_with fail
      go_ret
      exact ⟨rfl, below_drewN (Below.refl _ _) _⟩
/-- Bits that are not too great. -/
def smallL (l : List UInt8) : List UInt8 := l.take 4096
theorem small_len (l : List UInt8) : (smallL l).length = min 4096 l.length := by simp [smallL]
set_option maxHeartbeats 2000000 in
theorem small_any (N : Int) (A : Option Addr) (c : Nat) (l : List UInt8) (w : World) (hc : l.length ≤ c) (hl : l.length ≤ 140737488355328) : Calls Try.prog 11 #[.agg #[.int .i64 N, .slice A l.length c]] w fun e w' => e = .returned (.agg #[.int .i64 N, .slice A (smallL l).length c]) ∧ Below w.heap.size w w' := by
  have HS := Lib.hid (small_len l)
  by_cases h : 4096 < l.length
  · have hI : (4096 : Int) < (l.length : Int) := by omega
    have hcI : (4096 : Int) ≤ (c : Int) := by omega
    have HM : Hid ((smallL l).length = 4096) := by show _ = _; rw [HS.out]; omega
    clear h hc
    go_enter Try.func11, Try.ntmps11
    go_wp2_with fail
    refine bodyPost_ret (v := .agg #[.int .i64 N, .slice A 4096 c]) (by simp [results, Try.results11, go_sem]) rfl ?_
    refine ⟨by rw [HM.out], ?_⟩
    first | exact bt (alloc_below _ _) (alloc_below _ _) | (trace_state; fail)
  · have hI : ¬ (4096 : Int) < (l.length : Int) := by omega
    have HM : Hid ((smallL l).length = l.length) := by show _ = _; rw [HS.out]; omega
    clear h hc
    go_enter Try.func11, Try.ntmps11
    go_wp2_with fail
    refine bodyPost_ret (v := .agg #[.int .i64 N, .slice A l.length c]) (by simp [results, Try.results11, go_sem]) rfl ?_
    refine ⟨by rw [HM.out], ?_⟩
    first | exact bt (alloc_below _ _) (alloc_below _ _) | (trace_state; fail)
end Go.Proofs.Ytpdffcopigajgaa
