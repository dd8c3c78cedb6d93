/-
  Contracts of codec.Writer.
-/
import Derived.Test.YtdjppchcnbfcoaaCApp
import Derived.Test.YtdjppchcnbfcoaaCBytes
namespace Go.Proofs.Ytdjppchcnbfcoaa
open Go.ChangeShapes Go.WideShapes Go.ChangeAt Go.RowKit
set_option linter.unusedVariables false

/-- A writer that NewWriter made, in the block g; what it has written lies at v. -/
structure WrS (w : World) (B g : Nat) (v : Value) (l : List UInt8) : Prop where
  low : B ≤ g
  box : w.heap[g]? = some (.cells #[.bool true, v] 67 (0, 0))
  own : OwnB w B v l
/-- Of the blocks that were there only the writer's own two are written. -/
structure WGr (w w' : World) (g : Nat) (v v' : Value) : Prop where
  os : w'.os = w.os
  tape : w'.tape = w.tape
  output : w'.output = w.output
  size : w.heap.size ≤ w'.heap.size
  block : ∀ k, k < w.heap.size → k ≠ g → v.ownBlock ≠ some k → w'.heap[k]? = w.heap[k]?
  at_ : v'.ownBlock = v.ownBlock ∨ ∀ k, v'.ownBlock = some k → w.heap.size ≤ k
theorem box_cell {w : World} {g : Nat} {a0 a1 : Value} {t : TypeId} (h : w.heap[g]? = some (.cells #[a0, a1] t (0, 0))) : w.cell? ⟨g, 0, none⟩ = some a0 ∧ w.cell? ⟨g, 1, none⟩ = some a1 ∧ w.frozen? ⟨g, 0, none⟩ = false ∧ w.frozen? ⟨g, 1, none⟩ = false := by
  refine ⟨?_, ?_, ?_, ?_⟩
  · rw [cell_of_row w g _ _ t (0, 0) h]; rfl
  · rw [cell_of_row w g _ _ t (0, 0) h]; rfl
  · simp [World.frozen?, h]
  · simp [World.frozen?, h]

theorem newWriter_any (w : World) :
    Calls Try.prog 12 #[] w fun e w' => e = .returned (.pointer (some ⟨w.heap.size, 0, none⟩)) ∧ w.alloc (.cells #[.bool true, .slice none 0 0] 67) = w' := by
  go_enter Try.func12, Try.ntmps12
  go_wp2
  go_ret
  exact ⟨rfl, rfl⟩
set_option maxHeartbeats 1000000 in
theorem room_any (w : World) (B g : Nat) (v : Value) (l : List UInt8) (n : Nat) (h : WrS w B g v l) (hl : l.length ≤ 1048576) (hn : n ≤ 4611686018427387904) :
    Calls Try.prog 59 #[.pointer (some ⟨g, 0, none⟩), .int .i64 n] w fun e w' => e = .returned (.int .i64 (if l.length + n ≤ 1048576 then 0 else 3)) ∧ w = w' := by
  obtain ⟨c0, c1, f0, f1⟩ := box_cell h.box
  obtain ⟨a, cap, rfl, _, _⟩ := h.own.slice
  clear h
  by_cases hc : l.length + n ≤ 1048576
  · have hI : (l.length : Int) + (n : Int) ≤ 1048576 := by omega
    rw [if_pos hc]
    clear hc
    go_enter Try.func59, Try.ntmps59
    go_wp2
    go_ret
    exact ⟨rfl, rfl⟩
  · have hI : 1048576 < (l.length : Int) + (n : Int) := by omega
    rw [if_neg hc]
    clear hc
    go_enter Try.func59, Try.ntmps59
    go_wp2
    go_ret
    exact ⟨rfl, rfl⟩
set_option maxHeartbeats 1000000 in
theorem len_any (w : World) (B g : Nat) (v : Value) (l : List UInt8) (h : WrS w B g v l) :
    Calls Try.prog 16 #[.pointer (some ⟨g, 0, none⟩)] w fun e w' => e = .returned (.int .i64 (l.length : Int)) ∧ w = w' := by
  obtain ⟨c0, c1, f0, f1⟩ := box_cell h.box
  obtain ⟨a, cap, rfl, _, _⟩ := h.own.slice
  clear h
  go_enter Try.func16, Try.ntmps16
  go_wp2
  go_ret
  exact ⟨rfl, rfl⟩
set_option maxHeartbeats 1000000 in
theorem out_any (w : World) (B g : Nat) (v : Value) (l : List UInt8) (h : WrS w B g v l) (hl : l.length ≤ 140737488355328) :
    Calls Try.prog 18 #[.pointer (some ⟨g, 0, none⟩)] w fun e w' => ∃ v', e = .returned v' ∧ OwnB w' w.heap.size v' l ∧ Below w.heap.size w w' := by
  obtain ⟨c0, c1, f0, f1⟩ := box_cell h.box
  obtain ⟨a, cap, rfl, _, _⟩ := h.own.slice
  have HB := Lib.hid h.own.brd
  clear h
  go_enter Try.func18, Try.ntmps18
  go_wp2_with fail
  refine (clone_any _ _ _ _ HB.out hl).mono ?_
  rintro e w1 ⟨v1, rfl, hown, hb⟩
  have HO := Lib.hid hown
  have HL := Lib.hid hb
  clear hown hb
  go_wp2_with fail
  go_ret
  exact ⟨_, rfl, HO.out, HL.out⟩
end Go.Proofs.Ytdjppchcnbfcoaa
