/-
  What the second form's bound gives.
-/
import Derived.Test.YtdjppchcnbfcoaaCOpen
namespace Go.Proofs.Ytdjppchcnbfcoaa
open Go.ChangeShapes Go.WideShapes Go.ChangeAt Go.RowKit Go.Deep
set_option linter.unusedVariables false

theorem bulk_one {H : Type} (d : DataW H) : 0 + 1 ≤ Rows.uptoBulk d := by
  cases d with
  | lit l => cases l <;> simp [Rows.uptoBulk]
  | nil => simp [Rows.uptoBulk]
  | ptr d => simp [Rows.uptoBulk]
  | slice elems spare => simp [Rows.uptoBulk]
  | agg parts => simp [Rows.uptoBulk]
  | iface t d => simp [Rows.uptoBulk]
  | map entries => simp [Rows.uptoBulk]
  | held h => simp [Rows.uptoBulk]
theorem bulk_len {H : Type} (l : List (DataW H)) : l.length ≤ Rows.uptoBulkAll l := by
  induction l with
  | nil => simp [Rows.uptoBulkAll]
  | cons x r ih => have := bulk_one x; simp only [Rows.uptoBulkAll, List.length_cons]; omega
theorem bulk_slice {H : Type} (el sp : List (DataW H)) : el.length + 1 ≤ Rows.uptoBulk (.slice el sp) := by
  have h1 := bulk_len el
  simp only [Rows.uptoBulk]
  omega
/-- How many letters and values a list of pieces has. -/
def bulkP : List PR → Nat
  | [] => 0
  | p :: l => p.s.length + 1 + bulkP l
theorem bulkP_mem : ∀ {l : List PR} {p : PR}, p ∈ l → p.s.length + 1 ≤ bulkP l
  | x :: l, p, h => by
    simp only [bulkP]
    rcases List.mem_cons.1 h with rfl | h
    · omega
    · have := bulkP_mem h; omega
theorem bulkP_len : ∀ l : List PR, l.length ≤ bulkP l
  | [] => Nat.le_refl _
  | x :: l => by have := bulkP_len l; simp only [bulkP, List.length_cons]; omega
theorem bulkP_list {H : Type} : ∀ (ps : List PR) (D : Nat → DataW H), (∀ i (hi : i < ps.length), ps[i].s.length + 1 ≤ Rows.uptoBulk (D i)) → bulkP ps ≤ Rows.uptoBulkAll ((List.range ps.length).map D)
  | [], D, _ => Nat.zero_le _
  | x :: l, D, h => by
    rw [List.length_cons, List.range_succ_eq_map]
    simp only [List.map_cons, List.map_map, Rows.uptoBulkAll, bulkP]
    have h0 := h 0 (by simp)
    simp only [List.getElem_cons_zero] at h0
    have h1 := bulkP_list l (D ∘ Nat.succ) (fun i hi => by have := h (i + 1) (by simpa using hi); simpa using this)
    omega
theorem pieces_bulk {H : Type} {ps : List PR} {d : DataW H} (h : ps = [] ∨ ∃ (D : Nat → DataW H) (spare : List (DataW H)), d = .slice ((List.range ps.length).map D) spare ∧ ∀ i (hi : i < ps.length), Says ps[i] (D i)) : bulkP ps + 1 ≤ Rows.uptoBulk d := by
  rcases h with rfl | ⟨D, sp, rfl, hs⟩
  · exact bulk_one d
  · have h1 := bulkP_list ps D fun i hi => (hs i hi).bulk
    simp only [Rows.uptoBulk]
    omega
end Go.Proofs.Ytdjppchcnbfcoaa
