/-
  Contracts of the three truths: isNumber, Alike, And, Or, Not, Truth and the document's answers.
-/
import Derived.Test.YtogdkhnakenbcaaGreatDoorVOrd
namespace Go.Proofs.YtogdkhnakenbcaaGreatDoor
open Go.ChangeShapes Go.WideShapes Go.ChangeAt Go.RowKit
set_option linter.unusedVariables false

theorem alloc_below (w : World) (o : Obj) : Below w.heap.size w (w.alloc o) := (Below.refl _ _).alloc (Nat.le_refl _) _

theorem isNumber_any (k s : Int) (w : World) :
    Calls Tryz.prog 81 #[.agg #[.int .i64 k, .int .i64 s]] w fun e w' => e = .returned (.bool (isNumB k)) ∧ Below w.heap.size w w' := by
  by_cases h2 : k = 2
  · subst h2
    go_enter Tryz.func81, Tryz.ntmps81
    go_wp2
    go_ret
    exact ⟨rfl, alloc_below _ _⟩
  · by_cases h3 : k = 3
    · subst h3
      go_enter Tryz.func81, Tryz.ntmps81
      go_wp2
      go_ret
      exact ⟨rfl, alloc_below _ _⟩
    · have H : Hid (isNumB k = false) := by show _ = _; simp [isNumB, h2, h3]
      have e2 : (k == 2) = false := by simpa using h2
      have e3 : (k == 3) = false := by simpa using h3
      clear h2 h3
      go_enter Tryz.func81, Tryz.ntmps81
      go_wp2
      go_ret
      exact ⟨ret_bool H.out.symm, alloc_below _ _⟩

theorem b1 {w w1 : World} {o : Obj} (h : Below (w.alloc o).heap.size (w.alloc o) w1) : Below w.heap.size w w1 := (alloc_below w o).trans (h.mono (by simp))
theorem b2 {w w1 : World} {o o' : Obj} (h : Below ((w.alloc o).alloc o').heap.size ((w.alloc o).alloc o') w1) : Below w.heap.size w w1 := b1 (b1 h)
theorem alloc2_below (w : World) (o o' : Obj) : Below w.heap.size w ((w.alloc o).alloc o') := b2 (Below.refl _ _)
theorem bt {w w1 w2 : World} (h : Below w.heap.size w w1) (h' : Below w1.heap.size w1 w2) : Below w.heap.size w w2 := h.trans (h'.mono h.size)

theorem isNum_of {k : Int} (h : isNumB k = true) : k = 2 ∨ k = 3 := by simpa [isNumB] using h
theorem isNum_not {k : Int} (h : isNumB k = false) : k ≠ 2 ∧ k ≠ 3 := by simpa [isNumB] using h
theorem alike_num {k k' : Int} (h : isNumB k = true) : alikeB k k' = isNumB k' := by
  rw [Bool.eq_iff_iff, alike_iff]
  unfold isNumB famI
  simp only [Bool.or_eq_true, beq_iff_eq]
  rcases isNum_of h with rfl | rfl
  all_goals
    split <;> (try split) <;> omega
theorem alike_other {k k' : Int} (h : k = 1 ∨ k = 4 ∨ k = 5) : alikeB k k' = (k == k') := by
  rw [Bool.eq_iff_iff, alike_iff, beq_iff_eq]
  unfold famI
  split <;> split <;> omega
theorem alike_none {k k' : Int} (h : isNumB k = false) (h1 : k ≠ 1) (h4 : k ≠ 4) (h5 : k ≠ 5) : alikeB k k' = false := by
  have := isNum_not h
  cases e : alikeB k k'
  · rfl
  · have := (alike_iff _ _).1 e
    omega

set_option maxHeartbeats 800000 in
theorem alike_any (k s k' s' : Int) (w : World) :
    Calls Tryz.prog 57 #[.agg #[.int .i64 k, .int .i64 s], .agg #[.int .i64 k', .int .i64 s']] w fun e w' => e = .returned (.bool (alikeB k k')) ∧ Below w.heap.size w w' := by
  cases hN : isNumB k
  · by_cases h1 : k = 1 ∨ k = 4 ∨ k = 5
    · have H := Lib.hid (alike_other (k' := k') h1)
      rcases h1 with rfl | rfl | rfl
      all_goals
        go_enter Tryz.func57, Tryz.ntmps57
        go_wp2_with (first | (go_at_call 81; refine (isNumber_any _ _ _).mono ?_; rintro e w1 ⟨rfl, hb⟩; have hc := (bcell hb).1; have hB := b2 hb; clear hb))
        go_ret
        exact ⟨ret_bool (H.out.symm ▸ rfl), hB⟩
    · have H := Lib.hid (alike_none (k' := k') hN (by omega) (by omega) (by omega))
      have e1 : (k == 1) = false := by simp; omega
      have e4 : (k == 4) = false := by simp; omega
      have e5 : (k == 5) = false := by simp; omega
      clear h1
      go_enter Tryz.func57, Tryz.ntmps57
      go_wp2_with (first | (go_at_call 81; refine (isNumber_any _ _ _).mono ?_; rintro e w1 ⟨rfl, hb⟩; have hc := (bcell hb).1; have hB := b2 hb; clear hb))
      go_ret
      exact ⟨ret_bool H.out.symm, hB⟩
  · have H := Lib.hid (alike_num (k' := k') hN)
    go_enter Tryz.func57, Tryz.ntmps57
    go_wp2_with fail
    refine (isNumber_any _ _ _).mono ?_
    rintro e w1 ⟨rfl, hb⟩
    have hc := (bcell hb).1
    have hB := b2 hb
    clear hb
    go_wp2_with fail
    refine (isNumber_any _ _ _).mono ?_
    rintro e w2 ⟨rfl, hb⟩
    have hB2 := bt hB hb
    clear hb hB
    go_wp2
    go_ret
    exact ⟨ret_bool H.out.symm, hB2⟩

theorem family_any (k : Int) (w : World) :
    Calls Tryz.prog 47 #[.int .i64 k] w fun e w' => e = .returned (.int .i64 (famI k)) ∧ w = w' := by
  by_cases h : k = 3
  · subst h
    go_enter Tryz.func47, Tryz.ntmps47
    go_wp2
    go_ret
    exact ⟨rfl, rfl⟩
  · have H : Hid (famI k = k) := by show _ = _; simp [famI, h]
    have e3 : (k == 3) = false := by simpa using h
    clear h
    go_enter Tryz.func47, Tryz.ntmps47
    go_wp2
    go_ret
    exact ⟨ret_int H.out.symm, rfl⟩

theorem family_same (k : Int) (w : World) : Calls Tryz.prog 47 #[.int .i64 k] w fun e w' => e = .returned (.int .i64 (famI k)) ∧ w' = w :=
  (family_any k w).mono fun e w' ⟨a, b⟩ => ⟨a, b.symm⟩
theorem alloc2_drewN (w : World) (o o' : Obj) (n : Nat) : Below w.heap.size w (((w.alloc o).alloc o').drewN n) := below_drewN (alloc2_below w o o') n

/-- Does the comparison hold of two values whose order is c? -/
def holdsB (op c : Int) : Bool := if op = 1 then c == 0 else if op = 2 then c != 0 else if op = 3 then decide (c < 0) else if op = 4 then decide (c ≤ 0) else if op = 5 then decide (0 < c) else decide (0 ≤ c)
def truthI (b : Bool) : Int := if b then 1 else 0
theorem truthOf_any (b : Bool) (w : World) : Calls Tryz.prog 58 #[.bool b] w fun e w' => e = .returned (.int .i64 (truthI b)) ∧ w = w' := by
  cases b
  all_goals
    go_enter Tryz.func58, Tryz.ntmps58
    go_wp2
    go_ret
    exact ⟨rfl, rfl⟩
theorem op_cases {op : Int} (h1 : 1 ≤ op) (h6 : op ≤ 6) : op = 1 ∨ op = 2 ∨ op = 3 ∨ op = 4 ∨ op = 5 ∨ op = 6 := by omega
theorem holds_any (op c : Int) (h1 : 1 ≤ op) (h6 : op ≤ 6) (hc : c = -1 ∨ c = 0 ∨ c = 1) (w : World) :
    Calls Tryz.prog 59 #[.int .i64 op, .int .i64 c] w fun e w' => e = .returned (.bool (holdsB op c)) ∧ w = w' := by
  rcases op_cases h1 h6 with rfl | rfl | rfl | rfl | rfl | rfl
  all_goals
    rcases hc with rfl | rfl | rfl
    all_goals
      clear h1 h6
      go_enter Tryz.func59, Tryz.ntmps59
      go_wp2
      go_ret
      exact ⟨rfl, rfl⟩
end Go.Proofs.YtogdkhnakenbcaaGreatDoor
