/-
  Contracts of the comparison of two values of like types, second part: compare and the document's.
-/
import Derived.Test.YtogdkhnakenbcaaGreatDoorVCmp
namespace Go.Proofs.YtogdkhnakenbcaaGreatDoor
open Go.ChangeShapes Go.WideShapes Go.ChangeAt Go.RowKit
set_option linter.unusedVariables false

theorem strCompare (a b : ByteArray) (w : World) : Calls Tryz.prog 82 #[.string a, .string b] w fun e w' => e = .returned (.int .i64 (Lib.compareBytes a.data.toList b.data.toList)) ∧ w = w' :=
  (Tryz.strings_Compare a b w).mono fun e w' ⟨h, hw⟩ => ⟨h, hw.symm⟩

theorem cmpV_text {a b : VR} (h : a.k = 4) : cmpV a b = Lib.compareBytes a.t.data.toList b.t.data.toList := if_pos h
theorem cmpV_num {a b : VR} (h : a.k ≠ 4) : cmpV a b = cmpI (a.n * p10 (scl b.k b.s)) (b.n * p10 (scl a.k a.s)) := if_neg h
theorem cmpV_plain {a b : VR} (h : alikeB a.k b.k = true) (hN : isNumB a.k = false) (h4 : a.k ≠ 4) : cmpV a b = cmpI a.n b.n := by
  rw [cmpV_num h4]
  have h1 := (alike_iff _ _).1 h
  have h2 := isNum_not hN
  have h3 : b.k ≠ 3 := by
    have := h1.1
    unfold famI at this
    split at this <;> split at this <;> omega
  have e1 : scl a.k a.s = 0 := by unfold scl; rw [if_neg h2.2]
  have e2 : scl b.k b.s = 0 := by unfold scl; rw [if_neg h3]
  rw [e1, e2, p10_zero, Int.mul_one, Int.mul_one]

set_option maxHeartbeats 800000 in
set_option maxRecDepth 10000 in
theorem compare_any (a b : VR) (w : World) (h : alikeB a.k b.k = true) (ha : In64 a.n) (hb : In64 b.n) :
    Calls Tryz.prog 60 #[a.val, b.val] w fun e w' => e = .returned (.int .i64 (cmpV a b)) ∧ Below w.heap.size w w' := by
  obtain ⟨ak, as_, anl, an, at_⟩ := a
  obtain ⟨bk, bs_, bnl, bn, bt_⟩ := b
  unfold VR.val
  simp only at *
  by_cases h4 : ak = 4
  · have H := Lib.hid (cmpV_text (a := ⟨ak, as_, anl, an, at_⟩) (b := ⟨bk, bs_, bnl, bn, bt_⟩) h4)
    subst h4
    clear h
    go_enter Tryz.func60, Tryz.ntmps60
    go_wp2_with (first | (go_at_call 82; refine (strCompare _ _ _).mono ?_; rintro e w1 ⟨rfl, rfl⟩))
    go_ret
    exact ⟨ret_int H.out.symm, alloc2_below _ _ _⟩
  · have e4 : (ak == 4) = false := by simpa using h4
    cases hN : isNumB ak
    · have H := Lib.hid (cmpV_plain (a := ⟨ak, as_, anl, an, at_⟩) (b := ⟨bk, bs_, bnl, bn, bt_⟩) h hN h4)
      clear h h4
      go_enter Tryz.func60, Tryz.ntmps60
      go_wp2_with fail
      refine (isNumber_any _ _ _).mono ?_
      rintro e w1 ⟨rfl, hb1⟩
      have hc := (bcell hb1).1
      have hB1 := b2 hb1
      clear hb1
      go_wp2_with (first | (go_at_call 84; refine (cmp64 _ _ _).mono ?_; rintro e w2 ⟨rfl, rfl⟩))
      go_ret
      exact ⟨ret_int H.out.symm, hB1⟩
    · have H := Lib.hid (cmpV_num (a := ⟨ak, as_, anl, an, at_⟩) (b := ⟨bk, bs_, bnl, bn, bt_⟩) h4)
      clear h h4
      go_enter Tryz.func60, Tryz.ntmps60
      go_wp2_with fail
      refine (isNumber_any _ _ _).mono ?_
      rintro e w1 ⟨rfl, hb1⟩
      have hc := (bcell hb1).1
      have hB1 := b2 hb1
      clear hb1
      go_wp2_with fail
      refine (compareNumbers_any _ _ _ _ _ _ _ _ _ _ _ ha hb).mono ?_
      rintro e w2 ⟨rfl, hb2⟩
      have hB2 := bt hB1 hb2
      clear hb2 hB1
      go_wp2
      go_ret
      exact ⟨ret_int H.out.symm, hB2⟩

/-- The document's sign of two truths. -/
def signI (a b : Bool) : Int := if a then -1 else if b then 1 else 0
theorem refScale_any (k s : Int) (nl : Bool) (n : Int) (t : ByteArray) (w : World) :
    Calls Tryz.prog 29 #[.agg #[.int .i64 k, .int .i64 s, .bool nl, .int .i64 n, .string t]] w fun e w' => e = .returned (.int .i64 (scl k s : Int)) ∧ Below w.heap.size w w' := by
  by_cases h : k = 3
  · subst h
    have H := Lib.hid (scl_min 3 s rfl)
    go_enter Tryz.func29, Tryz.ntmps29
    go_wp2
    go_ret
    exact ⟨ret_int H.out, alloc_below _ _⟩
  · have H := Lib.hid (scl_no k s h)
    have e1 : (k != 3) = true := by simpa using h
    clear h
    go_enter Tryz.func29, Tryz.ntmps29
    go_wp2
    go_ret
    exact ⟨ret_int H.out.symm, alloc_below _ _⟩
end Go.Proofs.YtogdkhnakenbcaaGreatDoor
