/-
  Contracts of Test and the document's.
-/
import Derived.Test.YtogdkhnakenbcaaGreatDoorVCmp3
namespace Go.Proofs.YtogdkhnakenbcaaGreatDoor
open Go.ChangeShapes Go.WideShapes Go.ChangeAt Go.RowKit
set_option linter.unusedVariables false

theorem cmpV_one (a b : VR) : cmpV a b = -1 ∨ cmpV a b = 0 ∨ cmpV a b = 1 := by
  unfold cmpV
  split
  · exact cmpB_one _ _
  · exact cmpI_one _ _
theorem holds_op (op : Int) (h1 : 1 ≤ op) (h6 : op ≤ 6) (c : Int) (hc : c = -1 ∨ c = 0 ∨ c = 1) (w : World) :
    Calls Tryz.prog 59 #[.int .i64 op, .int .i64 c] w fun e w' => e = .returned (.bool (holdsB op c)) ∧ w = w' := holds_any op c h1 h6 hc w
theorem alikeV (ak as_ bk bs_ : Int) (w : World) {b : Bool} (h : alikeB ak bk = b) :
    Calls Tryz.prog 57 #[.agg #[.int .i64 ak, .int .i64 as_], .agg #[.int .i64 bk, .int .i64 bs_]] w fun e w' => e = .returned (.bool b) ∧ Below w.heap.size w w' := h ▸ alike_any ak as_ bk bs_ w
theorem compareC (ak as_ : Int) (anl : Bool) (an : Int) (at_ : ByteArray) (bk bs_ : Int) (bnl : Bool) (bn : Int) (bt_ : ByteArray) (w : World) (h : alikeB ak bk = true) (ha : In64 an) (hb : In64 bn) {c : Int} (hc : Hid (cmpV ⟨ak, as_, anl, an, at_⟩ ⟨bk, bs_, bnl, bn, bt_⟩ = c)) :
    Calls Tryz.prog 60 #[.agg #[.int .i64 ak, .int .i64 as_, .bool anl, .int .i64 an, .string at_], .agg #[.int .i64 bk, .int .i64 bs_, .bool bnl, .int .i64 bn, .string bt_]] w fun e w' => e = .returned (.int .i64 c) ∧ Below w.heap.size w w' := hc.out ▸ compare_any ⟨ak, as_, anl, an, at_⟩ ⟨bk, bs_, bnl, bn, bt_⟩ w h ha hb
set_option maxHeartbeats 800000 in
theorem test_bad (op : Int) (ak as_ : Int) (anl : Bool) (an : Int) (at_ : ByteArray) (bk bs_ : Int) (bnl : Bool) (bn : Int) (bt_ : ByteArray) (w : World) (h : op < 1 ∨ 6 < op) :
    Calls Tryz.prog 30 #[.int .i64 op, .agg #[.int .i64 ak, .int .i64 as_, .bool anl, .int .i64 an, .string at_], .agg #[.int .i64 bk, .int .i64 bs_, .bool bnl, .int .i64 bn, .string bt_]] w fun e w' => e = .returned (.tuple #[.int .i64 0, .int .i64 1]) ∧ Below w.heap.size w w' := by
  rcases h with h | h
  all_goals
    go_enter Tryz.func30, Tryz.ntmps30
    go_wp2
    go_ret2
    exact ⟨rfl, alloc2_below _ _ _⟩
set_option maxHeartbeats 800000 in
theorem test_type (op : Int) (ak as_ : Int) (anl : Bool) (an : Int) (at_ : ByteArray) (bk bs_ : Int) (bnl : Bool) (bn : Int) (bt_ : ByteArray) (w : World) (h1 : 1 ≤ op) (h6 : op ≤ 6) (h : alikeB ak bk = false) :
    Calls Tryz.prog 30 #[.int .i64 op, .agg #[.int .i64 ak, .int .i64 as_, .bool anl, .int .i64 an, .string at_], .agg #[.int .i64 bk, .int .i64 bs_, .bool bnl, .int .i64 bn, .string bt_]] w fun e w' => e = .returned (.tuple #[.int .i64 0, .int .i64 21]) ∧ Below w.heap.size w w' := by
  go_enter Tryz.func30, Tryz.ntmps30
  go_wp2_with fail
  refine (alikeV ak as_ bk bs_ _ h).mono ?_
  rintro e w1 ⟨rfl, hb1⟩
  have hB := b2 hb1
  go_wp2
  go_ret2
  exact ⟨rfl, hB⟩
set_option maxHeartbeats 800000 in
theorem test_null (op : Int) (ak as_ : Int) (anl : Bool) (an : Int) (at_ : ByteArray) (bk bs_ : Int) (bnl : Bool) (bn : Int) (bt_ : ByteArray) (w : World) (h1 : 1 ≤ op) (h6 : op ≤ 6) (h : alikeB ak bk = true) (hn : (anl || bnl) = true) :
    Calls Tryz.prog 30 #[.int .i64 op, .agg #[.int .i64 ak, .int .i64 as_, .bool anl, .int .i64 an, .string at_], .agg #[.int .i64 bk, .int .i64 bs_, .bool bnl, .int .i64 bn, .string bt_]] w fun e w' => e = .returned (.tuple #[.int .i64 2, .int .i64 0]) ∧ Below w.heap.size w w' := by
  have hn' : anl = true ∨ (anl = false ∧ bnl = true) := by cases anl <;> simp_all
  clear hn
  rcases hn' with rfl | ⟨rfl, rfl⟩
  all_goals
    go_enter Tryz.func30, Tryz.ntmps30
    go_wp2_with fail
    refine (alikeV ak as_ bk bs_ _ h).mono ?_
    rintro e w1 ⟨rfl, hb1⟩
    have hc1 := (bcell hb1).1
    have hB := b2 hb1
    clear hb1
    go_wp2
    go_ret2
    exact ⟨rfl, hB⟩

set_option maxHeartbeats 800000 in
set_option maxRecDepth 10000 in
theorem test_yes (op : Int) (ak as_ an : Int) (at_ : ByteArray) (bk bs_ bn : Int) (bt_ : ByteArray) (w : World) (h1 : 1 ≤ op) (h6 : op ≤ 6) (h : alikeB ak bk = true) (ha : In64 an) (hb : In64 bn) :
    Calls Tryz.prog 30 #[.int .i64 op, .agg #[.int .i64 ak, .int .i64 as_, .bool false, .int .i64 an, .string at_], .agg #[.int .i64 bk, .int .i64 bs_, .bool false, .int .i64 bn, .string bt_]] w
      fun e w' => e = .returned (.tuple #[.int .i64 (truthI (holdsB op (cmpV ⟨ak, as_, false, an, at_⟩ ⟨bk, bs_, false, bn, bt_⟩))), .int .i64 0]) ∧ Below w.heap.size w w' := by
  obtain ⟨c, hc⟩ : ∃ c, cmpV ⟨ak, as_, false, an, at_⟩ ⟨bk, bs_, false, bn, bt_⟩ = c := ⟨_, rfl⟩
  have hc1 := cmpV_one ⟨ak, as_, false, an, at_⟩ ⟨bk, bs_, false, bn, bt_⟩
  rw [hc] at hc1 ⊢
  have HC := Lib.hid hc
  have HO := Lib.hid hc1
  clear hc hc1
  go_enter Tryz.func30, Tryz.ntmps30
  go_wp2_with fail
  refine (alikeV ak as_ bk bs_ _ h).mono ?_
  rintro e w1 ⟨rfl, hb1⟩
  have hc1 := (bcell hb1).1
  have hB := b2 hb1
  have hz : w.heap.size + 1 < w1.heap.size := by have := hb1.size; simp at this; omega
  clear hb1
  go_wp2_with (first | (go_at_call 60; refine (compareC _ _ _ _ _ _ _ _ _ _ _ h ha hb HC).mono ?_; rintro e w2 ⟨rfl, hb2⟩) | (go_at_call 59; refine (holds_op op h1 h6 c HO.out _).mono ?_; rintro e w3 ⟨rfl, rfl⟩) | (go_at_call 58; refine (truthOf_any _ _).mono ?_; rintro e w4 ⟨rfl, rfl⟩))
  go_ret2
  exact ⟨rfl, bt hB hb2⟩

end Go.Proofs.YtogdkhnakenbcaaGreatDoor
