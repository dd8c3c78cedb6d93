/-
  Contracts of the comparison of two values of like types, third part: the document's compare.
-/
import Derived.Test.YtglaikeaigbiiaaGreatDoorVCmp2
namespace Go.Proofs.YtglaikeaigbiiaaGreatDoor
open Go.ChangeShapes Go.WideShapes Go.ChangeAt Go.RowKit
set_option linter.unusedVariables false

theorem less_cmp : ∀ a b : List UInt8, signI (Op.bytesLess a b) (!Op.bytesLess a b && !(a == b)) = Lib.compareBytes a b
  | [], [] => rfl
  | [], _ :: _ => rfl
  | a :: us, [] => rfl
  | a :: us, b :: vs => by
    have ih := less_cmp us vs
    show signI (decide (a < b) || (a == b && Op.bytesLess us vs)) (!(decide (a < b) || (a == b && Op.bytesLess us vs)) && !((a :: us) == (b :: vs))) = (if a < b then (-1 : Int) else if b < a then 1 else Lib.compareBytes us vs)
    rw [List.cons_beq_cons]
    by_cases h : a < b
    · simp [h, signI]
    · by_cases h2 : b < a
      · have hne : (a == b) = false := by
          rw [beq_eq_false_iff_ne]
          rintro rfl
          exact h h2
        simp [h, h2, hne, signI]
      · have he : a = b := by
          rw [UInt8.lt_iff_toNat_lt] at h h2
          exact UInt8.toNat_inj.1 (by omega)
        subst he
        simp only [h, beq_self_eq_true, Bool.true_and, decide_false, Bool.false_or, if_false]
        exact ih
theorem sign_same (a b : Bool) (w : World) : Calls Tryz.prog 43 #[.bool a, .bool b] w fun e w' => e = .returned (.int .i64 (signI a b)) ∧ w' = w :=
  (sign_any a b w).mono fun e w' ⟨h, hw⟩ => ⟨h, hw.symm⟩

set_option maxHeartbeats 800000 in
set_option maxRecDepth 10000 in
theorem refCompare_text (as_ : Int) (anl : Bool) (an : Int) (at_ : ByteArray) (bk bs_ : Int) (bnl : Bool) (bn : Int) (bt_ : ByteArray) (w : World) :
    Calls Tryz.prog 45 #[.agg #[.int .i64 4, .int .i64 as_, .bool anl, .int .i64 an, .string at_], .agg #[.int .i64 bk, .int .i64 bs_, .bool bnl, .int .i64 bn, .string bt_]] w
      fun e w' => e = .returned (.int .i64 (Lib.compareBytes at_.data.toList bt_.data.toList)) ∧ Below w.heap.size w w' := by
  have H : Hid (signI (Op.bytesLess at_.toList bt_.toList) (!Op.bytesLess at_.toList bt_.toList && !(at_.toList == bt_.toList)) = Lib.compareBytes at_.data.toList bt_.data.toList) := by
    show _ = _
    rw [less_cmp, Lib.toList_data, Lib.toList_data]
  go_enter Tryz.func45, Tryz.ntmps45
  go_wp2_with (first | (go_at_call 43; refine (sign_any _ _ _).mono ?_; rintro e w1 ⟨rfl, rfl⟩))
  try go_quiet ((go_at_call 43; exact Calls.quiet_of_same (sign_same _ _ _)))
  try go_wp2
  go_ret
  first | exact ⟨ret_int H.out, alloc2_drewN _ _ _ _⟩ | exact ⟨ret_int H.out, alloc2_below _ _ _⟩

set_option maxHeartbeats 800000 in
set_option maxRecDepth 10000 in
theorem refCompare_num (ak as_ : Int) (anl : Bool) (an : Int) (at_ : ByteArray) (bk bs_ : Int) (bnl : Bool) (bn : Int) (bt_ : ByteArray) (w : World) (h4 : ak ≠ 4) (ha : In64 an) (hb : In64 bn) :
    Calls Tryz.prog 45 #[.agg #[.int .i64 ak, .int .i64 as_, .bool anl, .int .i64 an, .string at_], .agg #[.int .i64 bk, .int .i64 bs_, .bool bnl, .int .i64 bn, .string bt_]] w
      fun e w' => e = .returned (.int .i64 (cmpI (an * p10 (scl bk bs_)) (bn * p10 (scl ak as_)))) ∧ Below w.heap.size w w' := by
  have x1 := scl_bd ak as_
  have y1 := scl_bd bk bs_
  have e4 : (ak == 4) = false := by simpa using h4
  have p1 : max (scl ak as_) (scl bk bs_) - scl ak as_ ≤ 18 := by omega
  have q1 : max (scl ak as_) (scl bk bs_) - scl bk bs_ ≤ 18 := by omega
  have s1 : max (scl ak as_ : Int) (scl bk bs_ : Int) - (scl ak as_ : Int) = ((max (scl ak as_) (scl bk bs_) - scl ak as_ : Nat) : Int) := by omega
  have s2 : max (scl ak as_ : Int) (scl bk bs_ : Int) - (scl bk bs_ : Int) = ((max (scl ak as_) (scl bk bs_) - scl bk bs_ : Nat) : Int) := by omega
  have hpx := p10_in64 _ p1
  have hpy := p10_in64 _ q1
  have HE := Lib.hid ((cmpW_mul an _ bn _ ha hpx hb hpy).trans (cmp_max ⟨ak, as_, anl, an, at_⟩ ⟨bk, bs_, bnl, bn, bt_⟩ _ (Nat.le_max_left _ _) (Nat.le_max_right _ _)))
  clear h4
  go_enter Tryz.func45, Tryz.ntmps45
  go_wp2_with fail
  go_region_held3 (fun w' => w'.cell? ⟨w.heap.size, 0, none⟩ = some (.int .i64 ak) ∧ w'.cell? ⟨w.heap.size, 1, none⟩ = some (.int .i64 as_) ∧ w'.cell? ⟨w.heap.size, 2, none⟩ = some (.bool anl) ∧ w'.cell? ⟨w.heap.size, 3, none⟩ = some (.int .i64 an) ∧ w'.cell? ⟨w.heap.size, 4, none⟩ = some (.string at_) ∧ w'.cell? ⟨w.heap.size + 1, 0, none⟩ = some (.int .i64 bk) ∧ w'.cell? ⟨w.heap.size + 1, 1, none⟩ = some (.int .i64 bs_) ∧ w'.cell? ⟨w.heap.size + 1, 2, none⟩ = some (.bool bnl) ∧ w'.cell? ⟨w.heap.size + 1, 3, none⟩ = some (.int .i64 bn) ∧ w'.cell? ⟨w.heap.size + 1, 4, none⟩ = some (.string bt_) ∧ w.heap.size + 1 < w'.heap.size ∧ Below w.heap.size w w')
      (((try go_split_ands); refine ⟨?_, ?_, ?_, ?_, ?_, ?_, ?_, ?_, ?_, ?_, ?_, ?_⟩ <;> first | assumption | (with_reducible exact below_drew (alloc2_below _ _ _)) | (rw [(bcell hb1).1 _ _ (by omega)]; assumption) | (have := hb1.size; omega) | (with_reducible refine bt ?_ hb1; assumption) | go_keep))
      (first | (go_at_call 64; refine (refScale_any _ _ _ _ _ _).mono ?_; rintro e w1 ⟨rfl, hb1⟩))
  rename_i hH
  obtain ⟨a0, a1, a2, a3, a4, b0, b1, b2, b3, b4, hz, hB⟩ := hH
  have hz0 : w.heap.size < w1.heap.size := by omega
  go_wp2_with fail
  refine (refScale_any _ _ _ _ _ _).mono ?_
  rintro e w2 ⟨rfl, hb2⟩
  have hc2 := (bcell hb2).1
  have hB2 := bt hB hb2
  have hz2 : w.heap.size + 1 < w2.heap.size := by have := hb2.size; omega
  have hz3 : w.heap.size < w2.heap.size := by omega
  clear hb2
  go_wp2_with fail
  refine (refPow10_yes _ p1 _).mono ?_
  rintro e w3 ⟨rfl, rfl⟩
  go_wp2_with fail
  refine (refScale_any _ _ _ _ _ _).mono ?_
  rintro e w4 ⟨rfl, hb4⟩
  have hc4 := (bcell hb4).1
  have hB4 := bt hB2 hb4
  have hz4 : w.heap.size + 1 < w4.heap.size := by have := hb4.size; omega
  have hz5 : w.heap.size < w4.heap.size := by omega
  clear hb4
  go_wp2_with fail
  refine (refPow10_yes _ q1 _).mono ?_
  rintro e w5 ⟨rfl, rfl⟩
  go_wp2_with fail
  have n1 : w4.cell? ⟨w.heap.size, 3, none⟩ = some (.int .i64 an) := by rw [hc4 _ _ hz3, hc2 _ _ hz0]; exact a3
  have n2 : w4.cell? ⟨w.heap.size + 1, 3, none⟩ = some (.int .i64 bn) := by rw [hc4 _ _ hz2, hc2 _ _ hz]; exact b3
  clear hc4 hc2 a0 a1 a2 a3 a4 b0 b1 b2 b3 b4 hz hz0 hz2 hz3 hB hB2 s1 s2
  go_region_held3 (fun w' => w'.cell? ⟨w.heap.size, 3, none⟩ = some (.int .i64 an) ∧ w'.cell? ⟨w.heap.size + 1, 3, none⟩ = some (.int .i64 bn) ∧ w.heap.size + 1 < w'.heap.size ∧ Below w.heap.size w w')
      (((try go_split_ands); refine ⟨?_, ?_, ?_, ?_⟩ <;> first | assumption | (with_reducible exact below_drew (by assumption)) | (rw [(bcell hb1).1 _ _ (by omega)]; assumption) | (have := hb1.size; omega) | (with_reducible refine bt ?_ hb1; assumption) | go_keep))
      (first | (go_at_call 67; refine (refWideMulA _ _ _ (by assumption) (by assumption)).mono ?_; rintro e w1 ⟨rfl, hb1⟩) | (go_at_call 66; refine (refWideCmp_any _ _ _ _ _).mono ?_; rintro e w1 ⟨rfl, hb1⟩))
  rename_i hH
  obtain ⟨-, -, -, hB7⟩ := hH
  go_wp2
  go_ret
  exact ⟨ret_int HE.out, hB7⟩

set_option maxRecDepth 10000 in
theorem refCompare_any (a b : VR) (w : World) (ha : In64 a.n) (hb : In64 b.n) :
    Calls Tryz.prog 45 #[a.val, b.val] w fun e w' => e = .returned (.int .i64 (cmpV a b)) ∧ Below w.heap.size w w' := by
  obtain ⟨ak, as_, anl, an, at_⟩ := a
  obtain ⟨bk, bs_, bnl, bn, bt_⟩ := b
  by_cases h4 : ak = 4
  · subst h4
    exact refCompare_text _ _ _ _ _ _ _ _ _ _
  · rw [cmpV_num h4]
    exact refCompare_num _ _ _ _ _ _ _ _ _ _ _ h4 ha hb
end Go.Proofs.YtglaikeaigbiiaaGreatDoor
