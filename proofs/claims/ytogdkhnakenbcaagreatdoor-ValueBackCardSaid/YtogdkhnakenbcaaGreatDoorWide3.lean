/-
  Contracts of the wide numbers, third part: Narrow, Mul and the document's answers.
-/
import Derived.Test.YtogdkhnakenbcaaGreatDoorWide2
import Derived.Deep.RegionWith
namespace Go.Proofs.YtogdkhnakenbcaaGreatDoor
open Go.ChangeShapes Go.WideShapes Go.ChangeAt Go.RowKit
set_option linter.unusedVariables false

/-- The number that the two halves hold. -/
def num128 (h l : Int) : Int := h * 18446744073709551616 + l
theorem narrow_in {h l : Int} (hh : In64 h) (l0 : 0 ≤ l) (l1 : l ≤ 18446744073709551615) (e : h = sgn (wrap64 l)) : okOr (num128 h l) = wrap64 l ∧ errOr (num128 h l) = 0 := by
  have hN : num128 h l = wrap64 l ∧ In64 (num128 h l) := by
    unfold sgn at e; unfold num128 In64; unfold wrap64 at *; split at e <;> omega
  rw [okOr_in hN.2, errOr_in hN.2]; exact ⟨hN.1, rfl⟩
theorem narrow_out {h l : Int} (hh : In64 h) (l0 : 0 ≤ l) (l1 : l ≤ 18446744073709551615) (e : h ≠ sgn (wrap64 l)) : okOr (num128 h l) = 0 ∧ errOr (num128 h l) = 10 := by
  have hN : ¬ In64 (num128 h l) := by
    intro hc; apply e
    unfold num128 In64 at hc; unfold sgn; unfold wrap64 at *; split <;> omega
  exact ⟨okOr_out hN, errOr_out hN⟩
theorem in64_wrap (l : Int) : In64 (wrap64 l) := by unfold In64 wrap64; omega

theorem signs_same (n : Int) (w : World) (h : In64 n) : Calls Tryz.prog 166 #[.int .i64 n] w fun e w' => e = .returned (.int .i64 (sgn n)) ∧ w' = w :=
  (signs_any n w h).mono fun e w' ⟨a, b⟩ => ⟨a, b.symm⟩

theorem narrow_any (h l : Int) (w : World) (hh : In64 h) (l0 : 0 ≤ l) (l1 : l ≤ 18446744073709551615) :
    Calls Tryz.prog 137 #[.agg #[.int .i64 h, .int .u64 l]] w fun e w' => e = .returned (.tuple #[.int .i64 (okOr (num128 h l)), .int .i64 (errOr (num128 h l))]) ∧ Below w.heap.size w w' := by
  have hi := in64_wrap l
  by_cases e : h = sgn (wrap64 l)
  · have H := narrow_in hh l0 l1 e
    have H1 := Lib.hid H.1
    have H2 := Lib.hid H.2
    have ht : (h != sgn (wrap64 l)) = false := by simp [e]
    clear H e
    go_enter Tryz.func137, Tryz.ntmps137
    go_wp2
    go_quiet ((go_at_call 166; exact Calls.quiet_of_same (signs_same _ _ hi)))
    go_wp2
    go_ret2
    exact ⟨ret_pair H1.out.symm H2.out.symm, below_drewN ((Below.refl _ _).alloc (Nat.le_refl _) _) _⟩
  · have H := narrow_out hh l0 l1 e
    have H1 := Lib.hid H.1
    have H2 := Lib.hid H.2
    have ht : (h != sgn (wrap64 l)) = true := by simp [e]
    clear H e
    go_enter Tryz.func137, Tryz.ntmps137
    go_wp2
    go_quiet ((go_at_call 166; exact Calls.quiet_of_same (signs_same _ _ hi)))
    go_wp2
    go_ret2
    exact ⟨ret_pair H1.out.symm H2.out.symm, below_drewN ((Below.refl _ _).alloc (Nat.le_refl _) _) _⟩

theorem num_of_halves (n : Int) (h0 : -170141183460469231731687303715884105728 ≤ n) (h1 : n ≤ 170141183460469231731687303715884105727) : num128 (hiOf n) (loOf n) = n := by
  unfold num128 hiOf loOf wrap64; omega
theorem mul_128 (a b : Int) (ha : In64 a) (hb : In64 b) : -170141183460469231731687303715884105728 ≤ a * b ∧ a * b ≤ 170141183460469231731687303715884105727 := by
  unfold In64 at ha hb
  have key : ∀ x y : Int, 0 ≤ x → x ≤ 9223372036854775808 → 0 ≤ y → y ≤ 9223372036854775808 → 0 ≤ x * y ∧ x * y ≤ 85070591730234615865843651857942052864 := fun x y h0 h1 h2 h3 =>
    ⟨Int.mul_nonneg h0 h2, by have := Int.mul_le_mul h1 h3 h2 (by omega : (0 : Int) ≤ 9223372036854775808); simpa using this⟩
  by_cases c : 0 ≤ a <;> by_cases d : 0 ≤ b
  · have := key a b c (by omega) d (by omega); omega
  · have := key a (-b) c (by omega) (by omega) (by omega); rw [Int.mul_neg] at this; omega
  · have := key (-a) b (by omega) (by omega) d (by omega); rw [Int.neg_mul] at this; omega
  · have := key (-a) (-b) (by omega) (by omega) (by omega) (by omega); rw [Int.neg_mul_neg] at this; omega

theorem mul_any (a b : Int) (w : World) (ha : In64 a) (hb : In64 b) :
    Calls Tryz.prog 109 #[.int .i64 a, .int .i64 b] w fun e w' => e = .returned (.tuple #[.int .i64 (okOr (a * b)), .int .i64 (errOr (a * b))]) ∧ Below w.heap.size w w' := by
  have hm := mul_128 a b ha hb
  have HN := Lib.hid (num_of_halves (a * b) hm.1 hm.2)
  have hh := hiOf_bd (a * b)
  have hl := loOf_bd (a * b)
  go_enter Tryz.func109, Tryz.ntmps109
  go_wp2_with fail
  refine (wideMul_any a b _ ha hb).mono ?_
  rintro e w1 ⟨rfl, hb1⟩
  go_wp2_with fail
  refine (narrow_any (hiOf (a * b)) (loOf (a * b)) _ hh hl.1 hl.2).mono ?_
  rw [HN.out]
  rintro e w2 ⟨rfl, hb2⟩
  go_wp2
  go_ret2
  exact ⟨rfl, hb1.trans (hb2.mono hb1.size)⟩
end Go.Proofs.YtogdkhnakenbcaaGreatDoor
