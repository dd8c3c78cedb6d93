/-
  Contracts of the wide numbers, second part: WideOf, WideMul and the document's answers.
-/
import Derived.Test.YtogdkhnakenbcaaGreatDoorWide
import Derived.Test.YtogdkhnakenbcaaGreatDoorFormat
namespace Go.Proofs.YtogdkhnakenbcaaGreatDoor
open Go.ChangeShapes Go.WideShapes Go.ChangeAt Go.RowKit
set_option linter.unusedVariables false

/-- The value of type Wide that holds n modulo 2^128. -/
def wv (n : Int) : Value := .agg #[.int .i64 (hiOf n), .int .u64 (loOf n)]
theorem ret_agg {a b c d : Int} {v : Value} (h : v = .agg #[.int .i64 a, .int .u64 b]) (h1 : a = c) (h2 : b = d) : Ending.returned v = .returned (.agg #[.int .i64 c, .int .u64 d]) := by rw [h, h1, h2]

theorem hi_sgn (n : Int) (h : In64 n) : sgn n = hiOf n := by unfold In64 at h; unfold sgn hiOf wrap64; split <;> omega
theorem lo_wrap (n : Int) : IntKind.u64.wrap n = loOf n := by rw [IntKind.wrap_u64]; rfl
theorem wv_eq {a b n : Int} (h1 : a = hiOf n) (h2 : b = loOf n) : Ending.returned (.agg #[.int .i64 a, .int .u64 b]) = .returned (wv n) := by rw [h1, h2]; rfl

theorem mul_pp (a b x y : Int) (hx : x = a) (hy : y = b) (hx0 : 0 ≤ x) (hx1 : x < 9223372036854775808) (hy0 : 0 ≤ y) (hy1 : y < 9223372036854775808) :
    wrap64 (x * y / 18446744073709551616) = hiOf (a * b) ∧ x * y % 18446744073709551616 = loOf (a * b) := by
  subst hx; subst hy; exact ⟨rfl, rfl⟩
theorem mul_np (a b x y : Int) (hx : x = a + 18446744073709551616) (hy : y = b) :
    wrap64 (IntKind.u64.wrap (x * y / 18446744073709551616 - y)) = hiOf (a * b) ∧ x * y % 18446744073709551616 = loOf (a * b) := by
  have e : x * y = a * b + b * 18446744073709551616 := by rw [hx, hy, Int.add_mul, Int.mul_comm 18446744073709551616 b]
  rw [e, hy, IntKind.wrap_u64]
  unfold hiOf loOf wrap64
  generalize a * b = p
  omega
theorem mul_pn (a b x y : Int) (hx : x = a) (hy : y = b + 18446744073709551616) :
    wrap64 (IntKind.u64.wrap (x * y / 18446744073709551616 - x)) = hiOf (a * b) ∧ x * y % 18446744073709551616 = loOf (a * b) := by
  have e : x * y = a * b + a * 18446744073709551616 := by rw [hx, hy, Int.mul_add]
  rw [e, hx, IntKind.wrap_u64]
  unfold hiOf loOf wrap64
  generalize a * b = p
  omega
theorem mul_nn (a b x y : Int) (hx : x = a + 18446744073709551616) (hy : y = b + 18446744073709551616) :
    wrap64 (IntKind.u64.wrap (IntKind.u64.wrap (x * y / 18446744073709551616 - y) - x)) = hiOf (a * b) ∧ x * y % 18446744073709551616 = loOf (a * b) := by
  have e : x * y = a * b + a * 18446744073709551616 + b * 18446744073709551616 + 18446744073709551616 * 18446744073709551616 := by
    rw [hx, hy, Int.add_mul, Int.mul_add, Int.mul_add, Int.mul_comm 18446744073709551616 b]; omega
  rw [e, hx, hy, IntKind.wrap_u64, IntKind.wrap_u64]
  unfold hiOf loOf wrap64
  generalize a * b = p
  omega

theorem mul64_int (x y : Int) (w : World) (hx0 : 0 ≤ x) (hx1 : x < 18446744073709551616) (hy0 : 0 ≤ y) (hy1 : y < 18446744073709551616) :
    Calls Tryz.prog 141 #[.int .u64 x, .int .u64 y] w fun e w' => e = .returned (.tuple #[.int .u64 (x * y / 18446744073709551616), .int .u64 (x * y % 18446744073709551616)]) ∧ w = w' := by
  obtain ⟨a, rfl⟩ : ∃ a : Nat, x = a := ⟨x.toNat, by omega⟩
  obtain ⟨b, rfl⟩ : ∃ b : Nat, y = b := ⟨y.toNat, by omega⟩
  refine (Tryz.bits_Mul64 a b (by omega) (by omega) w).mono fun e w' ⟨h, hw⟩ => ⟨h.trans (ret_pair ?_ ?_), hw.symm⟩
  · rw [← Int.natCast_mul]; rfl
  · rw [← Int.natCast_mul]; rfl
theorem mul_bd (x y : Int) (hx0 : 0 ≤ x) (hx1 : x < 18446744073709551616) (hy0 : 0 ≤ y) (hy1 : y < 18446744073709551616) : 0 ≤ x * y / 18446744073709551616 ∧ x * y / 18446744073709551616 < 18446744073709551616 := by
  have h1 := Int.mul_nonneg hx0 hy0
  have h2 := Int.mul_le_mul (Int.le_of_lt_add_one (show x < 18446744073709551615 + 1 by omega)) (Int.le_of_lt_add_one (show y < 18446744073709551615 + 1 by omega)) hy0 (by omega : (0 : Int) ≤ 18446744073709551615)
  generalize x * y = p at *
  omega

set_option maxHeartbeats 800000 in
theorem wideMul_any (a b : Int) (w : World) (ha : In64 a) (hb : In64 b) :
    Calls Tryz.prog 113 #[.int .i64 a, .int .i64 b] w fun e w' => e = .returned (wv (a * b)) ∧ Below w.heap.size w w' := by
  unfold In64 at ha hb
  by_cases h1 : a < 0
  · have wa : Hid (IntKind.u64.wrap a = a + 18446744073709551616) := by show _ = _; rw [IntKind.wrap_u64]; omega
    have wa0 : 0 ≤ IntKind.u64.wrap a := by rw [wa.out]; omega
    have wa1 : IntKind.u64.wrap a < 18446744073709551616 := by rw [wa.out]; omega
    by_cases h2 : b < 0
    · have wb : Hid (IntKind.u64.wrap b = b + 18446744073709551616) := by show _ = _; rw [IntKind.wrap_u64]; omega
      have wb0 : 0 ≤ IntKind.u64.wrap b := by rw [wb.out]; omega
      have wb1 : IntKind.u64.wrap b < 18446744073709551616 := by rw [wb.out]; omega
      have hm := mul_bd _ _ wa0 wa1 wb0 wb1
      have HX := mul_nn a b _ _ wa.out wb.out
      have HX1 := Lib.hid HX.1
      have HX2 := Lib.hid HX.2
      clear HX
      go_enter Tryz.func113, Tryz.ntmps113
      go_wp2_with (go_at_call 141; refine (mul64_int _ _ _ wa0 wa1 wb0 wb1).mono ?_; rintro e w' ⟨rfl, rfl⟩)
      refine bodyPost_ret (v := .agg #[.int .i64 (wrap64 (IntKind.u64.wrap (IntKind.u64.wrap (IntKind.u64.wrap a * IntKind.u64.wrap b / 18446744073709551616 - IntKind.u64.wrap b) - IntKind.u64.wrap a))), .int .u64 (IntKind.u64.wrap a * IntKind.u64.wrap b % 18446744073709551616)]) (by simp [results, Tryz.results113, go_sem]) rfl ?_
      exact ⟨wv_eq HX1.out HX2.out, (Below.refl _ _).alloc (Nat.le_refl _) _⟩
    · have hm := mul_bd _ _ wa0 wa1 (show (0 : Int) ≤ b by omega) (by omega)
      have HX := mul_np a b _ b wa.out rfl
      have HX1 := Lib.hid HX.1
      have HX2 := Lib.hid HX.2
      clear HX
      go_enter Tryz.func113, Tryz.ntmps113
      go_wp2_with (go_at_call 141; refine (mul64_int _ _ _ wa0 wa1 (by omega) (by omega)).mono ?_; rintro e w' ⟨rfl, rfl⟩)
      refine bodyPost_ret (v := .agg #[.int .i64 (wrap64 (IntKind.u64.wrap (IntKind.u64.wrap a * b / 18446744073709551616 - b))), .int .u64 (IntKind.u64.wrap a * b % 18446744073709551616)]) (by simp [results, Tryz.results113, go_sem]) rfl ?_
      exact ⟨wv_eq HX1.out HX2.out, (Below.refl _ _).alloc (Nat.le_refl _) _⟩
  · by_cases h2 : b < 0
    · have wb : Hid (IntKind.u64.wrap b = b + 18446744073709551616) := by show _ = _; rw [IntKind.wrap_u64]; omega
      have wb0 : 0 ≤ IntKind.u64.wrap b := by rw [wb.out]; omega
      have wb1 : IntKind.u64.wrap b < 18446744073709551616 := by rw [wb.out]; omega
      have hm := mul_bd _ _ (show (0 : Int) ≤ a by omega) (by omega) wb0 wb1
      have HX := mul_pn a b a _ rfl wb.out
      have HX1 := Lib.hid HX.1
      have HX2 := Lib.hid HX.2
      clear HX
      go_enter Tryz.func113, Tryz.ntmps113
      go_wp2_with (go_at_call 141; refine (mul64_int _ _ _ (by omega) (by omega) wb0 wb1).mono ?_; rintro e w' ⟨rfl, rfl⟩)
      refine bodyPost_ret (v := .agg #[.int .i64 (wrap64 (IntKind.u64.wrap (a * IntKind.u64.wrap b / 18446744073709551616 - a))), .int .u64 (a * IntKind.u64.wrap b % 18446744073709551616)]) (by simp [results, Tryz.results113, go_sem]) rfl ?_
      exact ⟨wv_eq HX1.out HX2.out, (Below.refl _ _).alloc (Nat.le_refl _) _⟩
    · have hm := mul_bd a b (by omega) (by omega) (by omega) (by omega)
      have hz : a * b / 18446744073709551616 < 9223372036854775808 := by
        have h2 := Int.mul_le_mul ha.2 hb.2 (by omega) (by omega : (0 : Int) ≤ 9223372036854775807)
        generalize a * b = p at *
        omega
      have HX := mul_pp a b a b rfl rfl (by omega) (by omega) (by omega) (by omega)
      have HX1 := Lib.hid HX.1
      have HX2 := Lib.hid HX.2
      clear HX
      go_enter Tryz.func113, Tryz.ntmps113
      go_wp2_with (go_at_call 141; refine (mul64_int _ _ _ (by omega) (by omega) (by omega) (by omega)).mono ?_; rintro e w' ⟨rfl, rfl⟩)
      refine bodyPost_ret (v := .agg #[.int .i64 (a * b / 18446744073709551616), .int .u64 (a * b % 18446744073709551616)]) (by simp [results, Tryz.results113, go_sem]) rfl ?_
      exact ⟨wv_eq (by rw [← HX1.out]; unfold wrap64; omega) HX2.out, (Below.refl _ _).alloc (Nat.le_refl _) _⟩
end Go.Proofs.YtogdkhnakenbcaaGreatDoor
