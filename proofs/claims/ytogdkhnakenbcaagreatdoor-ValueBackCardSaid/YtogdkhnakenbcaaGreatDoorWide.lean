/-
  Contracts of the wide numbers, first part: signs, WideOf, WideMul, Narrow and the document's answers.
-/
import Derived.Test.YtogdkhnakenbcaaGreatDoorSums
import Derived.Test.YtogdkhnakenbcaaGreatDoorShelf
import Derived.Laws.BitsAllLaws
import Derived.Laws.Bits64
import Derived.Laws.MathBits
import Derived.Deep.Draws
import Derived.Deep.QuietTactic
import Derived.BigQuiet
import Derived.Below
namespace Go.Proofs.YtogdkhnakenbcaaGreatDoor
open Go.ChangeShapes Go.WideShapes Go.ChangeAt Go.RowKit
set_option linter.unusedVariables false

/-- The two halves of a number modulo 2^128. -/
def hiOf (n : Int) : Int := wrap64 (n / 18446744073709551616)
def loOf (n : Int) : Int := n % 18446744073709551616
theorem loOf_bd (n : Int) : 0 ≤ loOf n ∧ loOf n ≤ 18446744073709551615 := by unfold loOf; omega
theorem hiOf_bd (n : Int) : -9223372036854775808 ≤ hiOf n ∧ hiOf n ≤ 9223372036854775807 := by unfold hiOf wrap64; omega

def sgn (n : Int) : Int := if n < 0 then -1 else 0
theorem signs_any (n : Int) (w : World) (h : In64 n) :
    Calls Tryz.prog 166 #[.int .i64 n] w fun e w' => e = .returned (.int .i64 (sgn n)) ∧ w = w' := by
  unfold In64 at h
  go_enter Tryz.func166, Tryz.ntmps166
  go_wp2
  go_ret
  exact ⟨ret_int (by unfold sgn; split <;> omega), rfl⟩

theorem or_join (z c : Int) (hc : 0 ≤ c) (hc2 : c < 4294967296) : bits .or .u64 (z * 4294967296 % 18446744073709551616) c = z * 4294967296 % 18446744073709551616 + c := by
  rw [u64_or _ _ (by omega) (by omega) (by omega) (by omega), nat_join 32 _ _ (by omega) (by omega)]
  omega

theorem prod_parts (a b : Nat) (ha : a < 18446744073709551616) (hb : b < 18446744073709551616) :
    IntKind.u64.wrap (IntKind.u64.wrap (IntKind.u64.wrap ((a : Int) / 4294967296 * ((b : Int) / 4294967296)) + IntKind.u64.wrap (IntKind.u64.wrap ((a : Int) / 4294967296 * bits BinOp.and IntKind.u64 (b : Int) 4294967295) + IntKind.u64.wrap (bits BinOp.and IntKind.u64 (a : Int) 4294967295 * bits BinOp.and IntKind.u64 (b : Int) 4294967295) / 4294967296) / 4294967296) +
        IntKind.u64.wrap (IntKind.u64.wrap (bits BinOp.and IntKind.u64 (a : Int) 4294967295 * ((b : Int) / 4294967296)) + bits BinOp.and IntKind.u64 (IntKind.u64.wrap (IntKind.u64.wrap ((a : Int) / 4294967296 * bits BinOp.and IntKind.u64 (b : Int) 4294967295) + IntKind.u64.wrap (bits BinOp.and IntKind.u64 (a : Int) 4294967295 * bits BinOp.and IntKind.u64 (b : Int) 4294967295) / 4294967296)) 4294967295) / 4294967296) = ((a * b / 18446744073709551616 : Nat) : Int) ∧
    bits BinOp.or IntKind.u64 (IntKind.u64.wrap (IntKind.u64.wrap (IntKind.u64.wrap (bits BinOp.and IntKind.u64 (a : Int) 4294967295 * ((b : Int) / 4294967296)) + bits BinOp.and IntKind.u64 (IntKind.u64.wrap (IntKind.u64.wrap ((a : Int) / 4294967296 * bits BinOp.and IntKind.u64 (b : Int) 4294967295) + IntKind.u64.wrap (bits BinOp.and IntKind.u64 (a : Int) 4294967295 * bits BinOp.and IntKind.u64 (b : Int) 4294967295) / 4294967296)) 4294967295) * 4294967296))
        (bits BinOp.and IntKind.u64 (IntKind.u64.wrap (bits BinOp.and IntKind.u64 (a : Int) 4294967295 * bits BinOp.and IntKind.u64 (b : Int) 4294967295)) 4294967295) = ((a * b % 18446744073709551616 : Nat) : Int) := by
  have hxy : ((a * b : Nat) : Int) = (a : Int) * (b : Int) := Int.natCast_mul a b
  have e1 : ((a * b / 18446744073709551616 : Nat) : Int) = (a : Int) * (b : Int) / 18446744073709551616 := by rw [← hxy]; rfl
  have e2 : ((a * b % 18446744073709551616 : Nat) : Int) = (a : Int) * (b : Int) % 18446744073709551616 := by rw [← hxy]; rfl
  rw [e1, e2]
  clear hxy e1 e2
  have a0 : (0 : Int) ≤ (a : Int) := by omega
  have a1 : (a : Int) < 18446744073709551616 := by omega
  have b0 : (0 : Int) ≤ (b : Int) := by omega
  have b1 : (b : Int) < 18446744073709551616 := by omega
  generalize (a : Int) = x at *
  generalize (b : Int) = y at *
  simp only [IntKind.wrap_u64]
  rw [and_low32 x a0 a1, and_low32 y b0 b1]
  have ex : x = x / 4294967296 * 4294967296 + x % 4294967296 := by omega
  have ey : y = y / 4294967296 * 4294967296 + y % 4294967296 := by omega
  generalize hx1 : x / 4294967296 = x1 at *
  generalize hx0' : x % 4294967296 = x0 at *
  generalize hy1 : y / 4294967296 = y1 at *
  generalize hy0' : y % 4294967296 = y0 at *
  have c1 : 0 ≤ x1 ∧ x1 ≤ 4294967295 := by omega
  have c2 : 0 ≤ x0 ∧ x0 ≤ 4294967295 := by omega
  have c3 : 0 ≤ y1 ∧ y1 ≤ 4294967295 := by omega
  have c4 : 0 ≤ y0 ∧ y0 ≤ 4294967295 := by omega
  have pA := prod_bound x1 y1 c1.1 c1.2 c3.1 c3.2
  have pB := prod_bound x1 y0 c1.1 c1.2 c4.1 c4.2
  have pC := prod_bound x0 y0 c2.1 c2.2 c4.1 c4.2
  have pD := prod_bound x0 y1 c2.1 c2.2 c3.1 c3.2
  have hxy : x * y = x1 * y1 * 18446744073709551616 + (x1 * y0 + x0 * y1) * 4294967296 + x0 * y0 := by rw [ex, ey]; exact split_mul x1 x0 y1 y0
  rw [hxy]
  clear hxy ex ey hx1 hx0' hy1 hy0'
  generalize x1 * y1 = A at *
  generalize x1 * y0 = B at *
  generalize x0 * y0 = C at *
  generalize x0 * y1 = D at *
  have wC : C % 18446744073709551616 = C := by omega
  have wB : B % 18446744073709551616 = B := by omega
  have wD : D % 18446744073709551616 = D := by omega
  have wA : A % 18446744073709551616 = A := by omega
  rw [wA, wB, wC, wD]
  have wT : (B + C / 4294967296) % 18446744073709551616 = B + C / 4294967296 := by omega
  rw [wT, and_low32 (B + C / 4294967296) (by omega) (by omega), and_low32 C (by omega) (by omega)]
  have wZ : (D + (B + C / 4294967296) % 4294967296) % 18446744073709551616 = D + (B + C / 4294967296) % 4294967296 := by omega
  rw [wZ, or_join _ _ (by omega) (by omega)]
  constructor <;> omega

theorem product_any (a b : Nat) (ha : a < 18446744073709551616) (hb : b < 18446744073709551616) (w : World) :
    Calls Tryz.prog 80 #[.int .u64 a, .int .u64 b] w fun e w' => e = .returned (.tuple #[.int .u64 ((a * b / 18446744073709551616 : Nat) : Int), .int .u64 ((a * b % 18446744073709551616 : Nat) : Int)]) ∧ w = w' := by
  go_enter Tryz.func80, Tryz.ntmps80
  go_wp2
  go_ret2
  exact ⟨ret_pair (prod_parts a b ha hb).1 (prod_parts a b ha hb).2, rfl⟩
end Go.Proofs.YtogdkhnakenbcaaGreatDoor
