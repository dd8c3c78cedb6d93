/-
  Contracts of the wide numbers, fourth part: the document's WideOf, WideMul, Narrow; the comparisons.
-/
import Derived.Test.YtogdkhnakenbcaaGreatDoorProd
import Derived.Laws.StructEq
import Derived.Deep.RegionWith
namespace Go.Proofs.YtogdkhnakenbcaaGreatDoor
open Go.ChangeShapes Go.WideShapes Go.ChangeAt Go.RowKit
set_option linter.unusedVariables false

theorem eqW (a b c d : Int) (w : World) : (Op.equalIn 10000 123 (.agg #[.int .i64 a, .int .u64 b]) (.agg #[.int .i64 c, .int .u64 d])).run Tryz.prog w = .ok (a == c && b == d) w := by
  have u2 := Tryz.underlying2
  have u3 := Tryz.underlying31
  have hS : Tryz.prog.underlying 123 = some (.struct (Tryz.prog.fieldsOf 123)) := by kernel_rfl
  have hp : Tryz.prog.stoodInHeld 123 = false := by kernel_rfl
  rw [show (10000 : Nat) = 9999 + 1 from rfl, run_equalIn_agg w 9999 123 _ _ hS hp]
  simp only [Program.fieldsOf, Tryz.underlying123]
  go_simp
  by_cases h1 : a = c <;> by_cases h2 : b = d <;> simp [h1, h2]

theorem uw (n : Int) (h0 : 0 ≤ n) (h1 : n < 18446744073709551616) : IntKind.u64.wrap n = n := by rw [IntKind.wrap_u64]; omega
theorem neg_halves (p : Nat) (h : p < 340282366920938463463374607431768211456) :
    hiOf (-(p : Int)) = (if p % 18446744073709551616 = 0 then wrap64 (IntKind.u64.wrap (18446744073709551615 - ((p / 18446744073709551616 : Nat) : Int) + 1)) else wrap64 (18446744073709551615 - ((p / 18446744073709551616 : Nat) : Int))) ∧
    loOf (-(p : Int)) = IntKind.u64.wrap (-((p % 18446744073709551616 : Nat) : Int)) := by
  simp only [IntKind.wrap_u64]
  unfold hiOf loOf wrap64
  constructor
  · split <;> omega
  · omega
theorem xor_max (q : Nat) (h : q < 18446744073709551616) : bits BinOp.xor IntKind.u64 IntKind.u64.max (q : Int) = 18446744073709551615 - (q : Int) := by
  show IntKind.u64.wrap ((BitVec.ofInt 64 IntKind.u64.max ^^^ BitVec.ofInt 64 (q : Int)).toNat : Int) = _
  rw [show BitVec.ofInt 64 IntKind.u64.max = BitVec.allOnes 64 by decide, BitVec.allOnes_xor, BitVec.toNat_not, ofInt_u64 q h, IntKind.wrap_u64]
  omega
theorem bcell {W w1 : World} (hb : Below W.heap.size W w1) : (∀ b o, b < W.heap.size → w1.cell? ⟨b, o, none⟩ = W.cell? ⟨b, o, none⟩) ∧ (∀ b o, b < W.heap.size → w1.frozen? ⟨b, o, none⟩ = W.frozen? ⟨b, o, none⟩) :=
  ⟨fun b o h => hb.cell (p := ⟨b, o, none⟩) h, fun b o h => hb.frozen (p := ⟨b, o, none⟩) h⟩
theorem below_drew {B : Nat} {a w : World} (h : Below B a w) : Below B a w.drew := ⟨h.os, h.tape, h.output, h.size, h.block⟩
theorem below_box {w w1 : World} {o : Obj} (hb : Below (w.alloc o).drew.heap.size (w.alloc o).drew w1) : Below w.heap.size w w1 :=
  (below_drew ((Below.refl _ _).alloc (Nat.le_refl _) o)).trans (hb.mono (by simp))
end Go.Proofs.YtogdkhnakenbcaaGreatDoor
