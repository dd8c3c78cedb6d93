/-
  Contracts of the wide numbers, fourth part: the document's WideOf, WideMul, Narrow; the comparisons.
-/
import Derived.Test.YtglaikeaigbiiaaGreatDoorProd
import Derived.Laws.StructEq
import Derived.Deep.RegionWith
namespace Go.Proofs.YtglaikeaigbiiaaGreatDoor
open Go.ChangeShapes Go.WideShapes Go.ChangeAt Go.RowKit
set_option linter.unusedVariables false

theorem eqW (a b c d : Int) (w : World) : (Op.equalIn 10000 78 (.agg #[.int .i64 a, .int .u64 b]) (.agg #[.int .i64 c, .int .u64 d])).run Tryz.prog w = .ok (a == c && b == d) w := by
  have u2 := Tryz.underlying2
  have u3 := Tryz.underlying40
  have hS : Tryz.prog.underlying 78 = some (.struct (Tryz.prog.fieldsOf 78)) := by kernel_rfl
  have hp : Tryz.prog.stoodInHeld 78 = false := by kernel_rfl
  rw [show (10000 : Nat) = 9999 + 1 from rfl, run_equalIn_agg w 9999 78 _ _ hS hp]
  simp only [Program.fieldsOf, Tryz.underlying78]
  go_simp
  by_cases h1 : a = c <;> by_cases h2 : b = d <;> simp [h1, h2]

theorem uw (n : Int) (h0 : 0 ≤ n) (h1 : n < 18446744073709551616) : IntKind.u64.wrap n = n := by rw [IntKind.wrap_u64]; omega
theorem neg_halves (p : Nat) (h : p < 340282366920938463463374607431768211456) :
    hiOf (-(p : Int)) = (if p % 18446744073709551616 = 0 then wrap64 (IntKind.u64.wrap (18446744073709551615 - ((p / 18446744073709551616 : Nat) : Int) + 1)) else wrap64 (18446744073709551615 - ((p / 18446744073709551616 : Nat) : Int))) ∧
    loOf (-(p : Int)) = IntKind.u64.wrap (-((p % 18446744073709551616 : Nat) : Int)) := by
  simp only [IntKind.wrap_u64]
  unfold hiOf loOf wrap64
  constructor
  · split <;> omega
  · omega
theorem xor_max (q : Nat) (h : q < 18446744073709551616) : bits BinOp.xor IntKind.u64 IntKind.u64.max (q : Int) = 18446744073709551615 - (q : Int) := by
  show IntKind.u64.wrap ((BitVec.ofInt 64 IntKind.u64.max ^^^ BitVec.ofInt 64 (q : Int)).toNat : Int) = _
  rw [show BitVec.ofInt 64 IntKind.u64.max = BitVec.allOnes 64 by decide, BitVec.allOnes_xor, BitVec.toNat_not, ofInt_u64 q h, IntKind.wrap_u64]
  omega
set_option maxHeartbeats 800000 in
theorem wmul_neg (a b X L : Int) (q1 q2 : Nat) (w : World) (ha : In64 a) (hb : In64 b)
    (HHP : Hid (∀ W, Calls Tryz.prog 83 #[.int .u64 (a.natAbs : Int), .int .u64 (b.natAbs : Int)] W fun e w' => e = .returned (.tuple #[.int .u64 (q1 : Int), .int .u64 (q2 : Int)]) ∧ W = w'))
    (hd : (decide (a < 0) == decide (b < 0)) = false) (hxor : bits BinOp.xor IntKind.u64 IntKind.u64.max (q1 : Int) = X) (hwq : IntKind.u64.wrap (-(q2 : Int)) = L) (hL : (L == 0) = false) :
    Calls Tryz.prog 67 #[.int .i64 a, .int .i64 b] w fun e w' => e = .returned (.agg #[.int .i64 (wrap64 X), .int .u64 L]) ∧ Below w.heap.size w w' := by
  go_enter Tryz.func67, Tryz.ntmps67
  go_wp2_with fail
  refine (amount_any _ _ ha).mono ?_; rintro e w' ⟨rfl, rfl⟩
  go_wp2_with fail
  refine (amount_any _ _ hb).mono ?_; rintro e w' ⟨rfl, rfl⟩
  go_wp2_with fail
  refine (HHP.out _).mono ?_; rintro e w' ⟨rfl, rfl⟩
  clear HHP
  go_wp2
  refine bodyPost_ret (v := .agg #[.int .i64 (wrap64 X), .int .u64 L]) (by simp [results, Tryz.results67, go_sem]) rfl ?_
  exact ⟨rfl, (Below.refl _ _).alloc (Nat.le_refl _) _⟩
set_option maxHeartbeats 800000 in
set_option maxRecDepth 100000 in
theorem refWideMul_any (a b : Int) (w : World) (ha : In64 a) (hb : In64 b) :
    Calls Tryz.prog 67 #[.int .i64 a, .int .i64 b] w fun e w' => e = .returned (wv (a * b)) ∧ Below w.heap.size w w' := by
  have hx := u64_abs ha
  have hy := u64_abs hb
  have hs := mul_sv a b
  obtain ⟨p, hp⟩ : ∃ p, p = a.natAbs * b.natAbs := ⟨_, rfl⟩
  have hpl : p ≤ 85070591730234615865843651857942052864 := by
    rw [hp]
    have h1 : a.natAbs ≤ 9223372036854775808 := by unfold In64 at ha; omega
    have h2 : b.natAbs ≤ 9223372036854775808 := by unfold In64 at hb; omega
    exact Nat.mul_le_mul h1 h2
  have HP : ∀ W, Calls Tryz.prog 83 #[.int .u64 (a.natAbs : Int), .int .u64 (b.natAbs : Int)] W fun e w' => e = .returned (.tuple #[.int .u64 ((p / 18446744073709551616 : Nat) : Int), .int .u64 ((p % 18446744073709551616 : Nat) : Int)]) ∧ W = w' := by
    intro W; rw [hp]; exact product_any _ _ hx hy W
  have HHP := Lib.hid HP
  clear HP
  rw [← hp] at hs
  by_cases ho : opp a b = true
  · rw [ho] at hs
    have hN := neg_halves p (by omega)
    have e : -(p : Int) = a * b := hs.symm
    rw [e] at hN
    have hd : (decide (a < 0) == decide (b < 0)) = false := by unfold opp at ho; simpa using ho
    have b1 : ((p / 18446744073709551616 : Nat) : Int) ≤ 4611686018427387904 := by omega
    have b2 : ((p % 18446744073709551616 : Nat) : Int) < 18446744073709551616 := by omega
    clear hs hp ho hpl e
    generalize p / 18446744073709551616 = q1 at *
    generalize p % 18446744073709551616 = q2 at *
    have hxor := xor_max q1 (by omega)
    by_cases hz : q2 = 0
    · subst hz
      rw [if_pos rfl] at hN
      have hH := Lib.hid hN.1
      have hL := Lib.hid hN.2
      clear hN
      go_enter Tryz.func67, Tryz.ntmps67
      go_wp2_with (first | (go_at_call 73; refine (amount_any _ _ (by assumption)).mono ?_; rintro e w' ⟨rfl, rfl⟩) | (go_at_call 83; refine (HHP.out _).mono ?_; rintro e w' ⟨rfl, rfl⟩))
      refine bodyPost_ret (v := .agg #[.int .i64 (wrap64 (IntKind.u64.wrap (18446744073709551615 - (q1 : Int) + 1))), .int .u64 0]) (by simp [results, Tryz.results67, go_sem]) rfl ?_
      exact ⟨wv_eq hH.out.symm (by rw [hL.out]; rfl), (Below.refl _ _).alloc (Nat.le_refl _) _⟩
    · rw [if_neg hz] at hN
      have hH := Lib.hid hN.1
      have hL := Lib.hid hN.2
      have hz2 : (0 : Int) < (q2 : Int) := by omega
      clear hN
      have hwq : IntKind.u64.wrap (-(q2 : Int)) = 18446744073709551616 - (q2 : Int) := by rw [IntKind.wrap_u64]; omega
      refine (wmul_neg a b _ _ q1 q2 w ha hb HHP hd hxor hwq (by simp; omega)).mono fun e w' ⟨h, h'⟩ => ⟨h.trans (wv_eq hH.out.symm (by rw [hL.out, hwq])), h'⟩
  · have ho' : opp a b = false := by simpa using ho
    rw [ho'] at hs
    have hH : Hid (wrap64 ((p / 18446744073709551616 : Nat) : Int) = hiOf (a * b)) := by show _ = _; rw [hs]; unfold hiOf sv; rfl
    have hL : Hid (((p % 18446744073709551616 : Nat) : Int) = loOf (a * b)) := by show _ = _; rw [hs]; unfold loOf sv; rfl
    have hd : (decide (a < 0) == decide (b < 0)) = true := by unfold opp at ho'; simpa using ho'
    have b1 : ((p / 18446744073709551616 : Nat) : Int) ≤ 4611686018427387904 := by omega
    have b2 : ((p % 18446744073709551616 : Nat) : Int) < 18446744073709551616 := by omega
    clear hs hp ho ho' hpl
    generalize p / 18446744073709551616 = q1 at *
    generalize p % 18446744073709551616 = q2 at *
    go_enter Tryz.func67, Tryz.ntmps67
    go_wp2_with (first | (go_at_call 73; refine (amount_any _ _ (by assumption)).mono ?_; rintro e w' ⟨rfl, rfl⟩) | (go_at_call 83; refine (HHP.out _).mono ?_; rintro e w' ⟨rfl, rfl⟩))
    refine bodyPost_ret (v := .agg #[.int .i64 q1, .int .u64 q2]) (by simp [results, Tryz.results67, go_sem]) rfl ?_
    exact ⟨wv_eq (by rw [← hH.out]; unfold wrap64; omega) hL.out, (Below.refl _ _).alloc (Nat.le_refl _) _⟩

theorem bcell {W w1 : World} (hb : Below W.heap.size W w1) : (∀ b o, b < W.heap.size → w1.cell? ⟨b, o, none⟩ = W.cell? ⟨b, o, none⟩) ∧ (∀ b o, b < W.heap.size → w1.frozen? ⟨b, o, none⟩ = W.frozen? ⟨b, o, none⟩) :=
  ⟨fun b o h => hb.cell (p := ⟨b, o, none⟩) h, fun b o h => hb.frozen (p := ⟨b, o, none⟩) h⟩
theorem below_drew {B : Nat} {a w : World} (h : Below B a w) : Below B a w.drew := ⟨h.os, h.tape, h.output, h.size, h.block⟩
theorem below_box {w w1 : World} {o : Obj} (hb : Below (w.alloc o).drew.heap.size (w.alloc o).drew w1) : Below w.heap.size w w1 :=
  (below_drew ((Below.refl _ _).alloc (Nat.le_refl _) o)).trans (hb.mono (by simp))
end Go.Proofs.YtglaikeaigbiiaaGreatDoor
