/-
  What Test answers, and that both do.
-/
import Derived.Test.YtogdkhnakenbcaaGreatDoorVTest
namespace Go.Proofs.YtogdkhnakenbcaaGreatDoor
open Go.ChangeShapes Go.WideShapes Go.ChangeAt Go.RowKit
set_option linter.unusedVariables false

/-- What Test answers. -/
def tstV (op : Int) (a b : VR) : Int := if op < 1 ∨ 6 < op ∨ alikeB a.k b.k = false then 0 else if (a.nl || b.nl) = true then 2 else truthI (holdsB op (cmpV a b))
def tstE (op : Int) (a b : VR) : Int := if op < 1 ∨ 6 < op then 1 else if alikeB a.k b.k = false then 21 else 0
theorem tst_any (f : Nat) (bad : ∀ (op : Int) (ak as_ : Int) (anl : Bool) (an : Int) (at_ : ByteArray) (bk bs_ : Int) (bnl : Bool) (bn : Int) (bt_ : ByteArray) (w : World), (op < 1 ∨ 6 < op) → Calls Tryz.prog f #[.int .i64 op, .agg #[.int .i64 ak, .int .i64 as_, .bool anl, .int .i64 an, .string at_], .agg #[.int .i64 bk, .int .i64 bs_, .bool bnl, .int .i64 bn, .string bt_]] w fun e w' => e = .returned (.tuple #[.int .i64 0, .int .i64 1]) ∧ Below w.heap.size w w')
    (typ : ∀ (op : Int) (ak as_ : Int) (anl : Bool) (an : Int) (at_ : ByteArray) (bk bs_ : Int) (bnl : Bool) (bn : Int) (bt_ : ByteArray) (w : World), 1 ≤ op → op ≤ 6 → alikeB ak bk = false → Calls Tryz.prog f #[.int .i64 op, .agg #[.int .i64 ak, .int .i64 as_, .bool anl, .int .i64 an, .string at_], .agg #[.int .i64 bk, .int .i64 bs_, .bool bnl, .int .i64 bn, .string bt_]] w fun e w' => e = .returned (.tuple #[.int .i64 0, .int .i64 21]) ∧ Below w.heap.size w w')
    (nul : ∀ (op : Int) (ak as_ : Int) (anl : Bool) (an : Int) (at_ : ByteArray) (bk bs_ : Int) (bnl : Bool) (bn : Int) (bt_ : ByteArray) (w : World), 1 ≤ op → op ≤ 6 → alikeB ak bk = true → (anl || bnl) = true → Calls Tryz.prog f #[.int .i64 op, .agg #[.int .i64 ak, .int .i64 as_, .bool anl, .int .i64 an, .string at_], .agg #[.int .i64 bk, .int .i64 bs_, .bool bnl, .int .i64 bn, .string bt_]] w fun e w' => e = .returned (.tuple #[.int .i64 2, .int .i64 0]) ∧ Below w.heap.size w w')
    (yes : ∀ (op : Int) (ak as_ an : Int) (at_ : ByteArray) (bk bs_ bn : Int) (bt_ : ByteArray) (w : World), 1 ≤ op → op ≤ 6 → alikeB ak bk = true → In64 an → In64 bn → Calls Tryz.prog f #[.int .i64 op, .agg #[.int .i64 ak, .int .i64 as_, .bool false, .int .i64 an, .string at_], .agg #[.int .i64 bk, .int .i64 bs_, .bool false, .int .i64 bn, .string bt_]] w fun e w' => e = .returned (.tuple #[.int .i64 (truthI (holdsB op (cmpV ⟨ak, as_, false, an, at_⟩ ⟨bk, bs_, false, bn, bt_⟩))), .int .i64 0]) ∧ Below w.heap.size w w')
    (op : Int) (a b : VR) (w : World) (ha : In64 a.n) (hb : In64 b.n) : Calls Tryz.prog f #[.int .i64 op, a.val, b.val] w fun e w' => e = .returned (.tuple #[.int .i64 (tstV op a b), .int .i64 (tstE op a b)]) ∧ Below w.heap.size w w' := by
  obtain ⟨ak, as_, anl, an, at_⟩ := a
  obtain ⟨bk, bs_, bnl, bn, bt_⟩ := b
  have e1 : tstV op ⟨ak, as_, anl, an, at_⟩ ⟨bk, bs_, bnl, bn, bt_⟩ = (if op < 1 ∨ 6 < op ∨ alikeB ak bk = false then 0 else if (anl || bnl) = true then 2 else truthI (holdsB op (cmpV ⟨ak, as_, anl, an, at_⟩ ⟨bk, bs_, bnl, bn, bt_⟩))) := rfl
  have e2 : tstE op ⟨ak, as_, anl, an, at_⟩ ⟨bk, bs_, bnl, bn, bt_⟩ = (if op < 1 ∨ 6 < op then 1 else if alikeB ak bk = false then 21 else 0) := rfl
  rw [e1, e2]
  clear e1 e2
  by_cases h : op < 1 ∨ 6 < op
  · have h' : op < 1 ∨ 6 < op ∨ alikeB ak bk = false := by rcases h with h | h; exact .inl h; exact .inr (.inl h)
    rw [if_pos h', if_pos h]
    exact bad _ _ _ _ _ _ _ _ _ _ _ _ h
  · have h1 : 1 ≤ op := by omega
    have h6 : op ≤ 6 := by omega
    rw [if_neg h]
    cases hA : alikeB ak bk
    · rw [if_pos (.inr (.inr rfl)), if_pos rfl]
      exact typ _ _ _ _ _ _ _ _ _ _ _ _ h1 h6 hA
    · have h' : ¬ (op < 1 ∨ 6 < op ∨ true = false) := by rintro (h | h | h) <;> first | omega | cases h
      rw [if_neg h', if_neg (show ¬ (true = false) by decide)]
      cases anl
      · cases bnl
        · rw [if_neg (show ¬ (false || false) = true by decide)]
          exact yes _ _ _ _ _ _ _ _ _ _ h1 h6 hA ha hb
        · rw [if_pos (show (false || true) = true from rfl)]
          exact nul _ _ _ _ _ _ _ _ _ _ _ _ h1 h6 hA rfl
      · rw [if_pos (show (true || bnl) = true from rfl)]
        exact nul _ _ _ _ _ _ _ _ _ _ _ _ h1 h6 hA rfl
theorem test_any (op : Int) (a b : VR) (w : World) (ha : In64 a.n) (hb : In64 b.n) : Calls Tryz.prog 30 #[.int .i64 op, a.val, b.val] w fun e w' => e = .returned (.tuple #[.int .i64 (tstV op a b), .int .i64 (tstE op a b)]) ∧ Below w.heap.size w w' :=
  tst_any _ test_bad test_type test_null test_yes op a b w ha hb
end Go.Proofs.YtogdkhnakenbcaaGreatDoor
