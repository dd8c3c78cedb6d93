/-
  Contracts of the comparison of two values of like types, third part: the document's compare.
-/
import Derived.Test.YtogdkhnakenbcaaGreatDoorVCmp2
namespace Go.Proofs.YtogdkhnakenbcaaGreatDoor
open Go.ChangeShapes Go.WideShapes Go.ChangeAt Go.RowKit
set_option linter.unusedVariables false

theorem less_cmp : ∀ a b : List UInt8, signI (Op.bytesLess a b) (!Op.bytesLess a b && !(a == b)) = Lib.compareBytes a b
  | [], [] => rfl
  | [], _ :: _ => rfl
  | a :: us, [] => rfl
  | a :: us, b :: vs => by
    have ih := less_cmp us vs
    show signI (decide (a < b) || (a == b && Op.bytesLess us vs)) (!(decide (a < b) || (a == b && Op.bytesLess us vs)) && !((a :: us) == (b :: vs))) = (if a < b then (-1 : Int) else if b < a then 1 else Lib.compareBytes us vs)
    rw [List.cons_beq_cons]
    by_cases h : a < b
    · simp [h, signI]
    · by_cases h2 : b < a
      · have hne : (a == b) = false := by
          rw [beq_eq_false_iff_ne]
          rintro rfl
          exact h h2
        simp [h, h2, hne, signI]
      · have he : a = b := by
          rw [UInt8.lt_iff_toNat_lt] at h h2
          exact UInt8.toNat_inj.1 (by omega)
        subst he
        simp only [h, beq_self_eq_true, Bool.true_and, decide_false, Bool.false_or, if_false]
        exact ih
end Go.Proofs.YtogdkhnakenbcaaGreatDoor
