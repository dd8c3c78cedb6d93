/-
  The contract of the statements' own first look: a sum, a day and a decimal are what they are.
-/
import Derived.Test.YtflkljenkhjnfaaDoorDay
import Derived.Test.YtflkljenkhjnfaaDoorText
namespace Go.Proofs.YtflkljenkhjnfaaDoor
open Go.ChangeShapes Go.WideShapes Go.ChangeAt Go.RowKit
open Cal
set_option linter.unusedVariables false

theorem dec_five : decL (-5) 2 = [45, 48, 46, 48, 53] := by
  have h : Lib.decDigits 5 = [53] := Lib.decDigits_one (by omega)
  have h2 : padL (-5 : Int).natAbs (2 + 1) = [48, 48, 53] := by
    show Lib.repeatL [48] (3 - (Lib.decDigits 5).length) ++ Lib.decDigits 5 = _
    rw [h]; rfl
  unfold decL
  rw [h2]; rfl

theorem begun_add (w : World) : Calls Tryd.prog 13 #[.int .i64 2, .int .i64 3] w fun e w' => e = .returned (.tuple #[.int .i64 5, .int .i64 0]) ∧ w = w' :=
  (add_any 2 3 w (by decide) (by decide)).mono fun e w' ⟨h, hw⟩ => ⟨h.trans (ret_pair (by decide) (by decide)), hw⟩
theorem begun_day (w : World) (hM : MLaid w) : Calls Tryd.prog 44 #[.int .i64 2000, .int .i64 3, .int .i64 1] w fun e w' => e = .returned (.tuple #[.int .i64 11017, .int .i64 0]) ∧ w = w' :=
  (day_yes 2000 3 1 w hM (by decide)).mono fun e w' ⟨h, hw⟩ => ⟨h.trans (ret_pair (by decide) rfl), hw⟩
theorem begun_dec (w : World) (hP : PowLaid w) : Calls Tryd.prog 38 #[.int .i64 (-5), .int .i64 2] w fun e w' => e = .returned (.tuple #[.string ⟨#[45, 48, 46, 48, 53]⟩, .int .i64 0]) ∧ Below w.heap.size w w' :=
  (formatDec_yes (-5) 2 (by decide) (by omega) w hP).mono fun e w' ⟨h, hw⟩ => ⟨h.trans (ret_bytesE (by rw [dec_five])), hw⟩

theorem begun_any (w : World) (hM : MLaid w) (hP : PowLaid w) :
    Calls Tryd.prog 19 #[] w fun e w' => e = .returned (.bool true) ∧ Below w.heap.size w w' := by
  go_enter Tryd.func19, Tryd.ntmps19
  go_wp2_with (first | (go_at_call 13; refine (begun_add _).mono ?_; rintro e w' ⟨rfl, rfl⟩) | (go_at_call 44; refine (begun_day _ hM).mono ?_; rintro e w' ⟨rfl, rfl⟩) | (go_at_call 38; refine (begun_dec _ hP).mono ?_; rintro e w' ⟨rfl, hb⟩))
  go_ret
  exact ⟨rfl, hb⟩
end Go.Proofs.YtflkljenkhjnfaaDoor
