/-
  Contracts of the sums (num.Add, Sub, Neg and the document's answers for them).
-/
import Derived.Test.YtflkljenkhjnfaaDoorRows
import Derived.WalkKit
import Derived.ProofKit
import Derived.OpenShut
import Derived.Lib.Hide
namespace Go.Proofs.YtflkljenkhjnfaaDoor
open Go.ChangeShapes Go.WideShapes Go.ChangeAt Go.RowKit
set_option linter.unusedVariables false

theorem ret_pair {k k' : IntKind} {a b c d : Int} (h : a = b) (h' : c = d) : Ending.returned (.tuple #[.int k a, .int k' c]) = .returned (.tuple #[.int k b, .int k' d]) := by rw [h, h']

theorem ret_int {k : IntKind} {a b : Int} (h : a = b) : Ending.returned (.int k a) = .returned (.int k b) := by rw [h]
theorem ret_bool {a b : Bool} (h : a = b) : Ending.returned (.bool a) = .returned (.bool b) := by rw [h]

/-- Is it a whole number of 64 bits? -/
def In64 (n : Int) : Prop := -9223372036854775808 ≤ n ∧ n ≤ 9223372036854775807
instance (n : Int) : Decidable (In64 n) := by unfold In64; infer_instance
/-- The number, and no error; or nought, and that it is out of range. -/
def okOr (n : Int) : Int := if In64 n then n else 0
def errOr (n : Int) : Int := if In64 n then 0 else 10
theorem okOr_in {n : Int} (h : In64 n) : okOr n = n := if_pos h
theorem errOr_in {n : Int} (h : In64 n) : errOr n = 0 := if_pos h
theorem okOr_out {n : Int} (h : ¬ In64 n) : okOr n = 0 := if_neg h
theorem errOr_out {n : Int} (h : ¬ In64 n) : errOr n = 10 := if_neg h

theorem wrap64_hi {n : Int} (h : 9223372036854775808 ≤ n) (h' : n < 27670116110564327424) : wrap64 n = n - 18446744073709551616 := by unfold wrap64; omega
theorem wrap64_lo {n : Int} (h : n < -9223372036854775808) (h' : -27670116110564327424 ≤ n) : wrap64 n = n + 18446744073709551616 := by unfold wrap64; omega

theorem out_cases {n : Int} (h : ¬ In64 n) : n < -9223372036854775808 ∨ 9223372036854775808 ≤ n := by unfold In64 at h; omega

theorem add_any (a b : Int) (w : World) (ha : In64 a) (hb : In64 b) :
    Calls Tryd.prog 13 #[.int .i64 a, .int .i64 b] w fun e w' => e = .returned (.tuple #[.int .i64 (okOr (a + b)), .int .i64 (errOr (a + b))]) ∧ w = w' := by
  unfold In64 at ha hb
  by_cases hr : In64 (a + b)
  · have H1 := Lib.hid (okOr_in hr)
    have H2 := Lib.hid (errOr_in hr)
    unfold In64 at hr
    by_cases h0 : 0 < b
    · have hd : decide (a < a + b) = true := by simp; omega
      go_enter Tryd.func13, Tryd.ntmps13
      go_wp2
      go_ret2
      exact ⟨ret_pair H1.out.symm H2.out.symm, rfl⟩
    · have hd : decide (a < a + b) = false := by simp; omega
      go_enter Tryd.func13, Tryd.ntmps13
      go_wp2
      go_ret2
      exact ⟨ret_pair H1.out.symm H2.out.symm, rfl⟩
  · have H1 := Lib.hid (okOr_out hr)
    have H2 := Lib.hid (errOr_out hr)
    rcases out_cases hr with h0 | h0
    · have hd : decide (a < wrap64 (a + b)) = true := by rw [wrap64_lo h0 (by omega)]; simp; omega
      have hd2 : decide (0 < b) = false := by simp; omega
      go_enter Tryd.func13, Tryd.ntmps13
      go_wp2
      go_ret2
      exact ⟨ret_pair H1.out.symm H2.out.symm, rfl⟩
    · have hd : decide (a < wrap64 (a + b)) = false := by rw [wrap64_hi h0 (by omega)]; simp; omega
      go_enter Tryd.func13, Tryd.ntmps13
      go_wp2
      go_ret2
      exact ⟨ret_pair H1.out.symm H2.out.symm, rfl⟩

theorem sub_any (a b : Int) (w : World) (ha : In64 a) (hb : In64 b) :
    Calls Tryd.prog 15 #[.int .i64 a, .int .i64 b] w fun e w' => e = .returned (.tuple #[.int .i64 (okOr (a - b)), .int .i64 (errOr (a - b))]) ∧ w = w' := by
  unfold In64 at ha hb
  by_cases hr : In64 (a - b)
  · have H1 := Lib.hid (okOr_in hr)
    have H2 := Lib.hid (errOr_in hr)
    unfold In64 at hr
    by_cases h0 : 0 < b
    · have hd : decide (a - b < a) = true := by simp; omega
      go_enter Tryd.func15, Tryd.ntmps15
      go_wp2
      go_ret2
      exact ⟨ret_pair H1.out.symm H2.out.symm, rfl⟩
    · have hd : decide (a - b < a) = false := by simp; omega
      go_enter Tryd.func15, Tryd.ntmps15
      go_wp2
      go_ret2
      exact ⟨ret_pair H1.out.symm H2.out.symm, rfl⟩
  · have H1 := Lib.hid (okOr_out hr)
    have H2 := Lib.hid (errOr_out hr)
    rcases out_cases hr with h0 | h0
    · have hd : decide (wrap64 (a - b) < a) = false := by rw [wrap64_lo h0 (by omega)]; simp; omega
      go_enter Tryd.func15, Tryd.ntmps15
      go_wp2
      go_ret2
      exact ⟨ret_pair H1.out.symm H2.out.symm, rfl⟩
    · have hd : decide (wrap64 (a - b) < a) = true := by rw [wrap64_hi h0 (by omega)]; simp; omega
      have hd2 : decide (0 < b) = false := by simp; omega
      go_enter Tryd.func15, Tryd.ntmps15
      go_wp2
      go_ret2
      exact ⟨ret_pair H1.out.symm H2.out.symm, rfl⟩

theorem neg_any (a : Int) (w : World) (ha : In64 a) :
    Calls Tryd.prog 17 #[.int .i64 a] w fun e w' => e = .returned (.tuple #[.int .i64 (okOr (-a)), .int .i64 (errOr (-a))]) ∧ w = w' := by
  unfold In64 at ha
  by_cases h : a = -9223372036854775808
  · subst h
    go_enter Tryd.func17, Tryd.ntmps17
    go_wp2
    go_ret2
    exact ⟨rfl, rfl⟩
  · have hr : In64 (-a) := by unfold In64; omega
    have H1 := Lib.hid (okOr_in hr)
    have H2 := Lib.hid (errOr_in hr)
    have h1 : -9223372036854775808 < a := by omega
    have h2 : (a == -9223372036854775808) = false := by simp; omega
    clear h hr
    go_enter Tryd.func17, Tryd.ntmps17
    go_wp2
    go_ret2
    exact ⟨ret_pair (by rw [H1.out]) H2.out.symm, rfl⟩

theorem refAdd_any (a b : Int) (w : World) (ha : In64 a) (hb : In64 b) :
    Calls Tryd.prog 14 #[.int .i64 a, .int .i64 b] w fun e w' => e = .returned (.tuple #[.int .i64 (okOr (a + b)), .int .i64 (errOr (a + b))]) ∧ w = w' := by
  unfold In64 at ha hb
  by_cases hr : In64 (a + b)
  · have H1 := Lib.hid (okOr_in hr)
    have H2 := Lib.hid (errOr_in hr)
    unfold In64 at hr
    by_cases h0 : 0 < b
    · go_enter Tryd.func14, Tryd.ntmps14
      go_wp2
      go_ret2
      exact ⟨ret_pair H1.out.symm H2.out.symm, rfl⟩
    · by_cases h1 : b < 0
      all_goals
        go_enter Tryd.func14, Tryd.ntmps14
        go_wp2
        go_ret2
        exact ⟨ret_pair H1.out.symm H2.out.symm, rfl⟩
  · have H1 := Lib.hid (okOr_out hr)
    have H2 := Lib.hid (errOr_out hr)
    rcases out_cases hr with h0 | h0
    all_goals
      go_enter Tryd.func14, Tryd.ntmps14
      go_wp2
      go_ret2
      exact ⟨ret_pair H1.out.symm H2.out.symm, rfl⟩

theorem refSub_any (a b : Int) (w : World) (ha : In64 a) (hb : In64 b) :
    Calls Tryd.prog 16 #[.int .i64 a, .int .i64 b] w fun e w' => e = .returned (.tuple #[.int .i64 (okOr (a - b)), .int .i64 (errOr (a - b))]) ∧ w = w' := by
  unfold In64 at ha hb
  by_cases hr : In64 (a - b)
  · have H1 := Lib.hid (okOr_in hr)
    have H2 := Lib.hid (errOr_in hr)
    unfold In64 at hr
    by_cases h0 : 0 < b
    · go_enter Tryd.func16, Tryd.ntmps16
      go_wp2
      go_ret2
      exact ⟨ret_pair H1.out.symm H2.out.symm, rfl⟩
    · by_cases h1 : b < 0
      all_goals
        go_enter Tryd.func16, Tryd.ntmps16
        go_wp2
        go_ret2
        exact ⟨ret_pair H1.out.symm H2.out.symm, rfl⟩
  · have H1 := Lib.hid (okOr_out hr)
    have H2 := Lib.hid (errOr_out hr)
    rcases out_cases hr with h0 | h0
    all_goals
      go_enter Tryd.func16, Tryd.ntmps16
      go_wp2
      go_ret2
      exact ⟨ret_pair H1.out.symm H2.out.symm, rfl⟩

theorem refNeg_any (a : Int) (w : World) (ha : In64 a) :
    Calls Tryd.prog 18 #[.int .i64 a] w fun e w' => e = .returned (.tuple #[.int .i64 (okOr (-a)), .int .i64 (errOr (-a))]) ∧ w = w' := by
  go_enter Tryd.func18, Tryd.ntmps18
  go_wp2_with (go_at_call 16; refine (refSub_any _ _ _ (by decide) ha).mono ?_; rintro e w' ⟨rfl, rfl⟩)
  go_ret2
  exact ⟨rfl, rfl⟩
end Go.Proofs.YtflkljenkhjnfaaDoor
