/-
  Contracts of the operations of the three truths and the document's.
-/
import Derived.Test.YtglaikeaigbiiaaDoorVLogic
namespace Go.Proofs.YtglaikeaigbiiaaDoor
open Go.ChangeShapes Go.WideShapes Go.ChangeAt Go.RowKit
set_option linter.unusedVariables false

def and3 (a b : Int) : Int := if a = 0 ∨ b = 0 then 0 else if a = 1 ∧ b = 1 then 1 else 2
def or3 (a b : Int) : Int := if a = 1 ∨ b = 1 then 1 else if a = 0 ∧ b = 0 then 0 else 2
def not3 (a : Int) : Int := if a = 0 then 1 else if a = 1 then 0 else 2
theorem tri (a : Int) : a = 0 ∨ a = 1 ∨ (a ≠ 0 ∧ a ≠ 1 ∧ (a == 0) = false ∧ (a == 1) = false ∧ (a != 0) = true ∧ (a != 1) = true) := by
  by_cases h : a = 0
  · exact .inl h
  · by_cases h1 : a = 1
    · exact .inr (.inl h1)
    · exact .inr (.inr ⟨h, h1, by simpa using h, by simpa using h1, by simpa using h, by simpa using h1⟩)
theorem or_and (a b : Int) : not3 (and3 (not3 a) (not3 b)) = or3 a b := by
  unfold not3 and3 or3
  rcases tri a with rfl | rfl | ⟨h0, h1, _⟩ <;> rcases tri b with rfl | rfl | ⟨g0, g1, _⟩ <;> simp [*]
set_option maxHeartbeats 800000 in
theorem and_any (a b : Int) (w : World) : Calls Tryd.prog 13 #[.int .i64 a, .int .i64 b] w fun e w' => e = .returned (.int .i64 (and3 a b)) ∧ w = w' := by
  obtain ⟨r, hr⟩ : ∃ r, r = and3 a b := ⟨_, rfl⟩
  rw [← hr]
  unfold and3 at hr
  have HR := Lib.hid hr
  clear hr
  rcases tri a with rfl | rfl | ⟨h0, h1, h2, h3, h4, h5⟩ <;> rcases tri b with rfl | rfl | ⟨g0, g1, g2, g3, g4, g5⟩
  all_goals
    try have H0 := Lib.hid h0
    try have H1 := Lib.hid h1
    try have G0 := Lib.hid g0
    try have G1 := Lib.hid g1
    try clear h0 h1
    try clear g0 g1
    go_enter Tryd.func13, Tryd.ntmps13
    go_wp2
    go_ret
    exact ⟨ret_int (by have := HR.out; (try have := H0.out); (try have := H1.out); (try have := G0.out); (try have := G1.out); simp_all), rfl⟩
set_option maxHeartbeats 800000 in
theorem refAnd_any (a b : Int) (w : World) : Calls Tryd.prog 14 #[.int .i64 a, .int .i64 b] w fun e w' => e = .returned (.int .i64 (and3 a b)) ∧ w = w' := by
  obtain ⟨r, hr⟩ : ∃ r, r = and3 a b := ⟨_, rfl⟩
  rw [← hr]
  unfold and3 at hr
  have HR := Lib.hid hr
  clear hr
  rcases tri a with rfl | rfl | ⟨h0, h1, h2, h3, h4, h5⟩ <;> rcases tri b with rfl | rfl | ⟨g0, g1, g2, g3, g4, g5⟩
  all_goals
    try have H0 := Lib.hid h0
    try have H1 := Lib.hid h1
    try have G0 := Lib.hid g0
    try have G1 := Lib.hid g1
    try clear h0 h1
    try clear g0 g1
    go_enter Tryd.func14, Tryd.ntmps14
    go_wp2
    go_ret
    exact ⟨ret_int (by have := HR.out; (try have := H0.out); (try have := H1.out); (try have := G0.out); (try have := G1.out); simp_all), rfl⟩
set_option maxHeartbeats 800000 in
theorem or_any (a b : Int) (w : World) : Calls Tryd.prog 15 #[.int .i64 a, .int .i64 b] w fun e w' => e = .returned (.int .i64 (or3 a b)) ∧ w = w' := by
  obtain ⟨r, hr⟩ : ∃ r, r = or3 a b := ⟨_, rfl⟩
  rw [← hr]
  unfold or3 at hr
  have HR := Lib.hid hr
  clear hr
  rcases tri a with rfl | rfl | ⟨h0, h1, h2, h3, h4, h5⟩ <;> rcases tri b with rfl | rfl | ⟨g0, g1, g2, g3, g4, g5⟩
  all_goals
    try have H0 := Lib.hid h0
    try have H1 := Lib.hid h1
    try have G0 := Lib.hid g0
    try have G1 := Lib.hid g1
    try clear h0 h1
    try clear g0 g1
    go_enter Tryd.func15, Tryd.ntmps15
    go_wp2
    go_ret
    exact ⟨ret_int (by have := HR.out; (try have := H0.out); (try have := H1.out); (try have := G0.out); (try have := G1.out); simp_all), rfl⟩
theorem not_any (a : Int) (w : World) : Calls Tryd.prog 17 #[.int .i64 a] w fun e w' => e = .returned (.int .i64 (not3 a)) ∧ w = w' := by
  obtain ⟨r, hr⟩ : ∃ r, r = not3 a := ⟨_, rfl⟩
  rw [← hr]
  unfold not3 at hr
  have HR := Lib.hid hr
  clear hr
  rcases tri a with rfl | rfl | ⟨h0, h1, h2, h3, h4, h5⟩
  all_goals
    try have H0 := Lib.hid h0
    try have H1 := Lib.hid h1
    try clear h0 h1
    go_enter Tryd.func17, Tryd.ntmps17
    go_wp2
    go_ret
    exact ⟨ret_int (by have := HR.out; (try have := H0.out); (try have := H1.out); simp_all), rfl⟩
theorem refNot_any (a : Int) (w : World) : Calls Tryd.prog 18 #[.int .i64 a] w fun e w' => e = .returned (.int .i64 (not3 a)) ∧ w = w' := by
  obtain ⟨r, hr⟩ : ∃ r, r = not3 a := ⟨_, rfl⟩
  rw [← hr]
  unfold not3 at hr
  have HR := Lib.hid hr
  clear hr
  rcases tri a with rfl | rfl | ⟨h0, h1, h2, h3, h4, h5⟩
  all_goals
    try have H0 := Lib.hid h0
    try have H1 := Lib.hid h1
    try clear h0 h1
    go_enter Tryd.func18, Tryd.ntmps18
    go_wp2
    go_ret
    exact ⟨ret_int (by have := HR.out; (try have := H0.out); (try have := H1.out); simp_all), rfl⟩
theorem refOr_any (a b : Int) (w : World) : Calls Tryd.prog 16 #[.int .i64 a, .int .i64 b] w fun e w' => e = .returned (.int .i64 (or3 a b)) ∧ w = w' := by
  have H := Lib.hid (or_and a b)
  go_enter Tryd.func16, Tryd.ntmps16
  go_wp2_with (first | (go_at_call 18; refine (refNot_any _ _).mono ?_; rintro e w' ⟨rfl, rfl⟩) | (go_at_call 14; refine (refAnd_any _ _ _).mono ?_; rintro e w' ⟨rfl, rfl⟩))
  go_ret
  exact ⟨ret_int H.out, rfl⟩

/-- Which truth a value is. -/
def trV (k : Int) (nl : Bool) (n : Int) : Int := if k = 1 then (if nl then 2 else if n = 0 then 0 else 1) else 0
def trE (k : Int) : Int := if k = 1 then 0 else 21
set_option maxHeartbeats 800000 in
theorem truth_any (k s : Int) (nl : Bool) (n : Int) (t : ByteArray) (w : World) : Calls Tryd.prog 11 #[.agg #[.int .i64 k, .int .i64 s, .bool nl, .int .i64 n, .string t]] w fun e w' => e = .returned (.tuple #[.int .i64 (trV k nl n), .int .i64 (trE k)]) ∧ Below w.heap.size w w' := by
  by_cases hk : k = 1
  · subst hk
    cases nl
    · by_cases h0 : n = 0
      · subst h0
        go_enter Tryd.func11, Tryd.ntmps11
        go_wp2_with (first | (go_at_call 20; refine (truthOf_any _ _).mono ?_; rintro e w' ⟨rfl, rfl⟩))
        go_ret2
        exact ⟨rfl, alloc_below _ _⟩
      · have H : Hid (trV 1 false n = 1) := by show _ = _; simp [trV, h0]
        have e0 : (n == 0) = false := by simpa using h0
        have e1 : (n != 0) = true := by simpa using h0
        clear h0
        go_enter Tryd.func11, Tryd.ntmps11
        go_wp2_with (first | (go_at_call 20; refine (truthOf_any _ _).mono ?_; rintro e w' ⟨rfl, rfl⟩))
        go_ret2
        exact ⟨ret_pair H.out.symm rfl, alloc_below _ _⟩
    · go_enter Tryd.func11, Tryd.ntmps11
      go_wp2
      go_ret2
      exact ⟨rfl, alloc_below _ _⟩
  · have H : Hid (trV k nl n = 0 ∧ trE k = 21) := by show _ ∧ _; simp [trV, trE, hk]
    have e0 : (k == 1) = false := by simpa using hk
    have e1 : (k != 1) = true := by simpa using hk
    clear hk
    go_enter Tryd.func11, Tryd.ntmps11
    go_wp2
    go_ret2
    exact ⟨ret_pair H.out.1.symm H.out.2.symm, alloc_below _ _⟩
set_option maxHeartbeats 800000 in
theorem refTruth_any (k s : Int) (nl : Bool) (n : Int) (t : ByteArray) (w : World) : Calls Tryd.prog 12 #[.agg #[.int .i64 k, .int .i64 s, .bool nl, .int .i64 n, .string t]] w fun e w' => e = .returned (.tuple #[.int .i64 (trV k nl n), .int .i64 (trE k)]) ∧ Below w.heap.size w w' := by
  by_cases hk : k = 1
  · subst hk
    cases nl
    · by_cases h0 : n = 0
      · subst h0
        go_enter Tryd.func12, Tryd.ntmps12
        go_wp2_with (first | (go_at_call 20; refine (truthOf_any _ _).mono ?_; rintro e w' ⟨rfl, rfl⟩))
        go_ret2
        exact ⟨rfl, alloc_below _ _⟩
      · have H : Hid (trV 1 false n = 1) := by show _ = _; simp [trV, h0]
        have e0 : (n == 0) = false := by simpa using h0
        have e1 : (n != 0) = true := by simpa using h0
        clear h0
        go_enter Tryd.func12, Tryd.ntmps12
        go_wp2_with (first | (go_at_call 20; refine (truthOf_any _ _).mono ?_; rintro e w' ⟨rfl, rfl⟩))
        go_ret2
        exact ⟨ret_pair H.out.symm rfl, alloc_below _ _⟩
    · go_enter Tryd.func12, Tryd.ntmps12
      go_wp2
      go_ret2
      exact ⟨rfl, alloc_below _ _⟩
  · have H : Hid (trV k nl n = 0 ∧ trE k = 21) := by show _ ∧ _; simp [trV, trE, hk]
    have e0 : (k == 1) = false := by simpa using hk
    have e1 : (k != 1) = true := by simpa using hk
    clear hk
    go_enter Tryd.func12, Tryd.ntmps12
    go_wp2
    go_ret2
    exact ⟨ret_pair H.out.1.symm H.out.2.symm, alloc_below _ _⟩
end Go.Proofs.YtglaikeaigbiiaaDoor
