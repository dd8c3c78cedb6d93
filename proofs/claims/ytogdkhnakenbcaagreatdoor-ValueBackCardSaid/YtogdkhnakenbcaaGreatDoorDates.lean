/-
  Contracts of the days: num.Day, Civil and what they call, and the document's answers for them.
-/
import Derived.Test.YtogdkhnakenbcaaGreatDoorSums
import Derived.Test.YtogdkhnakenbcaaGreatDoorCal
import Derived.Deep.Draws
namespace Go.Proofs.YtogdkhnakenbcaaGreatDoor
open Go.ChangeShapes Go.WideShapes Go.ChangeAt Go.RowKit
open Cal
set_option linter.unusedVariables false

/-- The table of the months' lengths lies in memory as the program's text lays it. -/
def MLaid (w : World) : Prop := ∀ m : Int, 1 ≤ m → m ≤ 12 → w.cell? ⟨4, m.toNat - 1, none⟩ = some (.int .i64 (tabM m))
theorem MLaid.drew {w : World} (h : MLaid w) : MLaid w.drew := h
theorem MLaid.drewN {w : World} (h : MLaid w) (n : Nat) : MLaid (w.drewN n) := h
theorem MLaid.below {w w' : World} {B : Nat} (h : MLaid w) (hb : Below B w w') (h0 : 4 < B) : MLaid w' := fun m h1 h2 => (hb.cell (p := ⟨4, m.toNat - 1, none⟩) h0).trans (h m h1 h2)

theorem results4 {fn : Func} {t u v x : Tmp} (h : fn.results = #[.tmp t, .tmp u, .tmp v, .tmp x]) (tmps : Array Value) (P : Program) (w : World) :
    (results fn tmps).run P w = .ok (.tuple #[tmps.getD t undef, tmps.getD u undef, tmps.getD v undef, tmps.getD x undef]) w := by simp [results, h]

theorem mlen_2 {y m : Int} (h : m = 2) (hl : lpB y = true) : mlen y m = tabM m + 1 := by subst h; simp [mlen, tabM, lp, hl]
theorem mlen_2n {y m : Int} (h : m = 2) (hl : lpB y = false) : mlen y m = tabM m := by subst h; simp [mlen, tabM, lp, hl]
theorem mlen_n {y m : Int} (h : m ≠ 2) : mlen y m = tabM m := by simp [mlen, h]

theorem isLeap_any (y : Int) (w : World) (h0 : 0 ≤ y) (h1 : y ≤ 10000) :
    Calls Tryz.prog 158 #[.int .i64 y] w fun e w' => e = .returned (.bool (lpB y)) ∧ w = w' := by
  by_cases a : y % 4 = 0
  · have fa : (y % 4 == 0) = true := by simp [a]
    by_cases b : y % 100 = 0
    · have fb : (y % 100 != 0) = false := by simp [b]
      by_cases c : y % 400 = 0
      · have H := Lib.hid (show lpB y = true by simp [lpB, a, c])
        have fc : (y % 400 == 0) = true := by simp [c]
        clear a b c
        go_enter Tryz.func158, Tryz.ntmps158
        go_wp2
        go_ret
        exact ⟨ret_bool H.out.symm, rfl⟩
      · have H := Lib.hid (show lpB y = false by simp [lpB, a, b, c])
        have fc : (y % 400 == 0) = false := by simp [c]
        clear a b c
        go_enter Tryz.func158, Tryz.ntmps158
        go_wp2
        go_ret
        exact ⟨ret_bool H.out.symm, rfl⟩
    · have H := Lib.hid (show lpB y = true by simp [lpB, a, b])
      have fb : (y % 100 != 0) = true := by simp [b]
      clear a b
      go_enter Tryz.func158, Tryz.ntmps158
      go_wp2
      go_ret
      exact ⟨ret_bool H.out.symm, rfl⟩
  · have H := Lib.hid (show lpB y = false by simp [lpB, a])
    have fa : (y % 4 == 0) = false := by simp [a]
    clear a
    go_enter Tryz.func158, Tryz.ntmps158
    go_wp2
    go_ret
    exact ⟨ret_bool H.out.symm, rfl⟩

theorem refLeap_any (y : Int) (w : World) (h0 : 0 ≤ y) (h1 : y ≤ 10000) :
    Calls Tryz.prog 131 #[.int .i64 y] w fun e w' => e = .returned (.bool (lpB y)) ∧ w = w' := by
  by_cases a : y % 4 = 0
  · have fa : (y % 4 == 0) = true := by simp [a]
    by_cases b : y % 100 = 0
    · have fb : (y % 100 != 0) = false := by simp [b]
      by_cases c : y % 400 = 0
      · have H := Lib.hid (show lpB y = true by simp [lpB, a, c])
        have fc : (y % 400 == 0) = true := by simp [c]
        clear a b c
        go_enter Tryz.func131, Tryz.ntmps131
        go_wp2
        go_ret
        exact ⟨ret_bool H.out.symm, rfl⟩
      · have H := Lib.hid (show lpB y = false by simp [lpB, a, b, c])
        have fc : (y % 400 == 0) = false := by simp [c]
        clear a b c
        go_enter Tryz.func131, Tryz.ntmps131
        go_wp2
        go_ret
        exact ⟨ret_bool H.out.symm, rfl⟩
    · have H := Lib.hid (show lpB y = true by simp [lpB, a, b])
      have fb : (y % 100 != 0) = true := by simp [b]
      clear a b
      go_enter Tryz.func131, Tryz.ntmps131
      go_wp2
      go_ret
      exact ⟨ret_bool H.out.symm, rfl⟩
  · have H := Lib.hid (show lpB y = false by simp [lpB, a])
    have fa : (y % 4 == 0) = false := by simp [a]
    clear a
    go_enter Tryz.func131, Tryz.ntmps131
    go_wp2
    go_ret
    exact ⟨ret_bool H.out.symm, rfl⟩

theorem daysBefore_any (y : Int) (w : World) (h0 : 1 ≤ y) (h1 : y ≤ 10000) :
    Calls Tryz.prog 129 #[.int .i64 y] w fun e w' => e = .returned (.int .i64 (dbf y)) ∧ w = w' := by
  go_enter Tryz.func129, Tryz.ntmps129
  go_wp2
  go_ret
  exact ⟨ret_int rfl, rfl⟩

theorem refBefore_any (y : Int) (w : World) (h0 : 1 ≤ y) (h1 : y ≤ 10000) :
    Calls Tryz.prog 97 #[.int .i64 y] w fun e w' => e = .returned (.int .i64 (dbf y)) ∧ w = w' := by
  go_enter Tryz.func97, Tryz.ntmps97
  go_wp2
  go_ret
  exact ⟨ret_int rfl, rfl⟩

theorem monthLength_any (y m : Int) (w : World) (hL : MLaid w) (h0 : 0 ≤ y) (h1 : y ≤ 10000) (h2 : 1 ≤ m) (h3 : m ≤ 12) :
    Calls Tryz.prog 130 #[.int .i64 y, .int .i64 m] w fun e w' => e = .returned (.int .i64 (mlen y m)) ∧ w = w' := by
  have hc := hL m h2 h3
  have hb := tabM_bd m
  clear hL
  by_cases h : m = 2
  · by_cases hl : lpB y = true
    · have H := Lib.hid (mlen_2 h hl)
      have fm : (m == 2) = true := by simp [h]
      have hl' : lpB y = true := hl
      clear h hl
      go_enter Tryz.func130, Tryz.ntmps130
      go_wp2_with (go_at_call 158; refine (isLeap_any _ _ h0 h1).mono ?_; rintro e w' ⟨rfl, rfl⟩)
      go_ret
      exact ⟨ret_int H.out.symm, rfl⟩
    · have hl' : lpB y = false := by simpa using hl
      have H := Lib.hid (mlen_2n h hl')
      have fm : (m == 2) = true := by simp [h]
      clear h hl
      go_enter Tryz.func130, Tryz.ntmps130
      go_wp2_with (go_at_call 158; refine (isLeap_any _ _ h0 h1).mono ?_; rintro e w' ⟨rfl, rfl⟩)
      go_ret
      exact ⟨ret_int H.out.symm, rfl⟩
  · have H := Lib.hid (mlen_n (y := y) h)
    have fm : (m == 2) = false := by simp [h]
    clear h
    go_enter Tryz.func130, Tryz.ntmps130
    go_wp2
    go_ret
    exact ⟨ret_int H.out.symm, rfl⟩

theorem mlen_30 {y m : Int} (h : m = 4 ∨ m = 6 ∨ m = 9 ∨ m = 11) : mlen y m = 30 := by rcases h with rfl | rfl | rfl | rfl <;> simp [mlen, tabM]
theorem mlen_31 {y m : Int} (h : m ≠ 2) (h' : ¬ (m = 4 ∨ m = 6 ∨ m = 9 ∨ m = 11)) : mlen y m = 31 := by simp [mlen, tabM, h, h']
theorem mlen_29 {y m : Int} (h : m = 2) (hl : lpB y = true) : mlen y m = 29 := by subst h; simp [mlen, lp, hl]
theorem mlen_28 {y m : Int} (h : m = 2) (hl : lpB y = false) : mlen y m = 28 := by subst h; simp [mlen, lp, hl]
theorem refLength_any (y m : Int) (w : World) (h0 : 0 ≤ y) (h1 : y ≤ 10000) (h2 : 1 ≤ m) (h3 : m ≤ 12) :
    Calls Tryz.prog 98 #[.int .i64 y, .int .i64 m] w fun e w' => e = .returned (.int .i64 (mlen y m)) ∧ w = w' := by
  by_cases h : m = 2
  · by_cases hl : lpB y = true
    · have H := Lib.hid (mlen_29 h hl)
      subst h
      go_enter Tryz.func98, Tryz.ntmps98
      go_wp2_with (go_at_call 131; refine (refLeap_any _ _ h0 h1).mono ?_; rintro e w' ⟨rfl, rfl⟩)
      go_ret
      exact ⟨ret_int H.out.symm, rfl⟩
    · have hl' : lpB y = false := by simpa using hl
      have H := Lib.hid (mlen_28 h hl')
      subst h
      clear hl
      go_enter Tryz.func98, Tryz.ntmps98
      go_wp2_with (go_at_call 131; refine (refLeap_any _ _ h0 h1).mono ?_; rintro e w' ⟨rfl, rfl⟩)
      go_ret
      exact ⟨ret_int H.out.symm, rfl⟩
  · by_cases h' : m = 4 ∨ m = 6 ∨ m = 9 ∨ m = 11
    · have H := Lib.hid (mlen_30 (y := y) h')
      clear h
      rcases h' with rfl | rfl | rfl | rfl
      all_goals
        go_enter Tryz.func98, Tryz.ntmps98
        go_wp2
        go_ret
        exact ⟨ret_int H.out.symm, rfl⟩
    · have H := Lib.hid (mlen_31 (y := y) h h')
      have f2 : (m == 2) = false := by simp [h]
      have f4 : (m == 4) = false := by simp; omega
      have f6 : (m == 6) = false := by simp; omega
      have f9 : (m == 9) = false := by simp; omega
      have f11 : (m == 11) = false := by simp; omega
      clear h h'
      go_enter Tryz.func98, Tryz.ntmps98
      go_wp2
      go_ret
      exact ⟨ret_int H.out.symm, rfl⟩
end Go.Proofs.YtogdkhnakenbcaaGreatDoor
