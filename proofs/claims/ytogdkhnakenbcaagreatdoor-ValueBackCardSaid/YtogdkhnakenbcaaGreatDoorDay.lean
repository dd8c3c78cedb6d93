/-
  Contracts of the days, their second part: num.Day and num.Civil, and the document's answers.
-/
import Derived.Test.YtogdkhnakenbcaaGreatDoorDates
import Derived.LoopTactic
namespace Go.Proofs.YtogdkhnakenbcaaGreatDoor
open Go.ChangeShapes Go.WideShapes Go.ChangeAt Go.RowKit
open Cal
set_option linter.unusedVariables false

def CivilPost (n : Int) (w : World) (e : Ending) (w' : World) : Prop :=
  ∃ y m d : Int, e = .returned (.tuple #[.int .i64 y, .int .i64 m, .int .i64 d, .int .i64 0]) ∧ vld y m d ∧ dayNum y m d = n ∧ w = w'

theorem num_of (n y k : Int) : dayNum y k (n + 719162 - dbf y - cum y k + 1) = n := by unfold dayNum; omega
theorem vld_of (n y k : Int) (a : 1 ≤ y) (b : y ≤ 9999) (a' : 1 ≤ k) (b' : k ≤ 12) (c : 0 ≤ n + 719162 - dbf y - cum y k) (d : n + 719162 - dbf y - cum y k < mlen y k) : vld y k (n + 719162 - dbf y - cum y k + 1) :=
  ⟨a, b, a', b', by omega, by omega⟩
theorem guess (n : Int) (h1 : -719162 ≤ n) (h2 : n ≤ 2932896) : dbf ((n + 719162) / 366 + 1) ≤ n + 719162 := by unfold dbf; omega

set_option maxHeartbeats 800000 in
theorem day_yes (y m d : Int) (w : World) (hL : MLaid w) (hv : vld y m d) :
    Calls Tryz.prog 105 #[.int .i64 y, .int .i64 m, .int .i64 d] w fun e w' => e = .returned (.tuple #[.int .i64 (dayNum y m d), .int .i64 0]) ∧ w = w' := by
  obtain ⟨h1, h2, h3, h4, h5, h6⟩ := hv
  have hm := mlen_bd y m
  have hB := dbf_bd y h1 (by omega)
  go_enter Tryz.func105, Tryz.ntmps105
  go_wp2_with (first | (go_at_call 130; refine (monthLength_any _ _ _ hL (by omega) (by omega) (by omega) (by omega)).mono ?_; rintro e w' ⟨rfl, rfl⟩) | (go_at_call 129; refine (daysBefore_any _ _ (by omega) (by omega)).mono ?_; rintro e w' ⟨rfl, rfl⟩))
  go_loop [8, 9] (fun n i => ∃ k : Int, 1 ≤ k ∧ k ≤ m ∧ i = .int .i64 k ∧ n = .int .i64 (dbf y + cum y k)) (fun _ i => (m - intOf i).toNat)
  case atStart => exact ⟨1, by omega, by omega, rfl, by rw [cum_1]; simp⟩
  case round =>
    obtain ⟨k, hk1, hk2, rfl, rfl⟩ := hrel
    have cb := cum_bd y k hk1 (by omega)
    have mb := mlen_bd y k
    by_cases hlt : k < m
    · have HS := Lib.hid (cum_succ y k hk1 (by omega))
      go_wp2_with (go_at_call 130; refine (monthLength_any _ _ _ hL (by omega) (by omega) (by omega) (by omega)).mono ?_; rintro e w' ⟨rfl, rfl⟩)
      go_round
      case rel => exact ⟨k + 1, by omega, by omega, rfl, by rw [HS.out]; go_num⟩
      case measure => simp [intOf]; omega
    · obtain rfl : k = m := by omega
      go_wp2
      go_ret2
      exact ⟨ret_pair (by unfold dayNum; omega) rfl, rfl⟩

set_option maxHeartbeats 800000 in
theorem day_no (y m d : Int) (w : World) (hL : MLaid w) (hv : ¬ vld y m d) :
    Calls Tryz.prog 105 #[.int .i64 y, .int .i64 m, .int .i64 d] w fun e w' => e = .returned (.tuple #[.int .i64 0, .int .i64 13]) ∧ w = w' := by
  by_cases a : y < 1
  · go_enter Tryz.func105, Tryz.ntmps105
    go_wp2
    go_ret2
    exact ⟨rfl, rfl⟩
  by_cases b : 9999 < y
  · go_enter Tryz.func105, Tryz.ntmps105
    go_wp2
    go_ret2
    exact ⟨rfl, rfl⟩
  by_cases a' : m < 1
  · go_enter Tryz.func105, Tryz.ntmps105
    go_wp2
    go_ret2
    exact ⟨rfl, rfl⟩
  by_cases b' : 12 < m
  · go_enter Tryz.func105, Tryz.ntmps105
    go_wp2
    go_ret2
    exact ⟨rfl, rfl⟩
  by_cases a'' : d < 1
  · go_enter Tryz.func105, Tryz.ntmps105
    go_wp2
    go_ret2
    exact ⟨rfl, rfl⟩
  have b'' : mlen y m < d := by
    rcases Int.lt_or_le (mlen y m) d with h | h
    · exact h
    · exact absurd ⟨by omega, by omega, by omega, by omega, by omega, h⟩ hv
  have hm := mlen_bd y m
  clear hv
  go_enter Tryz.func105, Tryz.ntmps105
  go_wp2_with (go_at_call 130; refine (monthLength_any _ _ _ hL (by omega) (by omega) (by omega) (by omega)).mono ?_; rintro e w' ⟨rfl, rfl⟩)
  go_ret2
  exact ⟨rfl, rfl⟩

set_option maxHeartbeats 800000 in
theorem refDay_yes (y m d : Int) (w : World) (hv : vld y m d) :
    Calls Tryz.prog 79 #[.int .i64 y, .int .i64 m, .int .i64 d] w fun e w' => e = .returned (.tuple #[.int .i64 (dayNum y m d), .int .i64 0]) ∧ w = w' := by
  obtain ⟨h1, h2, h3, h4, h5, h6⟩ := hv
  have hm := mlen_bd y m
  have hB := dbf_bd y h1 (by omega)
  go_enter Tryz.func79, Tryz.ntmps79
  go_wp2_with (first | (go_at_call 98; refine (refLength_any _ _ _ (by omega) (by omega) (by omega) (by omega)).mono ?_; rintro e w' ⟨rfl, rfl⟩) | (go_at_call 97; refine (refBefore_any _ _ (by omega) (by omega)).mono ?_; rintro e w' ⟨rfl, rfl⟩))
  go_loop [8, 9] (fun n i => ∃ k : Int, 1 ≤ k ∧ k ≤ m ∧ i = .int .i64 k ∧ n = .int .i64 (dbf y + -719162 + (d - 1) + cum y k)) (fun _ i => (m - intOf i).toNat)
  case atStart => exact ⟨1, by omega, by omega, rfl, by rw [cum_1]; simp⟩
  case round =>
    obtain ⟨k, hk1, hk2, rfl, rfl⟩ := hrel
    have cb := cum_bd y k hk1 (by omega)
    have mb := mlen_bd y k
    by_cases hlt : k < m
    · have HS := Lib.hid (cum_succ y k hk1 (by omega))
      go_wp2_with (go_at_call 98; refine (refLength_any _ _ _ (by omega) (by omega) (by omega) (by omega)).mono ?_; rintro e w' ⟨rfl, rfl⟩)
      go_round
      case rel => exact ⟨k + 1, by omega, by omega, rfl, by rw [HS.out]; go_num⟩
      case measure => simp [intOf]; omega
    · obtain rfl : k = m := by omega
      go_wp2
      go_ret2
      exact ⟨ret_pair (by unfold dayNum; omega) rfl, rfl⟩

set_option maxHeartbeats 800000 in
theorem refDay_no (y m d : Int) (w : World) (hv : ¬ vld y m d) :
    Calls Tryz.prog 79 #[.int .i64 y, .int .i64 m, .int .i64 d] w fun e w' => e = .returned (.tuple #[.int .i64 0, .int .i64 13]) ∧ w = w' := by
  by_cases a : y < 1
  · go_enter Tryz.func79, Tryz.ntmps79
    go_wp2
    go_ret2
    exact ⟨rfl, rfl⟩
  by_cases b : 9999 < y
  · go_enter Tryz.func79, Tryz.ntmps79
    go_wp2
    go_ret2
    exact ⟨rfl, rfl⟩
  by_cases a' : m < 1
  · go_enter Tryz.func79, Tryz.ntmps79
    go_wp2
    go_ret2
    exact ⟨rfl, rfl⟩
  by_cases b' : 12 < m
  · go_enter Tryz.func79, Tryz.ntmps79
    go_wp2
    go_ret2
    exact ⟨rfl, rfl⟩
  by_cases a'' : d < 1
  · go_enter Tryz.func79, Tryz.ntmps79
    go_wp2
    go_ret2
    exact ⟨rfl, rfl⟩
  have b'' : mlen y m < d := by
    rcases Int.lt_or_le (mlen y m) d with h | h
    · exact h
    · exact absurd ⟨by omega, by omega, by omega, by omega, by omega, h⟩ hv
  have hm := mlen_bd y m
  clear hv
  go_enter Tryz.func79, Tryz.ntmps79
  go_wp2_with (go_at_call 98; refine (refLength_any _ _ _ (by omega) (by omega) (by omega) (by omega)).mono ?_; rintro e w' ⟨rfl, rfl⟩)
  go_ret2
  exact ⟨rfl, rfl⟩

theorem isDay_yes (n : Int) (w : World) (h1 : -719162 ≤ n) (h2 : n ≤ 2932896) : Calls Tryz.prog 128 #[.int .i64 n] w fun e w' => e = .returned (.bool true) ∧ w = w' := by
  go_enter Tryz.func128, Tryz.ntmps128
  go_wp2
  go_ret
  exact ⟨rfl, rfl⟩
theorem isDay_no (n : Int) (w : World) (h : n < -719162 ∨ 2932896 < n) : Calls Tryz.prog 128 #[.int .i64 n] w fun e w' => e = .returned (.bool false) ∧ w = w' := by
  rcases h with h | h
  · go_enter Tryz.func128, Tryz.ntmps128
    go_wp2
    go_ret
    exact ⟨rfl, rfl⟩
  · have hd : decide (n ≤ 2932896) = false := by simp; omega
    go_enter Tryz.func128, Tryz.ntmps128
    go_wp2
    go_ret
    exact ⟨rfl, rfl⟩
theorem civil_no (n : Int) (w : World) (h : n < -719162 ∨ 2932896 < n) :
    Calls Tryz.prog 96 #[.int .i64 n] w fun e w' => e = .returned (.tuple #[.int .i64 0, .int .i64 0, .int .i64 0, .int .i64 13]) ∧ w = w' := by
  go_enter Tryz.func96, Tryz.ntmps96
  go_wp2_with (go_at_call 128; refine (isDay_no _ _ h).mono ?_; rintro e w' ⟨rfl, rfl⟩)
  refine bodyPost_ret (results4 rfl _ _ _) rfl ?_
  exact ⟨rfl, rfl⟩

set_option maxHeartbeats 1000000 in
theorem civil_yes (n : Int) (w : World) (hL : MLaid w) (h1 : -719162 ≤ n) (h2 : n ≤ 2932896) :
    Calls Tryz.prog 96 #[.int .i64 n] w (CivilPost n w) := by
  have g0 := guess n h1 h2
  go_enter Tryz.func96, Tryz.ntmps96
  go_wp2_with ((go_at_call 128; refine (isDay_yes _ _ h1 h2).mono ?_; rintro e w' ⟨rfl, rfl⟩))
  go_loop [7] (fun t => ∃ y : Int, 1 ≤ y ∧ y ≤ 9999 ∧ dbf y ≤ n + 719162 ∧ t = .int .i64 y) (fun t => (9999 - intOf t).toNat)
  case atStart => exact ⟨_, by omega, by omega, g0, rfl⟩
  case round =>
    obtain ⟨y, hy1, hy2, hy3, rfl⟩ := hrel
    have hB := dbf_bd y hy1 (by omega)
    have hB1 := dbf_bd (y + 1) (by omega) (by omega)
    have hs := dbf_succ y
    have hl := lp_01 y
    clear g0
    by_cases hd : dbf (y + 1) ≤ n + 719162
    · have hlt : y < 9999 := by
        by_cases e : y = 9999
        · exfalso
          have := dbf_top
          have e9 : dbf (y + 1) = 3652059 := by rw [e]; exact this
          omega
        · omega
      clear hs
      go_wp2_with (go_at_call 129; refine (daysBefore_any _ _ (by omega) (by omega)).mono ?_; rintro e w' ⟨rfl, rfl⟩)
      go_round
      case rel => exact ⟨y + 1, by omega, by omega, hd, rfl⟩
      case measure => simp [intOf]; omega
    · have HS := Lib.hid hs
      clear hs
      go_wp2_with (go_at_call 129; refine (daysBefore_any _ _ (by omega) (by omega)).mono ?_; rintro e w' ⟨rfl, rfl⟩)
      go_loop [6, 8] (fun r k => ∃ m : Int, 1 ≤ m ∧ m ≤ 12 ∧ k = .int .i64 m ∧ 0 ≤ n + 719162 - dbf y - cum y m ∧ r = .int .i64 (n + 719162 - dbf y - cum y m)) (fun _ k => (12 - intOf k).toNat)
      case atStart => exact ⟨1, by omega, by omega, rfl, by rw [cum_1]; omega, by rw [cum_1]; go_num⟩
      case round =>
        obtain ⟨m, hm1, hm2, rfl, hr, rfl⟩ := hrel
        have cb := cum_bd y m hm1 (by omega)
        have mb := mlen_bd y m
        by_cases hc : mlen y m ≤ n + 719162 - dbf y - cum y m
        · have hlt : m < 12 := by
            by_cases e : m = 12
            · exfalso
              subst e
              have a := cum_succ y 12 (by omega) (by omega)
              have b := cum_13 y
              have c : cum y (12 + 1) = cum y 13 := rfl
              have d := HS.out
              omega
            · omega
          have HC := Lib.hid (cum_succ y m hm1 hm2)
          go_wp2_with (go_at_call 130; refine (monthLength_any _ _ _ hL (by omega) (by omega) (by omega) (by omega)).mono ?_; rintro e w' ⟨rfl, rfl⟩)
          go_round
          case rel => exact ⟨m + 1, by omega, by omega, rfl, by rw [HC.out]; omega, by rw [HC.out]; go_num⟩
          case measure => simp [intOf]; omega
        · go_wp2_with (go_at_call 130; refine (monthLength_any _ _ _ hL (by omega) (by omega) (by omega) (by omega)).mono ?_; rintro e w' ⟨rfl, rfl⟩)
          refine bodyPost_ret (results4 rfl _ _ _) rfl ?_
          exact ⟨y, m, _, rfl, vld_of n y m hy1 hy2 hm1 hm2 hr (by omega), num_of n y m, rfl⟩

theorem refCivil_no (n : Int) (w : World) (h : n < -719162 ∨ 2932896 < n) :
    Calls Tryz.prog 68 #[.int .i64 n] w fun e w' => e = .returned (.tuple #[.int .i64 0, .int .i64 0, .int .i64 0, .int .i64 13]) ∧ w = w' := by
  rcases h with h | h
  all_goals
    go_enter Tryz.func68, Tryz.ntmps68
    go_wp2
    refine bodyPost_ret (results4 rfl _ _ _) rfl ?_
    exact ⟨rfl, rfl⟩

set_option maxHeartbeats 1000000 in
theorem refCivil_yes (n : Int) (w : World) (h1 : -719162 ≤ n) (h2 : n ≤ 2932896) :
    Calls Tryz.prog 68 #[.int .i64 n] w (CivilPost n w) := by
  have g0 := guess n h1 h2
  go_enter Tryz.func68, Tryz.ntmps68
  go_wp2
  go_loop [6] (fun t => ∃ y : Int, 1 ≤ y ∧ y ≤ 9999 ∧ dbf y ≤ n + 719162 ∧ t = .int .i64 y) (fun t => (9999 - intOf t).toNat)
  case atStart => exact ⟨_, by omega, by omega, g0, rfl⟩
  case round =>
    obtain ⟨y, hy1, hy2, hy3, rfl⟩ := hrel
    have hB := dbf_bd y hy1 (by omega)
    have hB1 := dbf_bd (y + 1) (by omega) (by omega)
    have hs := dbf_succ y
    have hl := lp_01 y
    clear g0
    by_cases hd : dbf (y + 1) ≤ n + 719162
    · have hlt : y < 9999 := by
        by_cases e : y = 9999
        · exfalso
          have := dbf_top
          have e9 : dbf (y + 1) = 3652059 := by rw [e]; exact this
          omega
        · omega
      clear hs
      go_wp2_with (go_at_call 97; refine (refBefore_any _ _ (by omega) (by omega)).mono ?_; rintro e w' ⟨rfl, rfl⟩)
      go_round
      case rel => exact ⟨y + 1, by omega, by omega, hd, rfl⟩
      case measure => simp [intOf]; omega
    · have HS := Lib.hid hs
      clear hs
      go_wp2_with (go_at_call 97; refine (refBefore_any _ _ (by omega) (by omega)).mono ?_; rintro e w' ⟨rfl, rfl⟩)
      go_loop [7, 8] (fun r k => ∃ m : Int, 1 ≤ m ∧ m ≤ 12 ∧ k = .int .i64 m ∧ 0 ≤ n + 719162 - dbf y - cum y m ∧ r = .int .i64 (n + 719162 - dbf y - cum y m)) (fun _ k => (12 - intOf k).toNat)
      case atStart => exact ⟨1, by omega, by omega, rfl, by rw [cum_1]; omega, by rw [cum_1]; go_num⟩
      case round =>
        obtain ⟨m, hm1, hm2, rfl, hr, rfl⟩ := hrel
        have cb := cum_bd y m hm1 (by omega)
        have mb := mlen_bd y m
        by_cases hc : mlen y m ≤ n + 719162 - dbf y - cum y m
        · have hlt : m < 12 := by
            by_cases e : m = 12
            · exfalso
              subst e
              have a := cum_succ y 12 (by omega) (by omega)
              have b := cum_13 y
              have c : cum y (12 + 1) = cum y 13 := rfl
              have d := HS.out
              omega
            · omega
          have HC := Lib.hid (cum_succ y m hm1 hm2)
          go_wp2_with (go_at_call 98; refine (refLength_any _ _ _ (by omega) (by omega) (by omega) (by omega)).mono ?_; rintro e w' ⟨rfl, rfl⟩)
          go_round
          case rel => exact ⟨m + 1, by omega, by omega, rfl, by rw [HC.out]; omega, by rw [HC.out]; go_num⟩
          case measure => simp [intOf]; omega
        · go_wp2_with (go_at_call 98; refine (refLength_any _ _ _ (by omega) (by omega) (by omega) (by omega)).mono ?_; rintro e w' ⟨rfl, rfl⟩)
          refine bodyPost_ret (results4 rfl _ _ _) rfl ?_
          exact ⟨y, m, _, rfl, vld_of n y m hy1 hy2 hm1 hm2 hr (by omega), num_of n y m, rfl⟩
end Go.Proofs.YtogdkhnakenbcaaGreatDoor
