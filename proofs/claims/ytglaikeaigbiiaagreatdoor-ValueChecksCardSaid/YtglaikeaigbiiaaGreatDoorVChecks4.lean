/-
  Contract of the document's Check.
-/
import Derived.Test.YtglaikeaigbiiaaGreatDoorVChecks3
namespace Go.Proofs.YtglaikeaigbiiaaGreatDoor
open Go.ChangeShapes Go.WideShapes Go.ChangeAt Go.RowKit Go.Maps
set_option linter.unusedVariables false

set_option maxHeartbeats 6400000 in
theorem refCheck_yes (k s : Int) (nl : Bool) (n : Int) (t : ByteArray) (w : World) (HG : Hid (∀ W, Calls Tryz.prog 9 #[.agg #[.int .i64 k, .int .i64 s]] W fun e w' => e = .returned (.int .i64 0) ∧ Below W.heap.size W w')) : Calls Tryz.prog 11 #[.agg #[.int .i64 k, .int .i64 s, .bool nl, .int .i64 n, .string t]] w fun e w' => e = .returned (.int .i64 (if holdB k nl n t then 0 else 20)) ∧ Below w.heap.size w w' := by
  obtain ⟨r, hr⟩ : ∃ r : Int, r = if holdB k nl n t then 0 else 20 := ⟨_, rfl⟩
  rw [← hr]
  have HR := Lib.hid hr
  clear hr
  cases hS : emptyB t
  · have eS : t.toList.isEmpty = false := hS
    cases h0 : (n == 0)
    · have n0 : (n != 0) = true := by rw [bne, h0]; rfl
      cases nl
      · rcases kinds6 k with rfl | rfl | rfl | rfl | ⟨k4, k1, k3, k5⟩
        · have hL : True := trivial
          have H : Hid (holdB 4 false n t = false) := by show _ = _; simp [holdB, h0]
          go_enter Tryz.func11, Tryz.ntmps11
          go_wp2_with (first | (go_at_call 9; refine (HG.out _).mono ?_; rintro e w1 ⟨rfl, hb⟩; have hc := (bcell hb).1; have hB1 := b1 hb; clear hb) | (go_at_call 38; refine (refFitsV n _ hF).mono ?_; rintro e w2 ⟨rfl, rfl⟩))
          go_ret
          exact ⟨ret_int (by rw [HR.out, H.out]; rfl), hB1⟩
        · have hL : True := trivial
          have H : Hid (holdB 1 false n t = false) := by show _ = _; simp [holdB, hS]
          go_enter Tryz.func11, Tryz.ntmps11
          go_wp2_with (first | (go_at_call 9; refine (HG.out _).mono ?_; rintro e w1 ⟨rfl, hb⟩; have hc := (bcell hb).1; have hB1 := b1 hb; clear hb) | (go_at_call 38; refine (refFitsV n _ hF).mono ?_; rintro e w2 ⟨rfl, rfl⟩))
          go_ret
          exact ⟨ret_int (by rw [HR.out, H.out]; rfl), hB1⟩
        · have hL : True := trivial
          have H : Hid (holdB 3 false n t = false) := by show _ = _; simp [holdB, hS]
          go_enter Tryz.func11, Tryz.ntmps11
          go_wp2_with (first | (go_at_call 9; refine (HG.out _).mono ?_; rintro e w1 ⟨rfl, hb⟩; have hc := (bcell hb).1; have hB1 := b1 hb; clear hb) | (go_at_call 38; refine (refFitsV n _ hF).mono ?_; rintro e w2 ⟨rfl, rfl⟩))
          go_ret
          exact ⟨ret_int (by rw [HR.out, H.out]; rfl), hB1⟩
        · have hL : True := trivial
          have H : Hid (holdB 5 false n t = false) := by show _ = _; simp [holdB, hS]
          go_enter Tryz.func11, Tryz.ntmps11
          go_wp2_with (first | (go_at_call 9; refine (HG.out _).mono ?_; rintro e w1 ⟨rfl, hb⟩; have hc := (bcell hb).1; have hB1 := b1 hb; clear hb) | (go_at_call 38; refine (refFitsV n _ hF).mono ?_; rintro e w2 ⟨rfl, rfl⟩))
          go_ret
          exact ⟨ret_int (by rw [HR.out, H.out]; rfl), hB1⟩
        · have e4 : (k == 4) = false := by simpa using k4
          have H : Hid (holdB k false n t = false) := by show _ = _; simp [holdB, hS, k4]
          clear k4 k1 k3 k5
          go_enter Tryz.func11, Tryz.ntmps11
          go_wp2_with (first | (go_at_call 9; refine (HG.out _).mono ?_; rintro e w1 ⟨rfl, hb⟩; have hc := (bcell hb).1; have hB1 := b1 hb; clear hb) | (go_at_call 38; refine (refFitsV n _ hF).mono ?_; rintro e w2 ⟨rfl, rfl⟩))
          go_ret
          exact ⟨ret_int (by rw [HR.out, H.out]; rfl), hB1⟩
      · have hL : True := trivial
        have H : Hid (holdB k true n t = false) := by show _ = _; simp [holdB, hS, h0]
        go_enter Tryz.func11, Tryz.ntmps11
        go_wp2_with (first | (go_at_call 9; refine (HG.out _).mono ?_; rintro e w1 ⟨rfl, hb⟩; have hc := (bcell hb).1; have hB1 := b1 hb; clear hb) | (go_at_call 38; refine (refFitsV n _ hF).mono ?_; rintro e w2 ⟨rfl, rfl⟩))
        go_ret
        exact ⟨ret_int (by rw [HR.out, H.out]; rfl), hB1⟩
    · have n0 : (n != 0) = false := by rw [bne, h0]; rfl
      cases nl
      · rcases kinds6 k with rfl | rfl | rfl | rfl | ⟨k4, k1, k3, k5⟩
        · by_cases hL : t.size ≤ 256
          · have hI : (t.size : Int) ≤ 256 := by omega
            have H : Hid (holdB 4 false n t = true) := by show _ = _; simp [holdB, h0, hL]
            go_enter Tryz.func11, Tryz.ntmps11
            go_wp2_with (first | (go_at_call 9; refine (HG.out _).mono ?_; rintro e w1 ⟨rfl, hb⟩; have hc := (bcell hb).1; have hB1 := b1 hb; clear hb) | (go_at_call 38; refine (refFitsV n _ hF).mono ?_; rintro e w2 ⟨rfl, rfl⟩))
            go_ret
            exact ⟨ret_int (by rw [HR.out, H.out]; rfl), hB1⟩
          · have hI : ¬ (t.size : Int) ≤ 256 := by omega
            have hI2 : 256 < (t.size : Int) := by omega
            have H : Hid (holdB 4 false n t = false) := by show _ = _; simp [holdB, h0, hL]
            go_enter Tryz.func11, Tryz.ntmps11
            go_wp2_with (first | (go_at_call 9; refine (HG.out _).mono ?_; rintro e w1 ⟨rfl, hb⟩; have hc := (bcell hb).1; have hB1 := b1 hb; clear hb) | (go_at_call 38; refine (refFitsV n _ hF).mono ?_; rintro e w2 ⟨rfl, rfl⟩))
            go_ret
            exact ⟨ret_int (by rw [HR.out, H.out]; rfl), hB1⟩
        · have hL : True := trivial
          have H : Hid (holdB 1 false n t = false) := by show _ = _; simp [holdB, hS]
          go_enter Tryz.func11, Tryz.ntmps11
          go_wp2_with (first | (go_at_call 9; refine (HG.out _).mono ?_; rintro e w1 ⟨rfl, hb⟩; have hc := (bcell hb).1; have hB1 := b1 hb; clear hb) | (go_at_call 38; refine (refFitsV n _ hF).mono ?_; rintro e w2 ⟨rfl, rfl⟩))
          go_ret
          exact ⟨ret_int (by rw [HR.out, H.out]; rfl), hB1⟩
        · have hL : True := trivial
          have H : Hid (holdB 3 false n t = false) := by show _ = _; simp [holdB, hS]
          go_enter Tryz.func11, Tryz.ntmps11
          go_wp2_with (first | (go_at_call 9; refine (HG.out _).mono ?_; rintro e w1 ⟨rfl, hb⟩; have hc := (bcell hb).1; have hB1 := b1 hb; clear hb) | (go_at_call 38; refine (refFitsV n _ hF).mono ?_; rintro e w2 ⟨rfl, rfl⟩))
          go_ret
          exact ⟨ret_int (by rw [HR.out, H.out]; rfl), hB1⟩
        · have hL : True := trivial
          have H : Hid (holdB 5 false n t = false) := by show _ = _; simp [holdB, hS]
          go_enter Tryz.func11, Tryz.ntmps11
          go_wp2_with (first | (go_at_call 9; refine (HG.out _).mono ?_; rintro e w1 ⟨rfl, hb⟩; have hc := (bcell hb).1; have hB1 := b1 hb; clear hb) | (go_at_call 38; refine (refFitsV n _ hF).mono ?_; rintro e w2 ⟨rfl, rfl⟩))
          go_ret
          exact ⟨ret_int (by rw [HR.out, H.out]; rfl), hB1⟩
        · have e4 : (k == 4) = false := by simpa using k4
          have H : Hid (holdB k false n t = false) := by show _ = _; simp [holdB, hS, k4]
          clear k4 k1 k3 k5
          go_enter Tryz.func11, Tryz.ntmps11
          go_wp2_with (first | (go_at_call 9; refine (HG.out _).mono ?_; rintro e w1 ⟨rfl, hb⟩; have hc := (bcell hb).1; have hB1 := b1 hb; clear hb) | (go_at_call 38; refine (refFitsV n _ hF).mono ?_; rintro e w2 ⟨rfl, rfl⟩))
          go_ret
          exact ⟨ret_int (by rw [HR.out, H.out]; rfl), hB1⟩
      · have hL : True := trivial
        have H : Hid (holdB k true n t = false) := by show _ = _; simp [holdB, hS, h0]
        go_enter Tryz.func11, Tryz.ntmps11
        go_wp2_with (first | (go_at_call 9; refine (HG.out _).mono ?_; rintro e w1 ⟨rfl, hb⟩; have hc := (bcell hb).1; have hB1 := b1 hb; clear hb) | (go_at_call 38; refine (refFitsV n _ hF).mono ?_; rintro e w2 ⟨rfl, rfl⟩))
        go_ret
        exact ⟨ret_int (by rw [HR.out, H.out]; rfl), hB1⟩
  · have eS : t.toList.isEmpty = true := hS
    cases h0 : (n == 0)
    · have n0 : (n != 0) = true := by rw [bne, h0]; rfl
      cases nl
      · rcases kinds6 k with rfl | rfl | rfl | rfl | ⟨k4, k1, k3, k5⟩
        · have hL : True := trivial
          have H : Hid (holdB 4 false n t = false) := by show _ = _; simp [holdB, h0]
          go_enter Tryz.func11, Tryz.ntmps11
          go_wp2_with (first | (go_at_call 9; refine (HG.out _).mono ?_; rintro e w1 ⟨rfl, hb⟩; have hc := (bcell hb).1; have hB1 := b1 hb; clear hb) | (go_at_call 38; refine (refFitsV n _ hF).mono ?_; rintro e w2 ⟨rfl, rfl⟩))
          go_ret
          exact ⟨ret_int (by rw [HR.out, H.out]; rfl), hB1⟩
        · cases h1 : (n == 1)
          · have n1 : (n != 1) = true := by rw [bne, h1]; rfl
            have H : Hid (holdB 1 false n t = false) := by show _ = _; simp [holdB, hS, h0, h1]
            go_enter Tryz.func11, Tryz.ntmps11
            go_wp2_with (first | (go_at_call 9; refine (HG.out _).mono ?_; rintro e w1 ⟨rfl, hb⟩; have hc := (bcell hb).1; have hB1 := b1 hb; clear hb) | (go_at_call 38; refine (refFitsV n _ hF).mono ?_; rintro e w2 ⟨rfl, rfl⟩))
            go_ret
            exact ⟨ret_int (by rw [HR.out, H.out]; rfl), hB1⟩
          · have n1 : (n != 1) = false := by rw [bne, h1]; rfl
            have H : Hid (holdB 1 false n t = true) := by show _ = _; simp [holdB, hS, h0, h1]
            go_enter Tryz.func11, Tryz.ntmps11
            go_wp2_with (first | (go_at_call 9; refine (HG.out _).mono ?_; rintro e w1 ⟨rfl, hb⟩; have hc := (bcell hb).1; have hB1 := b1 hb; clear hb) | (go_at_call 38; refine (refFitsV n _ hF).mono ?_; rintro e w2 ⟨rfl, rfl⟩))
            go_ret
            exact ⟨ret_int (by rw [HR.out, H.out]; rfl), hB1⟩
        · cases hF : fitsB n
          · have hL : True := trivial
            have H : Hid (holdB 3 false n t = false) := by show _ = _; simp [holdB, hS, hF]
            go_enter Tryz.func11, Tryz.ntmps11
            go_wp2_with (first | (go_at_call 9; refine (HG.out _).mono ?_; rintro e w1 ⟨rfl, hb⟩; have hc := (bcell hb).1; have hB1 := b1 hb; clear hb) | (go_at_call 38; refine (refFitsV n _ hF).mono ?_; rintro e w2 ⟨rfl, rfl⟩))
            go_ret
            exact ⟨ret_int (by rw [HR.out, H.out]; rfl), hB1⟩
          · have hL : True := trivial
            have H : Hid (holdB 3 false n t = true) := by show _ = _; simp [holdB, hS, hF]
            go_enter Tryz.func11, Tryz.ntmps11
            go_wp2_with (first | (go_at_call 9; refine (HG.out _).mono ?_; rintro e w1 ⟨rfl, hb⟩; have hc := (bcell hb).1; have hB1 := b1 hb; clear hb) | (go_at_call 38; refine (refFitsV n _ hF).mono ?_; rintro e w2 ⟨rfl, rfl⟩))
            go_ret
            exact ⟨ret_int (by rw [HR.out, H.out]; rfl), hB1⟩
        · by_cases d1 : -719162 ≤ n
          · by_cases d2 : n ≤ 2932896
            · have hL : True := trivial
              have H : Hid (holdB 5 false n t = true) := by show _ = _; simp [holdB, hS, d1, d2]
              go_enter Tryz.func11, Tryz.ntmps11
              go_wp2_with (first | (go_at_call 9; refine (HG.out _).mono ?_; rintro e w1 ⟨rfl, hb⟩; have hc := (bcell hb).1; have hB1 := b1 hb; clear hb) | (go_at_call 38; refine (refFitsV n _ hF).mono ?_; rintro e w2 ⟨rfl, rfl⟩))
              go_ret
              exact ⟨ret_int (by rw [HR.out, H.out]; rfl), hB1⟩
            · have d3 : 2932896 < n := by omega
              have H : Hid (holdB 5 false n t = false) := by show _ = _; simp [holdB, hS, d1, d2]
              go_enter Tryz.func11, Tryz.ntmps11
              go_wp2_with (first | (go_at_call 9; refine (HG.out _).mono ?_; rintro e w1 ⟨rfl, hb⟩; have hc := (bcell hb).1; have hB1 := b1 hb; clear hb) | (go_at_call 38; refine (refFitsV n _ hF).mono ?_; rintro e w2 ⟨rfl, rfl⟩))
              go_ret
              exact ⟨ret_int (by rw [HR.out, H.out]; rfl), hB1⟩
          · have d3 : n < -719162 := by omega
            have H : Hid (holdB 5 false n t = false) := by show _ = _; simp [holdB, hS, d1]
            go_enter Tryz.func11, Tryz.ntmps11
            go_wp2_with (first | (go_at_call 9; refine (HG.out _).mono ?_; rintro e w1 ⟨rfl, hb⟩; have hc := (bcell hb).1; have hB1 := b1 hb; clear hb) | (go_at_call 38; refine (refFitsV n _ hF).mono ?_; rintro e w2 ⟨rfl, rfl⟩))
            go_ret
            exact ⟨ret_int (by rw [HR.out, H.out]; rfl), hB1⟩
        · have e4 : (k == 4) = false := by simpa using k4
          have e1 : (k == 1) = false := by simpa using k1
          have e3 : (k == 3) = false := by simpa using k3
          have e5 : (k == 5) = false := by simpa using k5
          have H : Hid (holdB k false n t = true) := by show _ = _; simp [holdB, hS, k4, k1, k3, k5]
          clear k4 k1 k3 k5
          go_enter Tryz.func11, Tryz.ntmps11
          go_wp2_with (first | (go_at_call 9; refine (HG.out _).mono ?_; rintro e w1 ⟨rfl, hb⟩; have hc := (bcell hb).1; have hB1 := b1 hb; clear hb) | (go_at_call 38; refine (refFitsV n _ hF).mono ?_; rintro e w2 ⟨rfl, rfl⟩))
          go_ret
          exact ⟨ret_int (by rw [HR.out, H.out]; rfl), hB1⟩
      · have hL : True := trivial
        have H : Hid (holdB k true n t = false) := by show _ = _; simp [holdB, hS, h0]
        go_enter Tryz.func11, Tryz.ntmps11
        go_wp2_with (first | (go_at_call 9; refine (HG.out _).mono ?_; rintro e w1 ⟨rfl, hb⟩; have hc := (bcell hb).1; have hB1 := b1 hb; clear hb) | (go_at_call 38; refine (refFitsV n _ hF).mono ?_; rintro e w2 ⟨rfl, rfl⟩))
        go_ret
        exact ⟨ret_int (by rw [HR.out, H.out]; rfl), hB1⟩
    · have n0 : (n != 0) = false := by rw [bne, h0]; rfl
      cases nl
      · rcases kinds6 k with rfl | rfl | rfl | rfl | ⟨k4, k1, k3, k5⟩
        · by_cases hL : t.size ≤ 256
          · have hI : (t.size : Int) ≤ 256 := by omega
            have H : Hid (holdB 4 false n t = true) := by show _ = _; simp [holdB, h0, hL]
            go_enter Tryz.func11, Tryz.ntmps11
            go_wp2_with (first | (go_at_call 9; refine (HG.out _).mono ?_; rintro e w1 ⟨rfl, hb⟩; have hc := (bcell hb).1; have hB1 := b1 hb; clear hb) | (go_at_call 38; refine (refFitsV n _ hF).mono ?_; rintro e w2 ⟨rfl, rfl⟩))
            go_ret
            exact ⟨ret_int (by rw [HR.out, H.out]; rfl), hB1⟩
          · have hI : ¬ (t.size : Int) ≤ 256 := by omega
            have hI2 : 256 < (t.size : Int) := by omega
            have H : Hid (holdB 4 false n t = false) := by show _ = _; simp [holdB, h0, hL]
            go_enter Tryz.func11, Tryz.ntmps11
            go_wp2_with (first | (go_at_call 9; refine (HG.out _).mono ?_; rintro e w1 ⟨rfl, hb⟩; have hc := (bcell hb).1; have hB1 := b1 hb; clear hb) | (go_at_call 38; refine (refFitsV n _ hF).mono ?_; rintro e w2 ⟨rfl, rfl⟩))
            go_ret
            exact ⟨ret_int (by rw [HR.out, H.out]; rfl), hB1⟩
        · have hL : True := trivial
          have H : Hid (holdB 1 false n t = true) := by show _ = _; simp [holdB, hS, h0]
          go_enter Tryz.func11, Tryz.ntmps11
          go_wp2_with (first | (go_at_call 9; refine (HG.out _).mono ?_; rintro e w1 ⟨rfl, hb⟩; have hc := (bcell hb).1; have hB1 := b1 hb; clear hb) | (go_at_call 38; refine (refFitsV n _ hF).mono ?_; rintro e w2 ⟨rfl, rfl⟩))
          go_ret
          exact ⟨ret_int (by rw [HR.out, H.out]; rfl), hB1⟩
        · cases hF : fitsB n
          · have hL : True := trivial
            have H : Hid (holdB 3 false n t = false) := by show _ = _; simp [holdB, hS, hF]
            go_enter Tryz.func11, Tryz.ntmps11
            go_wp2_with (first | (go_at_call 9; refine (HG.out _).mono ?_; rintro e w1 ⟨rfl, hb⟩; have hc := (bcell hb).1; have hB1 := b1 hb; clear hb) | (go_at_call 38; refine (refFitsV n _ hF).mono ?_; rintro e w2 ⟨rfl, rfl⟩))
            go_ret
            exact ⟨ret_int (by rw [HR.out, H.out]; rfl), hB1⟩
          · have hL : True := trivial
            have H : Hid (holdB 3 false n t = true) := by show _ = _; simp [holdB, hS, hF]
            go_enter Tryz.func11, Tryz.ntmps11
            go_wp2_with (first | (go_at_call 9; refine (HG.out _).mono ?_; rintro e w1 ⟨rfl, hb⟩; have hc := (bcell hb).1; have hB1 := b1 hb; clear hb) | (go_at_call 38; refine (refFitsV n _ hF).mono ?_; rintro e w2 ⟨rfl, rfl⟩))
            go_ret
            exact ⟨ret_int (by rw [HR.out, H.out]; rfl), hB1⟩
        · by_cases d1 : -719162 ≤ n
          · by_cases d2 : n ≤ 2932896
            · have hL : True := trivial
              have H : Hid (holdB 5 false n t = true) := by show _ = _; simp [holdB, hS, d1, d2]
              go_enter Tryz.func11, Tryz.ntmps11
              go_wp2_with (first | (go_at_call 9; refine (HG.out _).mono ?_; rintro e w1 ⟨rfl, hb⟩; have hc := (bcell hb).1; have hB1 := b1 hb; clear hb) | (go_at_call 38; refine (refFitsV n _ hF).mono ?_; rintro e w2 ⟨rfl, rfl⟩))
              go_ret
              exact ⟨ret_int (by rw [HR.out, H.out]; rfl), hB1⟩
            · have d3 : 2932896 < n := by omega
              have H : Hid (holdB 5 false n t = false) := by show _ = _; simp [holdB, hS, d1, d2]
              go_enter Tryz.func11, Tryz.ntmps11
              go_wp2_with (first | (go_at_call 9; refine (HG.out _).mono ?_; rintro e w1 ⟨rfl, hb⟩; have hc := (bcell hb).1; have hB1 := b1 hb; clear hb) | (go_at_call 38; refine (refFitsV n _ hF).mono ?_; rintro e w2 ⟨rfl, rfl⟩))
              go_ret
              exact ⟨ret_int (by rw [HR.out, H.out]; rfl), hB1⟩
          · have d3 : n < -719162 := by omega
            have H : Hid (holdB 5 false n t = false) := by show _ = _; simp [holdB, hS, d1]
            go_enter Tryz.func11, Tryz.ntmps11
            go_wp2_with (first | (go_at_call 9; refine (HG.out _).mono ?_; rintro e w1 ⟨rfl, hb⟩; have hc := (bcell hb).1; have hB1 := b1 hb; clear hb) | (go_at_call 38; refine (refFitsV n _ hF).mono ?_; rintro e w2 ⟨rfl, rfl⟩))
            go_ret
            exact ⟨ret_int (by rw [HR.out, H.out]; rfl), hB1⟩
        · have e4 : (k == 4) = false := by simpa using k4
          have e1 : (k == 1) = false := by simpa using k1
          have e3 : (k == 3) = false := by simpa using k3
          have e5 : (k == 5) = false := by simpa using k5
          have H : Hid (holdB k false n t = true) := by show _ = _; simp [holdB, hS, k4, k1, k3, k5]
          clear k4 k1 k3 k5
          go_enter Tryz.func11, Tryz.ntmps11
          go_wp2_with (first | (go_at_call 9; refine (HG.out _).mono ?_; rintro e w1 ⟨rfl, hb⟩; have hc := (bcell hb).1; have hB1 := b1 hb; clear hb) | (go_at_call 38; refine (refFitsV n _ hF).mono ?_; rintro e w2 ⟨rfl, rfl⟩))
          go_ret
          exact ⟨ret_int (by rw [HR.out, H.out]; rfl), hB1⟩
      · have hL : True := trivial
        have H : Hid (holdB k true n t = true) := by show _ = _; simp [holdB, hS, h0]
        go_enter Tryz.func11, Tryz.ntmps11
        go_wp2_with (first | (go_at_call 9; refine (HG.out _).mono ?_; rintro e w1 ⟨rfl, hb⟩; have hc := (bcell hb).1; have hB1 := b1 hb; clear hb) | (go_at_call 38; refine (refFitsV n _ hF).mono ?_; rintro e w2 ⟨rfl, rfl⟩))
        go_ret
        exact ⟨ret_int (by rw [HR.out, H.out]; rfl), hB1⟩

set_option maxHeartbeats 1600000 in
theorem refCheck_any (k s : Int) (nl : Bool) (n : Int) (t : ByteArray) (w : World) : Calls Tryz.prog 11 #[.agg #[.int .i64 k, .int .i64 s, .bool nl, .int .i64 n, .string t]] w fun e w' => e = .returned (.int .i64 (checkE ⟨k, s, nl, n, t⟩)) ∧ Below w.heap.size w w' := by
  cases hT : typeB k s
  · have H : Hid (checkE ⟨k, s, nl, n, t⟩ = 21) := by show _ = _; unfold checkE; rw [hT]; rfl
    have HG := Lib.hid (fun W => refCheckTypeV k s W hT)
    clear hT
    go_enter Tryz.func11, Tryz.ntmps11
    go_wp2_with (first | (go_at_call 9; refine (HG.out _).mono ?_; rintro e w1 ⟨rfl, hb⟩; have hc := (bcell hb).1; have hB1 := b1 hb; clear hb))
    go_ret
    exact ⟨ret_int H.out.symm, hB1⟩
  · have H : checkE ⟨k, s, nl, n, t⟩ = if holdB k nl n t then 0 else 20 := by unfold checkE; rw [hT]; rfl
    rw [H]
    exact refCheck_yes k s nl n t w (Lib.hid (fun W => refCheckTypeV k s W hT))
end Go.Proofs.YtglaikeaigbiiaaGreatDoor
