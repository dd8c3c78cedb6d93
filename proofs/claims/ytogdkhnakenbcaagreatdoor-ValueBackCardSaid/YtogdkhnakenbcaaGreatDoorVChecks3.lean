/-
  Contracts of isValid and Check, and the document's.
-/
import Derived.Test.YtogdkhnakenbcaaGreatDoorVChecks2
namespace Go.Proofs.YtogdkhnakenbcaaGreatDoor
open Go.ChangeShapes Go.WideShapes Go.ChangeAt Go.RowKit Go.Maps
set_option linter.unusedVariables false

def emptyB (t : ByteArray) : Bool := t.toList.isEmpty
/-- Does a value hold what its type allows? -/
def holdB (k : Int) (nl : Bool) (n : Int) (t : ByteArray) : Bool :=
  if nl then n == 0 && emptyB t
  else if k = 4 then n == 0 && decide (t.size ≤ 256)
  else if emptyB t = false then false
  else if k = 1 then n == 0 || n == 1
  else if k = 3 then fitsB n
  else if k = 5 then decide (-719162 ≤ n) && decide (n ≤ 2932896)
  else true
def checkE (a : VR) : Int := if typeB a.k a.s = false then 21 else if holdB a.k a.nl a.n a.t then 0 else 20
theorem kinds6 (k : Int) : k = 4 ∨ k = 1 ∨ k = 3 ∨ k = 5 ∨ (k ≠ 4 ∧ k ≠ 1 ∧ k ≠ 3 ∧ k ≠ 5) := by omega
theorem fitsV (n : Int) (w : World) {b : Bool} (h : fitsB n = b) : Calls Tryz.prog 71 #[.int .i64 n] w fun e w' => e = .returned (.bool b) ∧ w = w' := h ▸ fits_any n w
theorem refFitsV (n : Int) (w : World) {b : Bool} (h : fitsB n = b) : Calls Tryz.prog 52 #[.int .i64 n] w fun e w' => e = .returned (.bool b) ∧ w = w' := h ▸ refFits_any n w

set_option maxHeartbeats 6400000 in
theorem isValid_any (k s : Int) (nl : Bool) (n : Int) (t : ByteArray) (w : World) : Calls Tryz.prog 43 #[.agg #[.int .i64 k, .int .i64 s, .bool nl, .int .i64 n, .string t]] w fun e w' => e = .returned (.bool (holdB k nl n t)) ∧ Below w.heap.size w w' := by
  cases hS : emptyB t
  · have eS : t.toList.isEmpty = false := hS
    cases h0 : (n == 0)
    · have n0 : (n != 0) = true := by rw [bne, h0]; rfl
      cases nl
      · rcases kinds6 k with rfl | rfl | rfl | rfl | ⟨k4, k1, k3, k5⟩
        · have hL : True := trivial
          have H : Hid (holdB 4 false n t = false) := by show _ = _; simp [holdB, h0]
          go_enter Tryz.func43, Tryz.ntmps43
          go_wp2_with (first | (go_at_call 71; refine (fitsV n _ hF).mono ?_; rintro e w1 ⟨rfl, rfl⟩))
          go_ret
          exact ⟨ret_bool H.out.symm, alloc_below _ _⟩
        · have hL : True := trivial
          have H : Hid (holdB 1 false n t = false) := by show _ = _; simp [holdB, hS]
          go_enter Tryz.func43, Tryz.ntmps43
          go_wp2_with (first | (go_at_call 71; refine (fitsV n _ hF).mono ?_; rintro e w1 ⟨rfl, rfl⟩))
          go_ret
          exact ⟨ret_bool H.out.symm, alloc_below _ _⟩
        · have hL : True := trivial
          have H : Hid (holdB 3 false n t = false) := by show _ = _; simp [holdB, hS]
          go_enter Tryz.func43, Tryz.ntmps43
          go_wp2_with (first | (go_at_call 71; refine (fitsV n _ hF).mono ?_; rintro e w1 ⟨rfl, rfl⟩))
          go_ret
          exact ⟨ret_bool H.out.symm, alloc_below _ _⟩
        · have hL : True := trivial
          have H : Hid (holdB 5 false n t = false) := by show _ = _; simp [holdB, hS]
          go_enter Tryz.func43, Tryz.ntmps43
          go_wp2_with (first | (go_at_call 71; refine (fitsV n _ hF).mono ?_; rintro e w1 ⟨rfl, rfl⟩))
          go_ret
          exact ⟨ret_bool H.out.symm, alloc_below _ _⟩
        · have e4 : (k == 4) = false := by simpa using k4
          have H : Hid (holdB k false n t = false) := by show _ = _; simp [holdB, hS, k4]
          clear k4 k1 k3 k5
          go_enter Tryz.func43, Tryz.ntmps43
          go_wp2_with (first | (go_at_call 71; refine (fitsV n _ hF).mono ?_; rintro e w1 ⟨rfl, rfl⟩))
          go_ret
          exact ⟨ret_bool H.out.symm, alloc_below _ _⟩
      · have hL : True := trivial
        have H : Hid (holdB k true n t = false) := by show _ = _; simp [holdB, hS, h0]
        go_enter Tryz.func43, Tryz.ntmps43
        go_wp2_with (first | (go_at_call 71; refine (fitsV n _ hF).mono ?_; rintro e w1 ⟨rfl, rfl⟩))
        go_ret
        exact ⟨ret_bool H.out.symm, alloc_below _ _⟩
    · have n0 : (n != 0) = false := by rw [bne, h0]; rfl
      cases nl
      · rcases kinds6 k with rfl | rfl | rfl | rfl | ⟨k4, k1, k3, k5⟩
        · by_cases hL : t.size ≤ 256
          · have hI : (t.size : Int) ≤ 256 := by omega
            have H : Hid (holdB 4 false n t = true) := by show _ = _; simp [holdB, h0, hL]
            go_enter Tryz.func43, Tryz.ntmps43
            go_wp2_with (first | (go_at_call 71; refine (fitsV n _ hF).mono ?_; rintro e w1 ⟨rfl, rfl⟩))
            go_ret
            exact ⟨ret_bool H.out.symm, alloc_below _ _⟩
          · have hI : ¬ (t.size : Int) ≤ 256 := by omega
            have hI2 : 256 < (t.size : Int) := by omega
            have H : Hid (holdB 4 false n t = false) := by show _ = _; simp [holdB, h0, hL]
            go_enter Tryz.func43, Tryz.ntmps43
            go_wp2_with (first | (go_at_call 71; refine (fitsV n _ hF).mono ?_; rintro e w1 ⟨rfl, rfl⟩))
            go_ret
            exact ⟨ret_bool H.out.symm, alloc_below _ _⟩
        · have hL : True := trivial
          have H : Hid (holdB 1 false n t = false) := by show _ = _; simp [holdB, hS]
          go_enter Tryz.func43, Tryz.ntmps43
          go_wp2_with (first | (go_at_call 71; refine (fitsV n _ hF).mono ?_; rintro e w1 ⟨rfl, rfl⟩))
          go_ret
          exact ⟨ret_bool H.out.symm, alloc_below _ _⟩
        · have hL : True := trivial
          have H : Hid (holdB 3 false n t = false) := by show _ = _; simp [holdB, hS]
          go_enter Tryz.func43, Tryz.ntmps43
          go_wp2_with (first | (go_at_call 71; refine (fitsV n _ hF).mono ?_; rintro e w1 ⟨rfl, rfl⟩))
          go_ret
          exact ⟨ret_bool H.out.symm, alloc_below _ _⟩
        · have hL : True := trivial
          have H : Hid (holdB 5 false n t = false) := by show _ = _; simp [holdB, hS]
          go_enter Tryz.func43, Tryz.ntmps43
          go_wp2_with (first | (go_at_call 71; refine (fitsV n _ hF).mono ?_; rintro e w1 ⟨rfl, rfl⟩))
          go_ret
          exact ⟨ret_bool H.out.symm, alloc_below _ _⟩
        · have e4 : (k == 4) = false := by simpa using k4
          have H : Hid (holdB k false n t = false) := by show _ = _; simp [holdB, hS, k4]
          clear k4 k1 k3 k5
          go_enter Tryz.func43, Tryz.ntmps43
          go_wp2_with (first | (go_at_call 71; refine (fitsV n _ hF).mono ?_; rintro e w1 ⟨rfl, rfl⟩))
          go_ret
          exact ⟨ret_bool H.out.symm, alloc_below _ _⟩
      · have hL : True := trivial
        have H : Hid (holdB k true n t = false) := by show _ = _; simp [holdB, hS, h0]
        go_enter Tryz.func43, Tryz.ntmps43
        go_wp2_with (first | (go_at_call 71; refine (fitsV n _ hF).mono ?_; rintro e w1 ⟨rfl, rfl⟩))
        go_ret
        exact ⟨ret_bool H.out.symm, alloc_below _ _⟩
  · have eS : t.toList.isEmpty = true := hS
    cases h0 : (n == 0)
    · have n0 : (n != 0) = true := by rw [bne, h0]; rfl
      cases nl
      · rcases kinds6 k with rfl | rfl | rfl | rfl | ⟨k4, k1, k3, k5⟩
        · have hL : True := trivial
          have H : Hid (holdB 4 false n t = false) := by show _ = _; simp [holdB, h0]
          go_enter Tryz.func43, Tryz.ntmps43
          go_wp2_with (first | (go_at_call 71; refine (fitsV n _ hF).mono ?_; rintro e w1 ⟨rfl, rfl⟩))
          go_ret
          exact ⟨ret_bool H.out.symm, alloc_below _ _⟩
        · cases h1 : (n == 1)
          · have n1 : (n != 1) = true := by rw [bne, h1]; rfl
            have H : Hid (holdB 1 false n t = false) := by show _ = _; simp [holdB, hS, h0, h1]
            go_enter Tryz.func43, Tryz.ntmps43
            go_wp2_with (first | (go_at_call 71; refine (fitsV n _ hF).mono ?_; rintro e w1 ⟨rfl, rfl⟩))
            go_ret
            exact ⟨ret_bool H.out.symm, alloc_below _ _⟩
          · have n1 : (n != 1) = false := by rw [bne, h1]; rfl
            have H : Hid (holdB 1 false n t = true) := by show _ = _; simp [holdB, hS, h0, h1]
            go_enter Tryz.func43, Tryz.ntmps43
            go_wp2_with (first | (go_at_call 71; refine (fitsV n _ hF).mono ?_; rintro e w1 ⟨rfl, rfl⟩))
            go_ret
            exact ⟨ret_bool H.out.symm, alloc_below _ _⟩
        · cases hF : fitsB n
          · have hL : True := trivial
            have H : Hid (holdB 3 false n t = false) := by show _ = _; simp [holdB, hS, hF]
            go_enter Tryz.func43, Tryz.ntmps43
            go_wp2_with (first | (go_at_call 71; refine (fitsV n _ hF).mono ?_; rintro e w1 ⟨rfl, rfl⟩))
            go_ret
            exact ⟨ret_bool H.out.symm, alloc_below _ _⟩
          · have hL : True := trivial
            have H : Hid (holdB 3 false n t = true) := by show _ = _; simp [holdB, hS, hF]
            go_enter Tryz.func43, Tryz.ntmps43
            go_wp2_with (first | (go_at_call 71; refine (fitsV n _ hF).mono ?_; rintro e w1 ⟨rfl, rfl⟩))
            go_ret
            exact ⟨ret_bool H.out.symm, alloc_below _ _⟩
        · by_cases d1 : -719162 ≤ n
          · by_cases d2 : n ≤ 2932896
            · have hL : True := trivial
              have H : Hid (holdB 5 false n t = true) := by show _ = _; simp [holdB, hS, d1, d2]
              go_enter Tryz.func43, Tryz.ntmps43
              go_wp2_with (first | (go_at_call 71; refine (fitsV n _ hF).mono ?_; rintro e w1 ⟨rfl, rfl⟩))
              go_ret
              exact ⟨ret_bool H.out.symm, alloc_below _ _⟩
            · have d3 : 2932896 < n := by omega
              have H : Hid (holdB 5 false n t = false) := by show _ = _; simp [holdB, hS, d1, d2]
              go_enter Tryz.func43, Tryz.ntmps43
              go_wp2_with (first | (go_at_call 71; refine (fitsV n _ hF).mono ?_; rintro e w1 ⟨rfl, rfl⟩))
              go_ret
              exact ⟨ret_bool H.out.symm, alloc_below _ _⟩
          · have d3 : n < -719162 := by omega
            have H : Hid (holdB 5 false n t = false) := by show _ = _; simp [holdB, hS, d1]
            go_enter Tryz.func43, Tryz.ntmps43
            go_wp2_with (first | (go_at_call 71; refine (fitsV n _ hF).mono ?_; rintro e w1 ⟨rfl, rfl⟩))
            go_ret
            exact ⟨ret_bool H.out.symm, alloc_below _ _⟩
        · have e4 : (k == 4) = false := by simpa using k4
          have e1 : (k == 1) = false := by simpa using k1
          have e3 : (k == 3) = false := by simpa using k3
          have e5 : (k == 5) = false := by simpa using k5
          have H : Hid (holdB k false n t = true) := by show _ = _; simp [holdB, hS, k4, k1, k3, k5]
          clear k4 k1 k3 k5
          go_enter Tryz.func43, Tryz.ntmps43
          go_wp2_with (first | (go_at_call 71; refine (fitsV n _ hF).mono ?_; rintro e w1 ⟨rfl, rfl⟩))
          go_ret
          exact ⟨ret_bool H.out.symm, alloc_below _ _⟩
      · have hL : True := trivial
        have H : Hid (holdB k true n t = false) := by show _ = _; simp [holdB, hS, h0]
        go_enter Tryz.func43, Tryz.ntmps43
        go_wp2_with (first | (go_at_call 71; refine (fitsV n _ hF).mono ?_; rintro e w1 ⟨rfl, rfl⟩))
        go_ret
        exact ⟨ret_bool H.out.symm, alloc_below _ _⟩
    · have n0 : (n != 0) = false := by rw [bne, h0]; rfl
      cases nl
      · rcases kinds6 k with rfl | rfl | rfl | rfl | ⟨k4, k1, k3, k5⟩
        · by_cases hL : t.size ≤ 256
          · have hI : (t.size : Int) ≤ 256 := by omega
            have H : Hid (holdB 4 false n t = true) := by show _ = _; simp [holdB, h0, hL]
            go_enter Tryz.func43, Tryz.ntmps43
            go_wp2_with (first | (go_at_call 71; refine (fitsV n _ hF).mono ?_; rintro e w1 ⟨rfl, rfl⟩))
            go_ret
            exact ⟨ret_bool H.out.symm, alloc_below _ _⟩
          · have hI : ¬ (t.size : Int) ≤ 256 := by omega
            have hI2 : 256 < (t.size : Int) := by omega
            have H : Hid (holdB 4 false n t = false) := by show _ = _; simp [holdB, h0, hL]
            go_enter Tryz.func43, Tryz.ntmps43
            go_wp2_with (first | (go_at_call 71; refine (fitsV n _ hF).mono ?_; rintro e w1 ⟨rfl, rfl⟩))
            go_ret
            exact ⟨ret_bool H.out.symm, alloc_below _ _⟩
        · have hL : True := trivial
          have H : Hid (holdB 1 false n t = true) := by show _ = _; simp [holdB, hS, h0]
          go_enter Tryz.func43, Tryz.ntmps43
          go_wp2_with (first | (go_at_call 71; refine (fitsV n _ hF).mono ?_; rintro e w1 ⟨rfl, rfl⟩))
          go_ret
          exact ⟨ret_bool H.out.symm, alloc_below _ _⟩
        · cases hF : fitsB n
          · have hL : True := trivial
            have H : Hid (holdB 3 false n t = false) := by show _ = _; simp [holdB, hS, hF]
            go_enter Tryz.func43, Tryz.ntmps43
            go_wp2_with (first | (go_at_call 71; refine (fitsV n _ hF).mono ?_; rintro e w1 ⟨rfl, rfl⟩))
            go_ret
            exact ⟨ret_bool H.out.symm, alloc_below _ _⟩
          · have hL : True := trivial
            have H : Hid (holdB 3 false n t = true) := by show _ = _; simp [holdB, hS, hF]
            go_enter Tryz.func43, Tryz.ntmps43
            go_wp2_with (first | (go_at_call 71; refine (fitsV n _ hF).mono ?_; rintro e w1 ⟨rfl, rfl⟩))
            go_ret
            exact ⟨ret_bool H.out.symm, alloc_below _ _⟩
        · by_cases d1 : -719162 ≤ n
          · by_cases d2 : n ≤ 2932896
            · have hL : True := trivial
              have H : Hid (holdB 5 false n t = true) := by show _ = _; simp [holdB, hS, d1, d2]
              go_enter Tryz.func43, Tryz.ntmps43
              go_wp2_with (first | (go_at_call 71; refine (fitsV n _ hF).mono ?_; rintro e w1 ⟨rfl, rfl⟩))
              go_ret
              exact ⟨ret_bool H.out.symm, alloc_below _ _⟩
            · have d3 : 2932896 < n := by omega
              have H : Hid (holdB 5 false n t = false) := by show _ = _; simp [holdB, hS, d1, d2]
              go_enter Tryz.func43, Tryz.ntmps43
              go_wp2_with (first | (go_at_call 71; refine (fitsV n _ hF).mono ?_; rintro e w1 ⟨rfl, rfl⟩))
              go_ret
              exact ⟨ret_bool H.out.symm, alloc_below _ _⟩
          · have d3 : n < -719162 := by omega
            have H : Hid (holdB 5 false n t = false) := by show _ = _; simp [holdB, hS, d1]
            go_enter Tryz.func43, Tryz.ntmps43
            go_wp2_with (first | (go_at_call 71; refine (fitsV n _ hF).mono ?_; rintro e w1 ⟨rfl, rfl⟩))
            go_ret
            exact ⟨ret_bool H.out.symm, alloc_below _ _⟩
        · have e4 : (k == 4) = false := by simpa using k4
          have e1 : (k == 1) = false := by simpa using k1
          have e3 : (k == 3) = false := by simpa using k3
          have e5 : (k == 5) = false := by simpa using k5
          have H : Hid (holdB k false n t = true) := by show _ = _; simp [holdB, hS, k4, k1, k3, k5]
          clear k4 k1 k3 k5
          go_enter Tryz.func43, Tryz.ntmps43
          go_wp2_with (first | (go_at_call 71; refine (fitsV n _ hF).mono ?_; rintro e w1 ⟨rfl, rfl⟩))
          go_ret
          exact ⟨ret_bool H.out.symm, alloc_below _ _⟩
      · have hL : True := trivial
        have H : Hid (holdB k true n t = true) := by show _ = _; simp [holdB, hS, h0]
        go_enter Tryz.func43, Tryz.ntmps43
        go_wp2_with (first | (go_at_call 71; refine (fitsV n _ hF).mono ?_; rintro e w1 ⟨rfl, rfl⟩))
        go_ret
        exact ⟨ret_bool H.out.symm, alloc_below _ _⟩

theorem checkTypeV (k s : Int) (w : World) (hk : In64 k) {b : Bool} (h : typeB k s = b) : Calls Tryz.prog 18 #[.agg #[.int .i64 k, .int .i64 s]] w fun e w' => e = .returned (.int .i64 (if b then 0 else 21)) ∧ Below w.heap.size w w' := h ▸ checkType_any k s w hk
theorem refCheckTypeV (k s : Int) (w : World) {b : Bool} (h : typeB k s = b) : Calls Tryz.prog 23 #[.agg #[.int .i64 k, .int .i64 s]] w fun e w' => e = .returned (.int .i64 (if b then 0 else 21)) ∧ Below w.heap.size w w' := h ▸ refCheckType_any k s w
theorem isValidV (k s : Int) (nl : Bool) (n : Int) (t : ByteArray) (w : World) {b : Bool} (h : holdB k nl n t = b) : Calls Tryz.prog 43 #[.agg #[.int .i64 k, .int .i64 s, .bool nl, .int .i64 n, .string t]] w fun e w' => e = .returned (.bool b) ∧ Below w.heap.size w w' := h ▸ isValid_any k s nl n t w
set_option maxHeartbeats 1600000 in
theorem check_any (k s : Int) (nl : Bool) (n : Int) (t : ByteArray) (w : World) (hk : In64 k) : Calls Tryz.prog 16 #[.agg #[.int .i64 k, .int .i64 s, .bool nl, .int .i64 n, .string t]] w fun e w' => e = .returned (.int .i64 (checkE ⟨k, s, nl, n, t⟩)) ∧ Below w.heap.size w w' := by
  cases hT : typeB k s
  · have H : Hid (checkE ⟨k, s, nl, n, t⟩ = 21) := by show _ = _; unfold checkE; rw [hT]; rfl
    have HG := Lib.hid (fun W => checkTypeV k s W hk hT)
    clear hk hT
    go_enter Tryz.func16, Tryz.ntmps16
    go_wp2_with (first | (go_at_call 18; refine (HG.out _).mono ?_; rintro e w1 ⟨rfl, hb⟩; have hc := (bcell hb).1; have hB1 := b1 hb; clear hb))
    go_ret
    exact ⟨ret_int H.out.symm, hB1⟩
  · cases hH : holdB k nl n t
    all_goals
      have H : Hid (checkE ⟨k, s, nl, n, t⟩ = checkE ⟨k, s, nl, n, t⟩) := rfl
      have HX := H.out
      have HG := Lib.hid (fun W => checkTypeV k s W hk hT)
      have HV := Lib.hid (fun W => isValidV k s nl n t W hH)
      have HE : Hid (checkE ⟨k, s, nl, n, t⟩ = if holdB k nl n t then 0 else 20) := by show _ = _; unfold checkE; rw [hT]; rfl
      have HH := Lib.hid hH
      clear HX H hk hT hH
      go_enter Tryz.func16, Tryz.ntmps16
      go_wp2_with fail
      refine (HG.out _).mono ?_
      rintro e w1 ⟨rfl, hb⟩
      have hc := (bcell hb).1
      have hB1 := b1 hb
      clear hb
      go_wp2_with fail
      refine (HV.out _).mono ?_
      rintro e w2 ⟨rfl, hb⟩
      have hB2 := bt hB1 hb
      clear hb hB1
      go_wp2
      go_ret
      exact ⟨ret_int (by rw [HE.out, HH.out]; rfl), hB2⟩
end Go.Proofs.YtogdkhnakenbcaaGreatDoor
