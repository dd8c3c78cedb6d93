/-
  Contract of the document's Show.
-/
import Derived.Test.YtogdkhnakenbcaaGreatDoorVRefShow
namespace Go.Proofs.YtogdkhnakenbcaaGreatDoor
open Go.ChangeShapes Go.WideShapes Go.ChangeAt Go.RowKit
open Cal
set_option linter.unusedVariables false

set_option maxHeartbeats 3200000 in
set_option maxRecDepth 10000 in
theorem refShow_any (k s : Int) (nl : Bool) (n : Int) (t : ByteArray) (L : List UInt8) (w : World) (hn : In64 n) (HL : Hid (IsDay n L)) (hlen : (dblL t.data.toList).length + 2 ≤ 140737488355328) :
    Calls Tryz.prog 11 #[.agg #[.int .i64 k, .int .i64 s, .bool nl, .int .i64 n, .string t]] w fun e w' => e = .returned (.string ⟨(showS ⟨k, s, nl, n, t⟩ L).toArray⟩) ∧ Below w.heap.size w w' := by
  cases nl
  · by_cases k1 : k = 1
    · subst k1
      by_cases n0 : n = 0
      · subst n0
        go_enter Tryz.func11, Tryz.ntmps11
        go_wp2_with (first | (go_at_call 39; refine (refFormatInt_any 0 hn _).mono ?_; rintro e w1 ⟨rfl, hb1⟩; have hc1 := (bcell hb1).1; have hB1 := b1 hb1; clear hb1))
        go_ret
        exact ⟨rfl, hB1⟩
      · have H : Hid (showS ⟨1, s, false, n, t⟩ L = [84, 82, 85, 69]) := by show _ = _; simp [showS, n0]
        have e0 : (n == 0) = false := by simpa using n0
        clear n0
        go_enter Tryz.func11, Tryz.ntmps11
        go_wp2_with (first | (go_at_call 39; refine (refFormatInt_any n hn _).mono ?_; rintro e w1 ⟨rfl, hb1⟩; have hc1 := (bcell hb1).1; have hB1 := b1 hb1; clear hb1))
        go_ret
        exact ⟨ret_str H.out.symm, hB1⟩
    · have e1 : (k == 1) = false := by simpa using k1
      by_cases k2 : k = 2
      · subst k2
        go_enter Tryz.func11, Tryz.ntmps11
        go_wp2_with (first | (go_at_call 39; refine (refFormatInt_any n hn _).mono ?_; rintro e w1 ⟨rfl, hb1⟩; have hc1 := (bcell hb1).1; have hB1 := b1 hb1; clear hb1))
        go_ret
        exact ⟨rfl, hB1⟩
      · have e2 : (k == 2) = false := by simpa using k2
        by_cases k3 : k = 3
        · subst k3
          cases hS : isScaleB s
          · have H : Hid (showS ⟨3, s, false, n, t⟩ L = Lib.itoa n) := by show _ = _; simp [showS, decS, hS]
            have HF := Lib.hid (fun W => refFormatDec_no n s W hS)
            clear hS e1 e2
            go_enter Tryz.func11, Tryz.ntmps11
            go_wp2_with (first | (go_at_call 39; refine (refFormatInt_any n hn _).mono ?_; rintro e w1 ⟨rfl, hb1⟩; have hc1 := (bcell hb1).1; have hB1 := b1 hb1; clear hb1) | (go_at_call 40; refine (HF.out _).mono ?_; rintro e w2 ⟨rfl, rfl⟩))
            go_ret
            exact ⟨ret_str H.out.symm, hB1⟩
          · have hs : 0 ≤ s ∧ s ≤ 18 := by simpa [isScaleB] using hS
            obtain ⟨m, rfl⟩ : ∃ m : Nat, s = m := ⟨s.toNat, by omega⟩
            have hm : m ≤ 18 := by omega
            have H : Hid (showS ⟨3, (m : Int), false, n, t⟩ L = decL n m) := by show _ = _; simp [showS, decS, hS]
            clear hS hs e1 e2
            go_enter Tryz.func11, Tryz.ntmps11
            go_wp2_with (first | (go_at_call 39; refine (refFormatInt_any n hn _).mono ?_; rintro e w1 ⟨rfl, hb1⟩; have hc1 := (bcell hb1).1; have hB1 := b1 hb1; clear hb1) | (go_at_call 40; refine (refFormatDec_yes n m hn hm _).mono ?_; rintro e w2 ⟨rfl, hb2⟩; have hB2 := bt hB1 hb2; clear hb2))
            go_ret
            exact ⟨ret_str H.out.symm, hB2⟩
        · have e3 : (k == 3) = false := by simpa using k3
          by_cases k4 : k = 4
          · subst k4
            exact refShow_text s n t w hn hlen
          · have e4 : (k == 4) = false := by simpa using k4
            by_cases k5 : k = 5
            · subst k5
              by_cases h : -719162 ≤ n ∧ n ≤ 2932896
              · have H : Hid (showS ⟨5, s, false, n, t⟩ L = L) := by show _ = _; simp [showS, dayS, h]
                have HF := Lib.hid (fun W => refFormatDay_yes n W h.1 h.2)
                clear h e1 e2 e3 e4
                go_enter Tryz.func11, Tryz.ntmps11
                go_wp2_with (first | (go_at_call 39; refine (refFormatInt_any n hn _).mono ?_; rintro e w1 ⟨rfl, hb1⟩; have hc1 := (bcell hb1).1; have hB1 := b1 hb1; clear hb1) | (go_at_call 41; refine (HF.out _).mono ?_; rintro e w2 ⟨y, m, d, rfl, hv, hd, hb2⟩; have hB2 := bt hB1 hb2; have HT := Lib.hid (HL.out y m d hv hd); clear hv hd hb2))
                go_ret
                exact ⟨ret_str (HT.out.trans H.out.symm), hB2⟩
              · have h' : n < -719162 ∨ 2932896 < n := by omega
                have H : Hid (showS ⟨5, s, false, n, t⟩ L = Lib.itoa n) := by show _ = _; simp only [showS, dayS, if_neg h]; simp
                have HF := Lib.hid (fun W => refFormatDay_no n W h')
                clear h h' e1 e2 e3 e4
                go_enter Tryz.func11, Tryz.ntmps11
                go_wp2_with (first | (go_at_call 39; refine (refFormatInt_any n hn _).mono ?_; rintro e w1 ⟨rfl, hb1⟩; have hc1 := (bcell hb1).1; have hB1 := b1 hb1; clear hb1) | (go_at_call 41; refine (HF.out _).mono ?_; rintro e w2 ⟨rfl, rfl⟩))
                go_ret
                exact ⟨ret_str H.out.symm, hB1⟩
            · have e5 : (k == 5) = false := by simpa using k5
              have H : Hid (showS ⟨k, s, false, n, t⟩ L = [63]) := by show _ = _; simp [showS, k1, k2, k3, k4, k5]
              clear k1 k2 k3 k4 k5
              go_enter Tryz.func11, Tryz.ntmps11
              go_wp2_with (first | (go_at_call 39; refine (refFormatInt_any n hn _).mono ?_; rintro e w1 ⟨rfl, hb1⟩; have hc1 := (bcell hb1).1; have hB1 := b1 hb1; clear hb1))
              go_ret
              exact ⟨ret_str H.out.symm, hB1⟩
  · skip
    go_enter Tryz.func11, Tryz.ntmps11
    go_wp2
    go_ret
    exact ⟨rfl, alloc_below _ _⟩
end Go.Proofs.YtogdkhnakenbcaaGreatDoor
