/-
  Contract of Show.
-/
import Derived.Test.YtogdkhnakenbcaaGreatDoorVBegun
import Derived.Test.YtogdkhnakenbcaaGreatDoorFormat
namespace Go.Proofs.YtogdkhnakenbcaaGreatDoor
open Go.ChangeShapes Go.WideShapes Go.ChangeAt Go.RowKit
open Cal
set_option linter.unusedVariables false

theorem ret_err {l : List UInt8} {a b : Int} (h : a = b) : Ending.returned (.tuple #[.string ⟨l.toArray⟩, .int .i64 a]) = .returned (.tuple #[.string ⟨l.toArray⟩, .int .i64 b]) := by rw [h]
def decS (n s : Int) : List UInt8 := if isScaleB s then decL n s.toNat else Lib.itoa n
/-- L: the text of the day n, if there is one. -/
def dayS (n : Int) (L : List UInt8) : List UInt8 := if -719162 ≤ n ∧ n ≤ 2932896 then L else Lib.itoa n
def IsDay (n : Int) (L : List UInt8) : Prop := ∀ y m d : Nat, vld y m d → dayNum y m d = n → dayL y m d = L
def showS (a : VR) (L : List UInt8) : List UInt8 := if a.nl then [78, 85, 76, 76] else if a.k = 1 then (if a.n = 0 then [70, 65, 76, 83, 69] else [84, 82, 85, 69]) else if a.k = 2 then Lib.itoa a.n else if a.k = 3 then decS a.n a.s else if a.k = 4 then quoteL a.t.data.toList else if a.k = 5 then dayS a.n L else [63]

set_option maxHeartbeats 800000 in
theorem showDec_any (k s : Int) (nl : Bool) (n : Int) (t : ByteArray) (w : World) (hn : In64 n) (hP : PowLaid w) :
    Calls Tryz.prog 36 #[.agg #[.int .i64 k, .int .i64 s, .bool nl, .int .i64 n, .string t]] w fun e w' => e = .returned (.string ⟨(decS n s).toArray⟩) ∧ Below w.heap.size w w' := by
  have hP1 := Lib.hid (hP.below (alloc_below w (.cells #[.int .i64 k, .int .i64 s, .bool nl, .int .i64 n, .string t] 25)))
  cases hS : isScaleB s
  · have H : Hid (decS n s = Lib.itoa n) := by show _ = _; unfold decS; rw [hS]; rfl
    have HF := Lib.hid (fun W => formatDec_no n s W hS)
    clear hS hP
    go_enter Tryz.func36, Tryz.ntmps36
    go_wp2_with (first | (go_at_call 64; refine (HF.out _).mono ?_; rintro e w1 ⟨rfl, rfl⟩) | (go_at_call 35; refine (formatInt_any n hn _ hP1.out).mono ?_; rintro e w2 ⟨rfl, hb2⟩; have hB := b1 hb2; clear hb2))
    go_ret
    exact ⟨ret_str H.out.symm, hB⟩
  · have hs : 0 ≤ s ∧ s ≤ 18 := by simpa [isScaleB] using hS
    obtain ⟨m, rfl⟩ : ∃ m : Nat, s = m := ⟨s.toNat, by omega⟩
    have hm : m ≤ 18 := by omega
    have H : Hid (decS n (m : Int) = decL n m) := by show _ = _; unfold decS; rw [hS]; rfl
    clear hS hs hP
    go_enter Tryz.func36, Tryz.ntmps36
    go_wp2_with (first | (go_at_call 64; refine (formatDec_yes n m hn hm _ hP1.out).mono ?_; rintro e w2 ⟨rfl, hb2⟩; have hB := b1 hb2; clear hb2))
    go_ret
    exact ⟨ret_str H.out.symm, hB⟩

set_option maxHeartbeats 800000 in
theorem showDay_any (n : Int) (L : List UInt8) (w : World) (hn : In64 n) (HL : Hid (IsDay n L)) (hM : MLaid w) (hP : PowLaid w) :
    Calls Tryz.prog 38 #[.int .i64 n] w fun e w' => e = .returned (.string ⟨(dayS n L).toArray⟩) ∧ Below w.heap.size w w' := by
  by_cases h : -719162 ≤ n ∧ n ≤ 2932896
  · have H : Hid (dayS n L = L) := if_pos h
    have HF := Lib.hid (formatDay_yes n w hM hP h.1 h.2)
    clear h hM hP
    go_enter Tryz.func38, Tryz.ntmps38
    go_wp2_with (first | (go_at_call 66; refine HF.out.mono ?_; rintro e w1 ⟨y, m, d, rfl, hv, hd, hB⟩; have HT := Lib.hid (HL.out y m d hv hd); clear hv hd))
    go_ret
    exact ⟨ret_str (HT.out.trans H.out.symm), hB⟩
  · have h' : n < -719162 ∨ 2932896 < n := by omega
    have H : Hid (dayS n L = Lib.itoa n) := if_neg h
    have HF := Lib.hid (fun W => formatDay_no n W h')
    have HP := Lib.hid hP
    clear h h' hM hP
    go_enter Tryz.func38, Tryz.ntmps38
    go_wp2_with (first | (go_at_call 66; refine (HF.out _).mono ?_; rintro e w1 ⟨rfl, rfl⟩) | (go_at_call 35; refine (formatInt_any n hn _ HP.out).mono ?_; rintro e w2 ⟨rfl, hB⟩))
    go_ret
    exact ⟨ret_str H.out.symm, hB⟩

set_option maxHeartbeats 3200000 in
theorem show_any (k s : Int) (nl : Bool) (n : Int) (t : ByteArray) (L : List UInt8) (w : World) (hn : In64 n) (HL : Hid (IsDay n L)) (hlen : (dblL t.data.toList).length + 2 ≤ 140737488355328) (hM : MLaid w) (hP : PowLaid w) (hlow : 4 < w.heap.size) :
    Calls Tryz.prog 10 #[.agg #[.int .i64 k, .int .i64 s, .bool nl, .int .i64 n, .string t]] w fun e w' => e = .returned (.string ⟨(showS ⟨k, s, nl, n, t⟩ L).toArray⟩) ∧ Below w.heap.size w w' := by
  have hBa := alloc_below w (.cells #[.int .i64 k, .int .i64 s, .bool nl, .int .i64 n, .string t] 25)
  have hP1 := Lib.hid (hP.below hBa)
  have hM1 := Lib.hid (hM.below hBa hlow)
  have HX : Hid (showS ⟨k, s, nl, n, t⟩ L = showS ⟨k, s, nl, n, t⟩ L) := rfl
  clear hBa hM hP
  cases nl
  · by_cases k1 : k = 1
    · subst k1
      by_cases n0 : n = 0
      · subst n0
        go_enter Tryz.func10, Tryz.ntmps10
        go_wp2
        go_ret
        exact ⟨rfl, alloc_below _ _⟩
      · have H : Hid (showS ⟨1, s, false, n, t⟩ L = [84, 82, 85, 69]) := by show _ = _; simp [showS, n0]
        have e0 : (n == 0) = false := by simpa using n0
        clear n0
        go_enter Tryz.func10, Tryz.ntmps10
        go_wp2
        go_ret
        exact ⟨ret_str H.out.symm, alloc_below _ _⟩
    · have e1 : (k == 1) = false := by simpa using k1
      by_cases k2 : k = 2
      · subst k2
        go_enter Tryz.func10, Tryz.ntmps10
        go_wp2_with (first | (go_at_call 35; refine (formatInt_any n hn _ hP1.out).mono ?_; rintro e w2 ⟨rfl, hb2⟩; have hB := b1 hb2; clear hb2))
        go_ret
        exact ⟨rfl, hB⟩
      · have e2 : (k == 2) = false := by simpa using k2
        by_cases k3 : k = 3
        · subst k3
          go_enter Tryz.func10, Tryz.ntmps10
          go_wp2_with (first | (go_at_call 36; refine (showDec_any _ _ _ _ _ _ hn hP1.out).mono ?_; rintro e w2 ⟨rfl, hb2⟩; have hB := b1 hb2; clear hb2))
          go_ret
          exact ⟨rfl, hB⟩
        · have e3 : (k == 3) = false := by simpa using k3
          by_cases k4 : k = 4
          · subst k4
            exact show_text s n t w hlen
          · have e4 : (k == 4) = false := by simpa using k4
            by_cases k5 : k = 5
            · subst k5
              go_enter Tryz.func10, Tryz.ntmps10
              go_wp2_with (first | (go_at_call 38; refine (showDay_any n L _ hn HL hM1.out hP1.out).mono ?_; rintro e w2 ⟨rfl, hb2⟩; have hB := b1 hb2; clear hb2))
              go_ret
              exact ⟨rfl, hB⟩
            · have e5 : (k == 5) = false := by simpa using k5
              have H : Hid (showS ⟨k, s, false, n, t⟩ L = [63]) := by show _ = _; simp [showS, k1, k2, k3, k4, k5]
              clear k1 k2 k3 k4 k5
              go_enter Tryz.func10, Tryz.ntmps10
              go_wp2
              go_ret
              exact ⟨ret_str H.out.symm, alloc_below _ _⟩
  · go_enter Tryz.func10, Tryz.ntmps10
    go_wp2
    go_ret
    exact ⟨rfl, alloc_below _ _⟩
end Go.Proofs.YtogdkhnakenbcaaGreatDoor
