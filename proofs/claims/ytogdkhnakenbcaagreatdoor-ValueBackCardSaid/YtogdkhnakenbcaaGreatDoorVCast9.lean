/-
  Show of what is no text: no bound is wanted.
  Casts: both programs', as one answer.
-/
import Derived.Test.YtogdkhnakenbcaaGreatDoorVRefShow2
import Derived.Test.YtogdkhnakenbcaaGreatDoorVCast8
namespace Go.Proofs.YtogdkhnakenbcaaGreatDoor
section

open Go.ChangeShapes Go.WideShapes Go.ChangeAt Go.RowKit
open Cal
set_option linter.unusedVariables false

set_option maxHeartbeats 3200000 in
set_option maxRecDepth 10000 in
theorem showN_any (k s : Int) (nl : Bool) (n : Int) (t : ByteArray) (L : List UInt8) (w : World) (hn : In64 n) (HL : Hid (IsDay n L)) (h4 : ¬ k = 4) (hM : MLaid w) (hP : PowLaid w) (hlow : 4 < w.heap.size) :
    Calls Tryz.prog 10 #[.agg #[.int .i64 k, .int .i64 s, .bool nl, .int .i64 n, .string t]] w fun e w' => e = .returned (.string ⟨(showS ⟨k, s, nl, n, t⟩ L).toArray⟩) ∧ Below w.heap.size w w' := by
  have hBa := alloc_below w (.cells #[.int .i64 k, .int .i64 s, .bool nl, .int .i64 n, .string t] 25)
  have hP1 := Lib.hid (hP.below hBa)
  have hM1 := Lib.hid (hM.below hBa hlow)
  have HX : Hid (showS ⟨k, s, nl, n, t⟩ L = showS ⟨k, s, nl, n, t⟩ L) := rfl
  clear hBa hM hP
  cases nl
  · by_cases k1 : k = 1
    · subst k1
      by_cases n0 : n = 0
      · subst n0
        go_enter Tryz.func10, Tryz.ntmps10
        go_wp2
        go_ret
        exact ⟨rfl, alloc_below _ _⟩
      · have H : Hid (showS ⟨1, s, false, n, t⟩ L = [84, 82, 85, 69]) := by show _ = _; simp [showS, n0]
        have e0 : (n == 0) = false := by simpa using n0
        clear n0
        go_enter Tryz.func10, Tryz.ntmps10
        go_wp2
        go_ret
        exact ⟨ret_str H.out.symm, alloc_below _ _⟩
    · have e1 : (k == 1) = false := by simpa using k1
      by_cases k2 : k = 2
      · subst k2
        go_enter Tryz.func10, Tryz.ntmps10
        go_wp2_with (first | (go_at_call 35; refine (formatInt_any n hn _ hP1.out).mono ?_; rintro e w2 ⟨rfl, hb2⟩; have hB := b1 hb2; clear hb2))
        go_ret
        exact ⟨rfl, hB⟩
      · have e2 : (k == 2) = false := by simpa using k2
        by_cases k3 : k = 3
        · subst k3
          go_enter Tryz.func10, Tryz.ntmps10
          go_wp2_with (first | (go_at_call 36; refine (showDec_any _ _ _ _ _ _ hn hP1.out).mono ?_; rintro e w2 ⟨rfl, hb2⟩; have hB := b1 hb2; clear hb2))
          go_ret
          exact ⟨rfl, hB⟩
        · have e3 : (k == 3) = false := by simpa using k3
          by_cases k4 : k = 4
          · exact absurd k4 h4
          · have e4 : (k == 4) = false := by simpa using k4
            by_cases k5 : k = 5
            · subst k5
              go_enter Tryz.func10, Tryz.ntmps10
              go_wp2_with (first | (go_at_call 38; refine (showDay_any n L _ hn HL hM1.out hP1.out).mono ?_; rintro e w2 ⟨rfl, hb2⟩; have hB := b1 hb2; clear hb2))
              go_ret
              exact ⟨rfl, hB⟩
            · have e5 : (k == 5) = false := by simpa using k5
              have H : Hid (showS ⟨k, s, false, n, t⟩ L = [63]) := by show _ = _; simp [showS, k1, k2, k3, k4, k5]
              clear k1 k2 k3 k4 k5
              go_enter Tryz.func10, Tryz.ntmps10
              go_wp2
              go_ret
              exact ⟨ret_str H.out.symm, alloc_below _ _⟩
  · go_enter Tryz.func10, Tryz.ntmps10
    go_wp2
    go_ret
    exact ⟨rfl, alloc_below _ _⟩
set_option maxHeartbeats 3200000 in
set_option maxRecDepth 10000 in
theorem refShowN_any (k s : Int) (nl : Bool) (n : Int) (t : ByteArray) (L : List UInt8) (w : World) (hn : In64 n) (HL : Hid (IsDay n L)) (h4 : ¬ k = 4) :
    Calls Tryz.prog 11 #[.agg #[.int .i64 k, .int .i64 s, .bool nl, .int .i64 n, .string t]] w fun e w' => e = .returned (.string ⟨(showS ⟨k, s, nl, n, t⟩ L).toArray⟩) ∧ Below w.heap.size w w' := by
  cases nl
  · by_cases k1 : k = 1
    · subst k1
      by_cases n0 : n = 0
      · subst n0
        go_enter Tryz.func11, Tryz.ntmps11
        go_wp2_with (first | (go_at_call 39; refine (refFormatInt_any 0 hn _).mono ?_; rintro e w1 ⟨rfl, hb1⟩; have hc1 := (bcell hb1).1; have hB1 := b1 hb1; clear hb1))
        go_ret
        exact ⟨rfl, hB1⟩
      · have H : Hid (showS ⟨1, s, false, n, t⟩ L = [84, 82, 85, 69]) := by show _ = _; simp [showS, n0]
        have e0 : (n == 0) = false := by simpa using n0
        clear n0
        go_enter Tryz.func11, Tryz.ntmps11
        go_wp2_with (first | (go_at_call 39; refine (refFormatInt_any n hn _).mono ?_; rintro e w1 ⟨rfl, hb1⟩; have hc1 := (bcell hb1).1; have hB1 := b1 hb1; clear hb1))
        go_ret
        exact ⟨ret_str H.out.symm, hB1⟩
    · have e1 : (k == 1) = false := by simpa using k1
      by_cases k2 : k = 2
      · subst k2
        go_enter Tryz.func11, Tryz.ntmps11
        go_wp2_with (first | (go_at_call 39; refine (refFormatInt_any n hn _).mono ?_; rintro e w1 ⟨rfl, hb1⟩; have hc1 := (bcell hb1).1; have hB1 := b1 hb1; clear hb1))
        go_ret
        exact ⟨rfl, hB1⟩
      · have e2 : (k == 2) = false := by simpa using k2
        by_cases k3 : k = 3
        · subst k3
          cases hS : isScaleB s
          · have H : Hid (showS ⟨3, s, false, n, t⟩ L = Lib.itoa n) := by show _ = _; simp [showS, decS, hS]
            have HF := Lib.hid (fun W => refFormatDec_no n s W hS)
            clear hS e1 e2
            go_enter Tryz.func11, Tryz.ntmps11
            go_wp2_with (first | (go_at_call 39; refine (refFormatInt_any n hn _).mono ?_; rintro e w1 ⟨rfl, hb1⟩; have hc1 := (bcell hb1).1; have hB1 := b1 hb1; clear hb1) | (go_at_call 40; refine (HF.out _).mono ?_; rintro e w2 ⟨rfl, rfl⟩))
            go_ret
            exact ⟨ret_str H.out.symm, hB1⟩
          · have hs : 0 ≤ s ∧ s ≤ 18 := by simpa [isScaleB] using hS
            obtain ⟨m, rfl⟩ : ∃ m : Nat, s = m := ⟨s.toNat, by omega⟩
            have hm : m ≤ 18 := by omega
            have H : Hid (showS ⟨3, (m : Int), false, n, t⟩ L = decL n m) := by show _ = _; simp [showS, decS, hS]
            clear hS hs e1 e2
            go_enter Tryz.func11, Tryz.ntmps11
            go_wp2_with (first | (go_at_call 39; refine (refFormatInt_any n hn _).mono ?_; rintro e w1 ⟨rfl, hb1⟩; have hc1 := (bcell hb1).1; have hB1 := b1 hb1; clear hb1) | (go_at_call 40; refine (refFormatDec_yes n m hn hm _).mono ?_; rintro e w2 ⟨rfl, hb2⟩; have hB2 := bt hB1 hb2; clear hb2))
            go_ret
            exact ⟨ret_str H.out.symm, hB2⟩
        · have e3 : (k == 3) = false := by simpa using k3
          by_cases k4 : k = 4
          · exact absurd k4 h4
          · have e4 : (k == 4) = false := by simpa using k4
            by_cases k5 : k = 5
            · subst k5
              by_cases h : -719162 ≤ n ∧ n ≤ 2932896
              · have H : Hid (showS ⟨5, s, false, n, t⟩ L = L) := by show _ = _; simp [showS, dayS, h]
                have HF := Lib.hid (fun W => refFormatDay_yes n W h.1 h.2)
                clear h e1 e2 e3 e4
                go_enter Tryz.func11, Tryz.ntmps11
                go_wp2_with (first | (go_at_call 39; refine (refFormatInt_any n hn _).mono ?_; rintro e w1 ⟨rfl, hb1⟩; have hc1 := (bcell hb1).1; have hB1 := b1 hb1; clear hb1) | (go_at_call 41; refine (HF.out _).mono ?_; rintro e w2 ⟨y, m, d, rfl, hv, hd, hb2⟩; have hB2 := bt hB1 hb2; have HT := Lib.hid (HL.out y m d hv hd); clear hv hd hb2))
                go_ret
                exact ⟨ret_str (HT.out.trans H.out.symm), hB2⟩
              · have h' : n < -719162 ∨ 2932896 < n := by omega
                have H : Hid (showS ⟨5, s, false, n, t⟩ L = Lib.itoa n) := by show _ = _; simp only [showS, dayS, if_neg h]; simp
                have HF := Lib.hid (fun W => refFormatDay_no n W h')
                clear h h' e1 e2 e3 e4
                go_enter Tryz.func11, Tryz.ntmps11
                go_wp2_with (first | (go_at_call 39; refine (refFormatInt_any n hn _).mono ?_; rintro e w1 ⟨rfl, hb1⟩; have hc1 := (bcell hb1).1; have hB1 := b1 hb1; clear hb1) | (go_at_call 41; refine (HF.out _).mono ?_; rintro e w2 ⟨rfl, rfl⟩))
                go_ret
                exact ⟨ret_str H.out.symm, hB1⟩
            · have e5 : (k == 5) = false := by simpa using k5
              have H : Hid (showS ⟨k, s, false, n, t⟩ L = [63]) := by show _ = _; simp [showS, k1, k2, k3, k4, k5]
              clear k1 k2 k3 k4 k5
              go_enter Tryz.func11, Tryz.ntmps11
              go_wp2_with (first | (go_at_call 39; refine (refFormatInt_any n hn _).mono ?_; rintro e w1 ⟨rfl, hb1⟩; have hc1 := (bcell hb1).1; have hB1 := b1 hb1; clear hb1))
              go_ret
              exact ⟨ret_str H.out.symm, hB1⟩
  · skip
    go_enter Tryz.func11, Tryz.ntmps11
    go_wp2
    go_ret
    exact ⟨rfl, alloc_below _ _⟩

end

section

open Go.ChangeShapes Go.WideShapes Go.ChangeAt Go.RowKit
open Cal
set_option linter.unusedVariables false

theorem day_textC (n : Int) : ∃ L : List UInt8, IsDay n L := by
  by_cases h : ∃ y m d : Nat, vld y m d ∧ dayNum y m d = n
  · obtain ⟨y, m, d, hv, hn⟩ := h
    refine ⟨dayL y m d, fun y' m' d' hv' hn' => ?_⟩
    obtain ⟨e1, e2, e3⟩ := inj hv' hv (hn'.trans hn.symm)
    rw [Int.ofNat.inj e1, Int.ofNat.inj e2, Int.ofNat.inj e3]
  · exact ⟨[], fun y m d hv hn => absurd ⟨y, m, d, hv, hn⟩ h⟩
theorem five_kinds {tk ts : Int} (hT : typeB tk ts = true) (h4 : ¬ tk = 4) : tk = 1 ∨ tk = 2 ∨ tk = 3 ∨ tk = 5 := by
  have := kind_in hT
  omega
theorem tsz {ts : Int} (hT : typeB 4 ts = true) : ts = 0 := (kind_in hT).2.2.2.1 (by decide)
/-- The ways of a cast's answer. -/
theorem castO_bad {v : VR} {tk ts : Int} {L : List UInt8} (hT : typeB tk ts = false) : castO v tk ts L = (zr, 21) := if_pos hT
theorem castO_no {v : VR} {tk ts : Int} {L : List UInt8} (hT : typeB tk ts = true) (hC : canB v.k tk = false) : castO v tk ts L = (zr, 21) := by
  unfold castO; rw [if_neg (by rw [hT]; decide), if_pos hC]
theorem castO_null {k s n tk ts : Int} {t : ByteArray} {L : List UInt8} (hT : typeB tk ts = true) (hC : canB k tk = true) : castO ⟨k, s, true, n, t⟩ tk ts L = (⟨tk, ts, true, 0, ⟨#[]⟩⟩, 0) := by
  unfold castO; rw [if_neg (by rw [hT]; decide), if_neg (by simp only [hC]; decide), if_pos rfl]
theorem castO_long {k s n ts : Int} {t : ByteArray} {L : List UInt8} (hT : typeB 4 ts = true) (hC : canB k 4 = true) (h : tooLong (txL ⟨k, s, false, n, t⟩ L) = true) : castO ⟨k, s, false, n, t⟩ 4 ts L = (zr, 10) := by
  unfold castO; rw [if_neg (by rw [hT]; decide), if_neg (by simp only [hC]; decide), if_neg (show ¬ false = true by decide), if_pos rfl, if_pos h]
theorem castO_text {k s n ts : Int} {t : ByteArray} {L : List UInt8} (hT : typeB 4 ts = true) (hC : canB k 4 = true) (h : tooLong (txL ⟨k, s, false, n, t⟩ L) = false) : castO ⟨k, s, false, n, t⟩ 4 ts L = (⟨4, ts, false, 0, ⟨(txL ⟨k, s, false, n, t⟩ L).toArray⟩⟩, 0) := by
  unfold castO; rw [if_neg (by rw [hT]; decide), if_neg (by simp only [hC]; decide), if_neg (show ¬ false = true by decide), if_pos rfl, if_neg (by rw [h]; decide)]
theorem castO_num {k s n tk ts : Int} {t : ByteArray} {L : List UInt8} (hT : typeB tk ts = true) (hC : canB k tk = true) (h4 : ¬ tk = 4) (h : cnE ⟨k, s, false, n, t⟩ tk ts = 0) : castO ⟨k, s, false, n, t⟩ tk ts L = (⟨tk, ts, false, cnV ⟨k, s, false, n, t⟩ tk ts, ⟨#[]⟩⟩, 0) := by
  unfold castO; rw [if_neg (by rw [hT]; decide), if_neg (by simp only [hC]; decide), if_neg (show ¬ false = true by decide), if_neg h4, if_pos h]
theorem castO_err {k s n tk ts : Int} {t : ByteArray} {L : List UInt8} (hT : typeB tk ts = true) (hC : canB k tk = true) (h4 : ¬ tk = 4) (h : ¬ cnE ⟨k, s, false, n, t⟩ tk ts = 0) : castO ⟨k, s, false, n, t⟩ tk ts L = (zr, cnE ⟨k, s, false, n, t⟩ tk ts) := by
  unfold castO; rw [if_neg (by rw [hT]; decide), if_neg (by simp only [hC]; decide), if_neg (show ¬ false = true by decide), if_neg h4, if_neg h]

theorem castC_any (k s n tk ts : Int) (nl : Bool) (l L : List UInt8) (w : World) (htk : In64 tk) (hn : In64 n) (HL : Hid (IsDay n L)) (hl : l.length ≤ 140737488355328) (hM : MLaid w) (hP : PowLaid w) (hV : VRange w) :
    Calls Tryz.prog 7 #[.agg #[.int .i64 k, .int .i64 s, .bool nl, .int .i64 n, .string ⟨l.toArray⟩], .agg #[.int .i64 tk, .int .i64 ts]] w fun e w' => e = .returned (outV (castO ⟨k, s, nl, n, ⟨l.toArray⟩⟩ tk ts L)) ∧ Below w.heap.size w w' := by
  cases hT : typeB tk ts
  · rw [castO_bad hT]; exact cast_bad k s n tk ts nl l w htk hT
  · cases hC : canB k tk
    · rw [castO_no hT hC]; exact cast_noway k s n tk ts nl l w htk hT hC
    · cases nl
      · by_cases h4 : tk = 4
        · subst h4
          have HX : ∀ W, Below w.heap.size w W → Calls Tryz.prog 21 #[.agg #[.int .i64 k, .int .i64 s, .bool false, .int .i64 n, .string ⟨l.toArray⟩], .agg #[.int .i64 4, .int .i64 ts]] W fun e w' => e = .returned (if tooLong (txL ⟨k, s, false, n, ⟨l.toArray⟩⟩ L) then .tuple #[.agg #[.int .i64 0, .int .i64 0, .bool false, .int .i64 0, .string ⟨#[]⟩], .int .i64 10] else .tuple #[.agg #[.int .i64 4, .int .i64 ts, .bool false, .int .i64 0, .string ⟨(txL ⟨k, s, false, n, ⟨l.toArray⟩⟩ L).toArray⟩], .int .i64 0]) ∧ Below W.heap.size W w' := by
            intro W hW
            by_cases hk : k = 4
            · subst hk; exact castText_4 l s n ts W
            · have e : txL ⟨k, s, false, n, ⟨l.toArray⟩⟩ L = showS ⟨k, s, false, n, ⟨l.toArray⟩⟩ L := if_neg hk
              rw [e]
              exact castText_k k l _ s n ts W hk (fun W2 hb => showN_any k s false n ⟨l.toArray⟩ L W2 hn HL hk (hM.next (bt hW hb)) (hP.below (bt hW hb)) (pow_low (hM.next (bt hW hb))))
          have H := cast_text k s n ts l w hT hC _ HX
          cases h : tooLong (txL ⟨k, s, false, n, ⟨l.toArray⟩⟩ L)
          · rw [castO_text hT hC h]; rw [h] at H; exact H
          · rw [castO_long hT hC h]; rw [h] at H; exact H
        · have HX : ∀ W, Below w.heap.size w W → _ := fun W hb => castNum_any k l s n tk ts W hC (five_kinds hT h4) hl (hV.next hb) (hM.next hb)
          by_cases h : cnE ⟨k, s, false, n, ⟨l.toArray⟩⟩ tk ts = 0
          · rw [castO_num hT hC h4 h]; exact cast_num k s n tk ts false l w htk hT hC h4 _ _ HX h
          · rw [castO_err hT hC h4 h]; exact cast_err k s n tk ts false l w htk hT hC h4 _ _ HX h
      · rw [castO_null hT hC]; exact cast_null k s n tk ts true l w htk hT hC

theorem rcastC_any (k s n tk ts : Int) (nl : Bool) (l L : List UInt8) (w : World) (hn : In64 n) (HL : Hid (IsDay n L)) (hl : l.length ≤ 140737488355328) :
    Calls Tryz.prog 8 #[.agg #[.int .i64 k, .int .i64 s, .bool nl, .int .i64 n, .string ⟨l.toArray⟩], .agg #[.int .i64 tk, .int .i64 ts]] w fun e w' => e = .returned (outV (castO ⟨k, s, nl, n, ⟨l.toArray⟩⟩ tk ts L)) ∧ Below w.heap.size w w' := by
  cases hT : typeB tk ts
  · rw [castO_bad hT]; exact rcast_bad k s n tk ts nl l w hT
  · cases hC : canB k tk
    · rw [castO_no hT hC]; exact rcast_noway k s n tk ts nl l w hT hC
    · cases nl
      · by_cases h4 : tk = 4
        · subst h4
          have hts := tsz hT
          by_cases hk : k = 4
          · subst hk
            cases h : tooLong (txL ⟨4, s, false, n, ⟨l.toArray⟩⟩ L)
            · rw [castO_text hT hC h, hts]; rw [hts] at hT; exact rcast_t4_ok s n 0 l w hT hC h
            · rw [castO_long hT hC h]; exact rcast_t4_long s n ts l w hT hC h
          · have e : txL ⟨k, s, false, n, ⟨l.toArray⟩⟩ L = showS ⟨k, s, false, n, ⟨l.toArray⟩⟩ L := if_neg hk
            have HS := fun W (_ : Below w.heap.size w W) => refShowN_any k s false n ⟨l.toArray⟩ L W hn HL hk
            cases h : tooLong (txL ⟨k, s, false, n, ⟨l.toArray⟩⟩ L)
            · rw [castO_text hT hC h, hts]; rw [hts] at hT; rw [e] at h ⊢; exact rcast_tk_ok k s n 0 l _ w hT hC hk HS h
            · rw [castO_long hT hC h]; rw [e] at h; exact rcast_tk_long k s n ts l _ w hT hC hk HS h
        · by_cases hk : k = 4
          · subst hk
            have hcE : cnE ⟨4, s, false, n, ⟨l.toArray⟩⟩ tk ts = rdE tk l ts := rfl
            have hcV : cnV ⟨4, s, false, n, ⟨l.toArray⟩⟩ tk ts = rdN tk l ts := rfl
            have key : (rdE tk l ts = 0 ∧ ∀ W, Calls Tryz.prog 27 #[.string ⟨l.toArray⟩, .agg #[.int .i64 tk, .int .i64 ts]] W fun e w' => e = .returned (.tuple #[.agg #[.int .i64 tk, .int .i64 ts, .bool false, .int .i64 (rdN tk l ts), .string ⟨#[]⟩], .int .i64 0]) ∧ Below W.heap.size W w') ∨ (rdE tk l ts = 22 ∧ ∀ W, Calls Tryz.prog 27 #[.string ⟨l.toArray⟩, .agg #[.int .i64 tk, .int .i64 ts]] W fun e w' => e = .returned (.tuple #[.agg #[.int .i64 0, .int .i64 0, .bool false, .int .i64 0, .string ⟨#[]⟩], .int .i64 22]) ∧ Below W.heap.size W w') := by
              rcases five_kinds hT h4 with rfl | rfl | rfl | rfl
              · by_cases h1 : upL l = litT
                · have e1 : bE l = 0 := if_pos h1
                  have e2 : bV l = 1 := if_pos h1
                  refine .inl ⟨if_pos e1, fun W => ?_⟩
                  have e3 : rdN 1 l ts = 1 := (if_pos e1).trans e2
                  rw [e3]; exact read_1_1 l ts h1 hl W
                · by_cases h2 : upL l = litF
                  · have e1 : bE l = 0 := by unfold bE; rw [if_neg h1, if_pos h2]
                    have e2 : bV l = 0 := if_neg h1
                    refine .inl ⟨if_pos e1, fun W => ?_⟩
                    have e3 : rdN 1 l ts = 0 := (if_pos e1).trans e2
                    rw [e3]; exact read_1_0 l ts h2 hl W
                  · have e1 : ¬ bE l = 0 := by unfold bE; rw [if_neg h1, if_neg h2]; decide
                    exact .inr ⟨if_neg e1, fun W => read_1_no l ts h1 h2 hl W⟩
              · by_cases h : pE l = 0
                · refine .inl ⟨if_pos h, fun W => ?_⟩
                  have e3 : rdN 2 l ts = pI l := if_pos h
                  rw [e3]; exact read_2_1 l ts _ _ rfl rfl h hl W
                · exact .inr ⟨if_neg h, fun W => read_2_0 l ts _ _ rfl rfl h hl W⟩
              · by_cases hd : dE l = 0
                · by_cases h : scE (dV l) (dS l) ts = 0
                  · have e1 : dcE l ts = 0 := (if_pos hd).trans h
                    refine .inl ⟨if_pos e1, fun W => ?_⟩
                    have e3 : rdN 3 l ts = scV (dV l) (dS l) ts := (if_pos e1).trans (if_pos hd)
                    rw [e3]; exact read_3_1 l ts hd h hl W
                  · have e1 : ¬ dcE l ts = 0 := fun e => h ((if_pos hd).symm.trans e)
                    exact .inr ⟨if_neg e1, fun W => read_3_0b l ts hd h hl W⟩
                · have e1 : ¬ dcE l ts = 0 := fun e => hd ((if_neg hd).symm.trans e)
                  exact .inr ⟨if_neg e1, fun W => read_3_0a l ts hd hl W⟩
              · by_cases h : tE l = 0
                · refine .inl ⟨if_pos h, fun W => ?_⟩
                  have e3 : rdN 5 l ts = tV l := if_pos h
                  rw [e3]; exact read_5_1 l ts _ _ rfl rfl h hl W
                · exact .inr ⟨if_neg h, fun W => read_5_0 l ts _ _ rfl rfl h hl W⟩
            rcases key with ⟨e0, HR⟩ | ⟨e0, HR⟩
            · rw [castO_num hT hC h4 (hcE.trans e0), hcV]
              exact rcast_read s n tk ts l w hT hC h4 tk ts (rdN tk l ts) 0 (fun W _ => HR W)
            · have hne : ¬ cnE ⟨4, s, false, n, ⟨l.toArray⟩⟩ tk ts = 0 := by rw [hcE, e0]; decide
              rw [castO_err hT hC h4 hne, hcE, e0]
              exact rcast_read s n tk ts l w hT hC h4 0 0 0 22 (fun W _ => HR W)
          · have dec : ∀ (tk' : Int), typeB tk' ts = true → isScaleB ts = true := fun tk' h => by
              have := kind_in h
              simp only [isScaleB, decide_eq_true_eq]
              omega
            by_cases h2 : k = 2
            · subst h2
              rcases five_kinds hT h4 with rfl | rfl | rfl | rfl
              · cases hC
              · have e0 : cnE ⟨2, s, false, n, ⟨l.toArray⟩⟩ 2 ts = 0 := rfl
                rw [castO_num hT hC h4 e0]; exact rcast_same_2 s n ts l w hT
              · have e0 : cnE ⟨2, s, false, n, ⟨l.toArray⟩⟩ 3 ts = reE n 0 ts := rfl
                have e1 : cnV ⟨2, s, false, n, ⟨l.toArray⟩⟩ 3 ts = reV n 0 ts := rfl
                have hz : (scl 2 s : Int) = 0 := rfl
                by_cases h : scE n 0 ts = 0
                · have f0 : reE n 0 ts = 0 := if_pos h
                  have f1 : reV n 0 ts = scV n 0 ts := if_pos h
                  rw [castO_num hT hC h4 (e0.trans f0), e1, f1]
                  exact rcast_2_3_1 s n ts _ _ l w hT (by rw [hz]) (by rw [hz]; exact h) rfl
                · have f0 : reE n 0 ts = 10 := if_neg h
                  have g : scE n 0 ts = 10 := (scE_cases (by decide) (dec _ hT)).resolve_left h
                  have hne : ¬ cnE ⟨2, s, false, n, ⟨l.toArray⟩⟩ 3 ts = 0 := by rw [e0, f0]; decide
                  rw [castO_err hT hC h4 hne, e0, f0]
                  exact rcast_2_3_0 s n ts _ 10 l w hT rfl (by rw [hz]; exact g) (by decide)
              · cases hC
            · by_cases h3 : k = 3
              · subst h3
                have e0 : cnE ⟨3, s, false, n, ⟨l.toArray⟩⟩ tk ts = reE n s ts := by unfold cnE; rw [if_neg (show ¬ (3 : Int) = 4 by decide), if_neg (fun h => absurd h.1 (show ¬ (3 : Int) = 2 by decide)), if_pos rfl]
                have e1 : cnV ⟨3, s, false, n, ⟨l.toArray⟩⟩ tk ts = reV n s ts := by unfold cnV; rw [if_neg (show ¬ (3 : Int) = 4 by decide), if_neg (fun h => absurd h.1 (show ¬ (3 : Int) = 2 by decide)), if_pos rfl]
                have h23 : tk = 2 ∨ tk = 3 := by
                  rcases five_kinds hT h4 with rfl | rfl | rfl | rfl
                  · cases hC
                  · exact .inl rfl
                  · exact .inr rfl
                  · cases hC
                by_cases hs : isScaleB s = true
                · have hs' := scale_in hs
                  have hz : (scl 3 s : Int) = s := by unfold scl; simp; omega
                  by_cases h : scE n s ts = 0
                  · have f0 : reE n s ts = 0 := if_pos h
                    have f1 : reV n s ts = scV n s ts := if_pos h
                    rw [castO_num hT hC h4 (e0.trans f0), e1, f1]
                    rcases h23 with rfl | rfl
                    · exact rcast_3_2_1 s n ts _ _ l w hT (by omega) (by omega) (by rw [hz]) (by rw [hz]; exact h) rfl
                    · exact rcast_3_3_1 s n ts _ _ l w hT (by omega) (by omega) (by rw [hz]) (by rw [hz]; exact h) rfl
                  · have f0 : reE n s ts = 10 := if_neg h
                    have g : scE n s ts = 10 := (scE_cases hs (dec _ hT)).resolve_left h
                    have hne : ¬ cnE ⟨3, s, false, n, ⟨l.toArray⟩⟩ tk ts = 0 := by rw [e0, f0]; decide
                    rw [castO_err hT hC h4 hne, e0, f0]
                    rcases h23 with rfl | rfl
                    · exact rcast_3_2_0 s n ts _ 10 l w hT (by omega) (by omega) rfl (by rw [hz]; exact g) (by decide)
                    · exact rcast_3_3_0 s n ts _ 10 l w hT (by omega) (by omega) rfl (by rw [hz]; exact g) (by decide)
                · have hs2 := scale_out (by simpa using hs)
                  have g : scE n s ts = 1 := by unfold scE; rw [if_neg (by simp [hs])]
                  have f0 : reE n s ts = 10 := if_neg (by rw [g]; decide)
                  have hne : ¬ cnE ⟨3, s, false, n, ⟨l.toArray⟩⟩ tk ts = 0 := by rw [e0, f0]; decide
                  rw [castO_err hT hC h4 hne, e0, f0]
                  rcases h23 with rfl | rfl
                  · rcases hs2 with h | h
                    · exact rcast_bad_2_lo s n ts l w hT h
                    · exact rcast_bad_2_hi s n ts l w hT (by omega) h
                  · rcases hs2 with h | h
                    · exact rcast_bad_3_lo s n ts l w hT h
                    · exact rcast_bad_3_hi s n ts l w hT (by omega) h
              · have e0 : cnE ⟨k, s, false, n, ⟨l.toArray⟩⟩ tk ts = 0 := by unfold cnE; rw [if_neg hk, if_neg (by rintro ⟨h, -⟩; exact h2 h), if_neg h3]
                have e1 : cnV ⟨k, s, false, n, ⟨l.toArray⟩⟩ tk ts = n := by unfold cnV; rw [if_neg hk, if_neg (by rintro ⟨h, -⟩; exact h2 h), if_neg h3]
                rw [castO_num hT hC h4 e0, e1]
                unfold canB at hC
                rw [if_neg hk, if_neg (by omega)] at hC
                by_cases h15 : k = 1 ∨ k = 5
                · rw [if_pos h15] at hC
                  obtain rfl : tk = k := by simp at hC; omega
                  rcases h15 with rfl | rfl
                  · exact rcast_same_1 s n ts l w hT
                  · exact rcast_same_5 s n ts l w hT
                · rw [if_neg h15] at hC; cases hC
      · rw [castO_null hT hC]; exact rcast_null k s n tk ts l w hT hC

end
end Go.Proofs.YtogdkhnakenbcaaGreatDoor
