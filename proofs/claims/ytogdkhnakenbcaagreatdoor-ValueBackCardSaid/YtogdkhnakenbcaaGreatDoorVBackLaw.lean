/-
  ValueBack: a value that may be is, cast to a text and back, itself; a whole number is, cast to a decimal and back, itself; for every value and every number of digits. Condition: the listed variables read as the program's text lays them (the card ties them).
  Casts there and back, of a value that may be.
  Casts there and back: each day's number is a day's; a number with more digits and back.
-/
import Derived.Test.YtogdkhnakenbcaaGreatDoorBack
import Derived.Test.YtogdkhnakenbcaaGreatDoorVCast9
import Derived.Lib.ItoaLen
import Derived.Test.YtogdkhnakenbcaaGreatDoorVEq
import Derived.Test.YtogdkhnakenbcaaGreatDoorVLaid8
namespace Go.Proofs.YtogdkhnakenbcaaGreatDoor
section

open Go.ChangeShapes Go.WideShapes Go.ChangeAt Go.RowKit
open Cal
set_option linter.unusedVariables false

theorem day_next {y m d : Nat} (h : vld y m d) (hn : dayNum y m d < 2932896) : ∃ u v x : Nat, vld u v x ∧ dayNum u v x = dayNum y m d + 1 := by
  obtain ⟨h0, h00, h1, h2, h3, h4⟩ := id h
  by_cases hd : (d : Int) < mlen y m
  · refine ⟨y, m, d + 1, ⟨h0, h00, h1, h2, by omega, by omega⟩, ?_⟩
    unfold dayNum
    omega
  · have hd' : (d : Int) = mlen y m := by omega
    by_cases hm : (m : Int) < 12
    · have hml := mlen_bd y (m + 1)
      refine ⟨y, m + 1, 1, ⟨h0, h00, by omega, by omega, by omega, ?_⟩, ?_⟩
      · rw [show ((m + 1 : Nat) : Int) = (m : Int) + 1 by omega]; omega
      · rw [show ((m + 1 : Nat) : Int) = (m : Int) + 1 by omega]
        unfold dayNum
        rw [cum_succ y m h1 h2]
        omega
    · have hm' : m = 12 := by omega
      subst hm'
      have hl : mlen y 12 = 31 := rfl
      have c12 : cum y (((12 : Nat) : Int) + 1) = cum y ((12 : Nat) : Int) + mlen y ((12 : Nat) : Int) := cum_succ y 12 (by omega) (by omega)
      have c13 := cum_13 y
      have ds := dbf_succ y
      have hx : cum y (((12 : Nat) : Int) + 1) = cum y 13 := rfl
      have hlx : mlen y ((12 : Nat) : Int) = 31 := rfl
      have hy : (y : Int) < 9999 := by
        rcases (show (y : Int) = 9999 ∨ (y : Int) < 9999 by omega) with hh | hh
        · exfalso
          rw [hh] at ds c13 c12 hx hlx hd'
          have e9 : dbf (9999 + 1) = 3652059 := dbf_top
          unfold dayNum at hn
          rw [hh] at hn
          omega
        · exact hh
      have hml := mlen_bd ((y : Int) + 1) 1
      refine ⟨y + 1, 1, 1, ⟨by omega, by omega, by omega, by omega, by omega, ?_⟩, ?_⟩
      · rw [show ((y + 1 : Nat) : Int) = (y : Int) + 1 by omega]
        have : ((1 : Nat) : Int) = 1 := rfl
        rw [this]; omega
      · rw [show ((y + 1 : Nat) : Int) = (y : Int) + 1 by omega]
        unfold dayNum
        have c1 : cum ((y : Int) + 1) ((1 : Nat) : Int) = 0 := rfl
        rw [ds, c1]
        omega
theorem day_exists : ∀ j : Nat, (-719162 + j : Int) ≤ 2932896 → ∃ y m d : Nat, vld y m d ∧ dayNum y m d = -719162 + j
  | 0, _ => ⟨1, 1, 1, by decide, by decide⟩
  | j + 1, h => by
    obtain ⟨y, m, d, hv, hn⟩ := day_exists j (by omega)
    obtain ⟨u, v, x, hv2, hn2⟩ := day_next hv (by omega)
    exact ⟨u, v, x, hv2, by rw [hn2, hn]; omega⟩

theorem scale_same (n s : Int) (hs : isScaleB s = true) (hf : fitsB n = true) : scE n s s = 0 ∧ scV n s s = n := by
  have e : n * p10 (s.toNat - s.toNat) = n := by rw [Nat.sub_self, p10_zero, Int.mul_one]
  unfold scE scV
  rw [hs, hf, e]
  simp only [Bool.and_self, if_true, Int.lt_irrefl, if_false]
  have := up_in hf
  exact ⟨this.2, this.1⟩
theorem rnd_exact (a P : Nat) (hP : 1 ≤ P) : rnd (a * P) P = a := by
  unfold rnd
  rw [Nat.mul_div_cancel a (by omega), Nat.mul_mod_left, if_neg (by omega)]
  omega
/-- A whole number as a decimal, and back. -/
theorem scale_back (n s : Int) (hs : isScaleB s = true) (h : scE n 0 s = 0) : scE (scV n 0 s) s 0 = 0 ∧ scV (scV n 0 s) s 0 = n := by
  have h0 : isScaleB 0 = true := by decide
  have hsb := scale_in hs
  have hlt : ¬ s < 0 := by omega
  have hf : fitsB n = true := by
    cases hf : fitsB n with
    | true => rfl
    | false => unfold scE at h; rw [h0, hs, hf] at h; simp at h
  have hup : upE (n * p10 s.toNat) = 0 := by
    unfold scE at h
    rw [h0, hs, hf] at h
    simpa [hlt] using h
  have hfx : fitsB (n * p10 s.toNat) = true := by
    cases hfx : fitsB (n * p10 s.toNat) with
    | true => rfl
    | false => rw [(up_out hfx).2] at hup; cases hup
  have hx : scV n 0 s = n * p10 s.toNat := by
    unfold scV
    rw [h0, hs, hf]
    simp [hlt, (up_in hfx).1]
  rw [hx]
  by_cases hz : s = 0
  · subst hz
    have e : n * p10 (0 : Int).toNat = n := by
      show n * p10 0 = n
      rw [p10_zero, Int.mul_one]
    rw [e]
    exact scale_same n 0 h0 hf
  · have hpos : (0 : Int) < s := by omega
    have hpb := p10_bd s.toNat (by omega)
    unfold scE scV
    rw [hs, h0, hfx]
    simp only [Bool.and_self, if_true, hpos]
    refine ⟨trivial, ?_⟩
    have e0 : s.toNat - (0 : Int).toNat = s.toNat := by simp
    rw [e0]
    have ea : (n * p10 s.toNat).natAbs = n.natAbs * 10 ^ s.toNat := by
      rw [Int.natAbs_mul]
      rfl
    rw [ea, rnd_exact _ _ (Nat.pow_pos (by decide))]
    have hsg : decide (n * p10 s.toNat < 0) = decide (n < 0) := by
      rw [decide_eq_decide]
      constructor
      · intro h1
        rcases (show n < 0 ∨ 0 ≤ n by omega) with h2 | h2
        · exact h2
        · exact absurd (Int.mul_nonneg h2 (by omega : (0 : Int) ≤ p10 s.toNat)) (by omega)
      · intro h1
        exact Int.mul_neg_of_neg_of_pos h1 (by omega)
    rw [hsg]
    by_cases hn : n < 0
    · rw [decide_eq_true hn]; exact (sv_abs n).1 hn
    · rw [decide_eq_false hn]; exact (sv_abs n).2 hn

end

section

open Go.ChangeShapes Go.WideShapes Go.ChangeAt Go.RowKit
open Cal
set_option linter.unusedVariables false

theorem back_num {k s n : Int} {L : List UInt8} (T : List UInt8) (hT : typeB k s = true) (hk4 : ¬ k = 4) (hC4 : canB k 4 = true) (htx : txL ⟨k, s, false, n, ⟨#[]⟩⟩ L = T) (hlen : T.length ≤ 256) (hE : rdE k T s = 0) (hN : rdN k T s = n) :
    castO ⟨k, s, false, n, ⟨#[]⟩⟩ 4 0 L = (⟨4, 0, false, 0, ⟨T.toArray⟩⟩, 0) ∧ ∀ L', castO ⟨4, 0, false, 0, ⟨T.toArray⟩⟩ k s L' = (⟨k, s, false, n, ⟨#[]⟩⟩, 0) := by
  constructor
  · have hl : tooLong (txL ⟨k, s, false, n, ⟨#[]⟩⟩ L) = false := by rw [htx]; simp [tooLong]; omega
    rw [castO_text (by decide) hC4 hl, htx]
  · intro L'
    have e : cnE ⟨4, 0, false, 0, ⟨T.toArray⟩⟩ k s = 0 := hE
    have e2 : cnV ⟨4, 0, false, 0, ⟨T.toArray⟩⟩ k s = n := hN
    rw [castO_num hT rfl hk4 e, e2]
theorem ptL_le (S : List UInt8) (k : Nat) : (ptL S k).length ≤ S.length + 1 := by
  unfold ptL
  split
  · omega
  · simp; omega
theorem rd0 {k : Int} {l : List UInt8} {s : Int} (h : fE k l s = 0) : rdE k l s = 0 ∧ rdN k l s = fV k l s := ⟨if_pos h, if_pos h⟩

theorem back_pure (k s n : Int) (nl : Bool) (t : ByteArray) (hc : checkE ⟨k, s, nl, n, t⟩ = 0) (hn : In64 n) :
    ∃ (L : List UInt8) (a : Bool) (T : List UInt8), IsDay n L ∧ T.length ≤ 256 ∧ castO ⟨k, s, nl, n, t⟩ 4 0 L = (⟨4, 0, a, 0, ⟨T.toArray⟩⟩, 0) ∧ ∀ L', castO ⟨4, 0, a, 0, ⟨T.toArray⟩⟩ k s L' = (⟨k, s, nl, n, t⟩, 0) := by
  unfold checkE at hc
  simp only at hc
  have hT : typeB k s = true := by cases hb : typeB k s with | true => rfl | false => rw [hb] at hc; simp at hc
  have hH : holdB k nl n t = true := by cases hb : holdB k nl n t with | true => rfl | false => rw [hT, hb] at hc; simp at hc
  clear hc
  have hki := kind_in hT
  have hk5 : k = 1 ∨ k = 2 ∨ k = 3 ∨ k = 4 ∨ k = 5 := by omega
  have hem : ∀ u : ByteArray, emptyB u = true → u = ⟨#[]⟩ := fun u h => by
    unfold emptyB at h
    rw [Go.ByteArray.toList_eq] at h
    exact ByteArray.ext (Array.ext' (by simpa using h))
  obtain ⟨L0, hL0⟩ := day_textC n
  cases nl
  · unfold holdB at hH
    simp only [Bool.false_eq_true, if_false] at hH
    rcases hk5 with rfl | rfl | rfl | rfl | rfl
    · have h0 : s = 0 := hki.2.2.2.1 (by decide)
      subst h0
      have ht : emptyB t = true := by cases he : emptyB t with | true => rfl | false => rw [he] at hH; simp at hH
      obtain rfl := hem t ht
      have hb : n = 0 ∨ n = 1 := by rw [ht] at hH; simpa using hH
      rcases hb with rfl | rfl
      · have h := back_num (n := 0) (L := L0) litF hT (by decide) (by decide) rfl (by decide) (by decide) (by decide)
        exact ⟨L0, false, litF, hL0, by decide, h.1, h.2⟩
      · have h := back_num (n := 1) (L := L0) litT hT (by decide) (by decide) rfl (by decide) (by decide) (by decide)
        exact ⟨L0, false, litT, hL0, by decide, h.1, h.2⟩
    · have ht : emptyB t = true := by cases he : emptyB t with | true => rfl | false => rw [he] at hH; simp at hH
      obtain rfl := hem t ht
      have hr := itoa_read n hn
      have hl := Lib.itoa_length_le n hn.1 hn.2
      have h2 := rd0 (k := 2) (l := Lib.itoa n) (s := s) hr.2
      have h := back_num (L := L0) (Lib.itoa n) hT (by decide) (by decide) rfl (by omega) h2.1 (h2.2.trans hr.1)
      exact ⟨L0, false, _, hL0, by omega, h.1, h.2⟩
    · have ht : emptyB t = true := by cases he : emptyB t with | true => rfl | false => rw [he] at hH; simp at hH
      obtain rfl := hem t ht
      have hf : fitsB n = true := by rw [ht] at hH; simpa using hH
      have hsb : isScaleB s = true := by simp only [isScaleB, decide_eq_true_eq]; omega
      obtain ⟨m, rfl⟩ : ∃ m : Nat, s = m := ⟨s.toNat, by omega⟩
      have hr := dec_read n m hf (by omega)
      have hsc := scale_same n m hsb hf
      have hfi := fits_in hf
      have hpl := padL_len n.natAbs (m + 1) (by omega) (by omega) (by omega)
      have hlen : (decL n m).length ≤ 256 := by
        have := ptL_le (padL n.natAbs (m + 1)) m
        unfold decL
        split
        · simp only [List.length_cons]; omega
        · omega
      have e1 : dcE (decL n m) m = 0 := by
        unfold dcE
        rw [if_pos hr.2.2, hr.1, hr.2.1]
        exact hsc.1
      have e2 : dcV (decL n m) m = n := by
        unfold dcV
        rw [if_pos hr.2.2, hr.1, hr.2.1]
        exact hsc.2
      have h2 := rd0 (k := 3) (l := decL n m) (s := m) e1
      have htx : txL ⟨3, (m : Int), false, n, ⟨#[]⟩⟩ L0 = decL n m := by
        show decS n m = _
        unfold decS
        rw [if_pos hsb]
        rfl
      have h := back_num (L := L0) (decL n m) hT (by decide) (by decide) htx hlen h2.1 (h2.2.trans e2)
      exact ⟨L0, false, _, hL0, hlen, h.1, h.2⟩
    · have h0 : s = 0 := hki.2.2.2.1 (by decide)
      subst h0
      have hb : n = 0 ∧ t.size ≤ 256 := by simpa using hH
      obtain ⟨rfl, hsz⟩ := hb
      obtain ⟨T, rfl⟩ : ∃ T : List UInt8, t = ⟨T.toArray⟩ := ⟨t.data.toList, by cases t; simp⟩
      have hs' : T.length ≤ 256 := hsz
      have hl : ∀ L, tooLong (txL ⟨4, 0, false, 0, ⟨T.toArray⟩⟩ L) = false := fun L => by
        show tooLong T = false
        simp [tooLong]; omega
      have h : ∀ L, castO ⟨4, 0, false, 0, ⟨T.toArray⟩⟩ 4 0 L = (⟨4, 0, false, 0, ⟨T.toArray⟩⟩, 0) := fun L => by
        rw [castO_text (by decide) (by decide) (hl L)]
        rfl
      exact ⟨L0, false, T, hL0, hs', h L0, h⟩
    · have h0 : s = 0 := hki.2.2.2.1 (by decide)
      subst h0
      have ht : emptyB t = true := by cases he : emptyB t with | true => rfl | false => rw [he] at hH; simp at hH
      obtain rfl := hem t ht
      have hd : -719162 ≤ n ∧ n ≤ 2932896 := by rw [ht] at hH; simpa using hH
      obtain ⟨y, m, d, hv, hnum⟩ := day_exists (n + 719162).toNat (by omega)
      have hnum' : dayNum y m d = n := by rw [hnum]; omega
      have hL := hL0 y m d hv hnum'
      have hr := day_read n y m d hv hnum'
      rw [hL] at hr
      have h2 := rd0 (k := 5) (l := L0) (s := 0) hr.2.1
      have htx : txL ⟨5, 0, false, n, ⟨#[]⟩⟩ L0 = L0 := by
        show dayS n L0 = L0
        unfold dayS
        rw [if_pos hd]
      have h := back_num (L := L0) L0 hT (by decide) (by decide) htx (by omega) h2.1 (h2.2.trans hr.1)
      exact ⟨L0, false, _, hL0, by omega, h.1, h.2⟩
  · have hb : n = 0 ∧ emptyB t = true := by
      unfold holdB at hH
      simpa using hH
    obtain ⟨rfl, ht⟩ := hb
    obtain rfl := hem t ht
    have hC4 : canB k 4 = true := by rcases hk5 with rfl | rfl | rfl | rfl | rfl <;> decide
    exact ⟨L0, true, [], hL0, by decide, castO_null (by decide) hC4, fun L' => castO_null hT rfl⟩

/-- A whole number, as a decimal and back. -/
theorem back_int (n c s0 : Int) (nl : Bool) (L : List UInt8) (hc : checkE ⟨2, s0, nl, n, ⟨#[]⟩⟩ = 0) :
    (∃ e, ¬ e = 0 ∧ castO ⟨2, s0, nl, n, ⟨#[]⟩⟩ 3 c L = (zr, e)) ∨ (∃ x, castO ⟨2, s0, nl, n, ⟨#[]⟩⟩ 3 c L = (⟨3, c, nl, x, ⟨#[]⟩⟩, 0) ∧ In64 x ∧ ∀ L', castO ⟨3, c, nl, x, ⟨#[]⟩⟩ 2 s0 L' = (⟨2, s0, nl, n, ⟨#[]⟩⟩, 0)) := by
  unfold checkE at hc
  simp only at hc
  have hT : typeB 2 s0 = true := by cases hb : typeB 2 s0 with | true => rfl | false => rw [hb] at hc; simp at hc
  have hH : holdB 2 nl n ⟨#[]⟩ = true := by cases hb : holdB 2 nl n ⟨#[]⟩ with | true => rfl | false => rw [hT, hb] at hc; simp at hc
  have hs0 : s0 = 0 := (kind_in hT).2.2.2.1 (by decide)
  subst hs0
  cases h3 : typeB 3 c
  · exact .inl ⟨21, by decide, castO_bad h3⟩
  · cases nl
    · have hki := kind_in h3
      have hsb : isScaleB c = true := by simp only [isScaleB, decide_eq_true_eq]; omega
      have e0 : cnE ⟨2, 0, false, n, ⟨#[]⟩⟩ 3 c = reE n 0 c := rfl
      have e1 : cnV ⟨2, 0, false, n, ⟨#[]⟩⟩ 3 c = reV n 0 c := rfl
      by_cases h : scE n 0 c = 0
      · have f0 : reE n 0 c = 0 := if_pos h
        have f1 : reV n 0 c = scV n 0 c := if_pos h
        have hb := scale_back n c hsb h
        refine .inr ⟨scV n 0 c, ?_, ?_, fun L' => ?_⟩
        · rw [castO_num h3 (by decide) (by decide) (e0.trans f0), e1, f1]
        · have hlt : ¬ c < 0 := by omega
          unfold scE at h
          unfold scV
          rw [show isScaleB 0 = true by decide, hsb] at h ⊢
          cases hf : fitsB n with
          | false => rw [hf] at h; simp at h
          | true =>
            rw [hf] at h
            simp only [Bool.and_self, if_true, hlt, if_false] at h ⊢
            cases hfx : fitsB (n * p10 (c.toNat - (0 : Int).toNat)) with
            | true => rw [(up_in hfx).1]; exact fits64 hfx
            | false => rw [(up_out hfx).2] at h; cases h
        · have g0 : cnE ⟨3, c, false, scV n 0 c, ⟨#[]⟩⟩ 2 0 = reE (scV n 0 c) c 0 := rfl
          have g1 : cnV ⟨3, c, false, scV n 0 c, ⟨#[]⟩⟩ 2 0 = reV (scV n 0 c) c 0 := rfl
          have g2 : reE (scV n 0 c) c 0 = 0 := if_pos hb.1
          have g3 : reV (scV n 0 c) c 0 = n := (if_pos hb.1).trans hb.2
          rw [castO_num hT (by decide) (by decide) (g0.trans g2), g1, g3]
      · have f0 : reE n 0 c = 10 := if_neg h
        have hne : ¬ cnE ⟨2, 0, false, n, ⟨#[]⟩⟩ 3 c = 0 := by rw [e0, f0]; decide
        exact .inl ⟨_, hne, castO_err h3 (by decide) (by decide) hne⟩
    · have hb : n = 0 := by unfold holdB at hH; simp at hH; exact hH.1
      subst hb
      exact .inr ⟨0, castO_null h3 (by decide), by unfold In64; omega, fun L' => castO_null hT (by decide)⟩

end

section

open Go.ChangeShapes Go.WideShapes Go.ChangeAt Go.RowKit
set_option linter.unusedVariables false

set_option maxHeartbeats 1600000 in
set_option maxRecDepth 100000 in
theorem back_bad (k s n c ce : Int) (nl : Bool) (l : List UInt8) (w : World) (hce : ¬ ce = 0) (CK : ∀ W, Calls Tryz.prog 16 #[.agg #[.int .i64 k, .int .i64 s, .bool nl, .int .i64 n, .string ⟨l.toArray⟩]] W fun e w' => e = .returned (.int .i64 ce) ∧ Below W.heap.size W w') :
    Calls Tryz.prog 6 #[.agg #[.int .i64 k, .int .i64 s, .bool nl, .int .i64 n, .string ⟨l.toArray⟩], .int .i64 c] w fun e w' => e = .returned (.bool true) ∧ Below w.heap.size w w' := by
  have CK := Lib.hid CK
  go_enter Tryz.func6, Tryz.ntmps6
  go_wp2_with fail
  refine (begun_any _).mono ?_
  rintro e w1 ⟨rfl, hb1⟩
  have hv1 := box_next (box_at w (.cells #[.int .i64 k, .int .i64 s, .bool nl, .int .i64 n, .string ⟨l.toArray⟩] 25)) hb1
  have hw1 := b1 hb1
  clear hb1
  obtain ⟨⟨z0, z1, z2, z3, z4⟩, -⟩ := box_cells5 hv1
  go_wp2_with fail
  refine (CK.out _).mono ?_
  rintro e w2 ⟨rfl, hb2⟩
  have hv2 := box_next hv1 hb2
  have hw2 := bt hw1 hb2
  clear hb2 z0 z1 z2 z3 z4
  obtain ⟨⟨z0, z1, z2, z3, z4⟩, -⟩ := box_cells5 hv2
  go_wp2_with fail
  refine (begun_any _).mono ?_
  rintro e w3 ⟨rfl, hb3⟩
  have hw3 := bt hw2 hb3
  go_wp2
  go_ret
  exact ⟨rfl, hw3⟩

set_option maxHeartbeats 3200000 in
set_option maxRecDepth 100000 in
theorem back_not (k s n c : Int) (nl a : Bool) (l T : List UInt8) (w : World) (hk : ¬ k = 2) (CK : ∀ W, Calls Tryz.prog 16 #[.agg #[.int .i64 k, .int .i64 s, .bool nl, .int .i64 n, .string ⟨l.toArray⟩]] W fun e w' => e = .returned (.int .i64 0) ∧ Below W.heap.size W w')
    (C1 : ∀ W, Below w.heap.size w W → Calls Tryz.prog 7 #[.agg #[.int .i64 k, .int .i64 s, .bool nl, .int .i64 n, .string ⟨l.toArray⟩], .agg #[.int .i64 4, .int .i64 0]] W fun e w' => e = .returned (.tuple #[.agg #[.int .i64 4, .int .i64 0, .bool a, .int .i64 0, .string ⟨T.toArray⟩], .int .i64 0]) ∧ Below W.heap.size W w')
    (C2 : ∀ W, Below w.heap.size w W → Calls Tryz.prog 7 #[.agg #[.int .i64 4, .int .i64 0, .bool a, .int .i64 0, .string ⟨T.toArray⟩], .agg #[.int .i64 k, .int .i64 s]] W fun e w' => e = .returned (.tuple #[.agg #[.int .i64 k, .int .i64 s, .bool nl, .int .i64 n, .string ⟨l.toArray⟩], .int .i64 0]) ∧ Below W.heap.size W w') :
    Calls Tryz.prog 6 #[.agg #[.int .i64 k, .int .i64 s, .bool nl, .int .i64 n, .string ⟨l.toArray⟩], .int .i64 c] w fun e w' => e = .returned (.bool true) ∧ Below w.heap.size w w' := by
  have CK := Lib.hid CK
  have C1 := Lib.hid C1
  have C2 := Lib.hid C2
  have hEq := fun W => eqVV k s nl n ⟨l.toArray⟩ k s nl n ⟨l.toArray⟩ W
  rw [eqVB_self] at hEq
  go_enter Tryz.func6, Tryz.ntmps6
  go_wp2_with fail
  refine (begun_any _).mono ?_
  rintro e w1 ⟨rfl, hb1⟩
  have hv1 := box_next (box_at w (.cells #[.int .i64 k, .int .i64 s, .bool nl, .int .i64 n, .string ⟨l.toArray⟩] 25)) hb1
  have hw1 := b1 hb1
  clear hb1
  obtain ⟨⟨z0, z1, z2, z3, z4⟩, -⟩ := box_cells5 hv1
  go_wp2_with fail
  refine (CK.out _).mono ?_
  rintro e w2 ⟨rfl, hb2⟩
  have hv2 := box_next hv1 hb2
  have hw2 := bt hw1 hb2
  clear hb2 z0 z1 z2 z3 z4
  obtain ⟨⟨z0, z1, z2, z3, z4⟩, -⟩ := box_cells5 hv2
  go_wp2_with fail
  refine (C1.out _ hw2).mono ?_
  rintro e w3 ⟨rfl, hb3⟩
  have hv3 := box_next hv2 hb3
  have hw3 := bt hw2 hb3
  have hsz3 : w.heap.size < w3.heap.size := (Array.getElem?_eq_some_iff.1 hv3).1
  clear hb3 z0 z1 z2 z3 z4 hv1 hv2
  obtain ⟨⟨z0, z1, z2, z3, z4⟩, -⟩ := box_cells5 hv3
  go_wp2_with fail
  refine (C2.out _ (by exact hw3.alloc (Nat.le_of_lt hsz3) _)).mono ?_
  rintro e w4 ⟨rfl, hb4⟩
  have hv4 := box_next (box_next hv3 (alloc_below _ _)) hb4
  have hw4 := bt (hw3.alloc (Nat.le_of_lt hsz3) _) hb4
  have hsz4 : w.heap.size < w4.heap.size := (Array.getElem?_eq_some_iff.1 hv4).1
  clear hb4 z0 z1 z2 z3 z4 hv3
  obtain ⟨⟨z0, z1, z2, z3, z4⟩, -⟩ := box_cells5 hv4
  go_wp2
  go_ret
  exact ⟨rfl, hw4.alloc (Nat.le_of_lt hsz4) _⟩

set_option maxHeartbeats 3200000 in
set_option maxRecDepth 100000 in
theorem back_err (s n c de : Int) (nl a : Bool) (T : List UInt8) (w : World) (hde : ¬ de = 0) (CK : ∀ W, Calls Tryz.prog 16 #[.agg #[.int .i64 2, .int .i64 s, .bool nl, .int .i64 n, .string ⟨#[]⟩]] W fun e w' => e = .returned (.int .i64 0) ∧ Below W.heap.size W w')
    (C1 : ∀ W, Below w.heap.size w W → Calls Tryz.prog 7 #[.agg #[.int .i64 2, .int .i64 s, .bool nl, .int .i64 n, .string ⟨#[]⟩], .agg #[.int .i64 4, .int .i64 0]] W fun e w' => e = .returned (.tuple #[.agg #[.int .i64 4, .int .i64 0, .bool a, .int .i64 0, .string ⟨T.toArray⟩], .int .i64 0]) ∧ Below W.heap.size W w')
    (C2 : ∀ W, Below w.heap.size w W → Calls Tryz.prog 7 #[.agg #[.int .i64 4, .int .i64 0, .bool a, .int .i64 0, .string ⟨T.toArray⟩], .agg #[.int .i64 2, .int .i64 s]] W fun e w' => e = .returned (.tuple #[.agg #[.int .i64 2, .int .i64 s, .bool nl, .int .i64 n, .string ⟨#[]⟩], .int .i64 0]) ∧ Below W.heap.size W w')
    (C3 : ∀ W, Below w.heap.size w W → Calls Tryz.prog 7 #[.agg #[.int .i64 2, .int .i64 s, .bool nl, .int .i64 n, .string ⟨#[]⟩], .agg #[.int .i64 3, .int .i64 c]] W fun e w' => e = .returned (.tuple #[.agg #[.int .i64 0, .int .i64 0, .bool false, .int .i64 0, .string ⟨#[]⟩], .int .i64 de]) ∧ Below W.heap.size W w') :
    Calls Tryz.prog 6 #[.agg #[.int .i64 2, .int .i64 s, .bool nl, .int .i64 n, .string ⟨#[]⟩], .int .i64 c] w fun e w' => e = .returned (.bool true) ∧ Below w.heap.size w w' := by
  have CK := Lib.hid CK
  have C1 := Lib.hid C1
  have C2 := Lib.hid C2
  have C3 := Lib.hid C3
  have hEq := fun W => eqVV 2 s nl n ⟨#[]⟩ 2 s nl n ⟨#[]⟩ W
  rw [eqVB_self] at hEq
  have hEq2 := fun W => eqVV 0 0 false 0 ⟨#[]⟩ 0 0 false 0 ⟨#[]⟩ W
  rw [eqVB_self] at hEq2
  go_enter Tryz.func6, Tryz.ntmps6
  go_wp2_with fail
  refine (begun_any _).mono ?_
  rintro e w1 ⟨rfl, hb1⟩
  have hv1 := box_next (box_at w (.cells #[.int .i64 2, .int .i64 s, .bool nl, .int .i64 n, .string ⟨#[]⟩] 25)) hb1
  have hw1 := b1 hb1
  clear hb1
  obtain ⟨⟨z0, z1, z2, z3, z4⟩, -⟩ := box_cells5 hv1
  go_wp2_with fail
  refine (CK.out _).mono ?_
  rintro e w2 ⟨rfl, hb2⟩
  have hv2 := box_next hv1 hb2
  have hw2 := bt hw1 hb2
  clear hb2 z0 z1 z2 z3 z4
  obtain ⟨⟨z0, z1, z2, z3, z4⟩, -⟩ := box_cells5 hv2
  go_wp2_with fail
  refine (C1.out _ hw2).mono ?_
  rintro e w3 ⟨rfl, hb3⟩
  have hv3 := box_next hv2 hb3
  have hw3 := bt hw2 hb3
  have hsz3 : w.heap.size < w3.heap.size := (Array.getElem?_eq_some_iff.1 hv3).1
  clear hb3 z0 z1 z2 z3 z4 hv1 hv2
  obtain ⟨⟨z0, z1, z2, z3, z4⟩, -⟩ := box_cells5 hv3
  go_wp2_with fail
  refine (C2.out _ (by exact hw3.alloc (Nat.le_of_lt hsz3) _)).mono ?_
  rintro e w4 ⟨rfl, hb4⟩
  have hv4 := box_next (box_next hv3 (alloc_below _ _)) hb4
  have hw4 := bt (hw3.alloc (Nat.le_of_lt hsz3) _) hb4
  have hsz4 : w.heap.size < w4.heap.size := (Array.getElem?_eq_some_iff.1 hv4).1
  clear hb4 z0 z1 z2 z3 z4 hv3
  obtain ⟨⟨z0, z1, z2, z3, z4⟩, -⟩ := box_cells5 hv4
  go_wp2_with fail
  refine (C3.out _ (by exact hw4.alloc (Nat.le_of_lt hsz4) _)).mono ?_
  rintro e w5 ⟨rfl, hb5⟩
  have hv5 := box_next (box_next hv4 (alloc_below _ _)) hb5
  have hx5 := box_next (box_at w4 _) hb5
  have hw5 := bt (hw4.alloc (Nat.le_of_lt hsz4) _) hb5
  have hsz5 : w.heap.size < w5.heap.size := (Array.getElem?_eq_some_iff.1 hv5).1
  have hsz45 : w4.heap.size < w5.heap.size := (Array.getElem?_eq_some_iff.1 hx5).1
  clear hb5 z0 z1 z2 z3 z4 hv4
  obtain ⟨⟨z0, z1, z2, z3, z4⟩, -⟩ := box_cells5 hv5
  go_wp2
  go_ret
  exact ⟨rfl, by first | exact hw5.alloc (Nat.le_of_lt hsz5) _ | exact (hw5.alloc (Nat.le_of_lt hsz5) _).alloc (by simp; omega) _⟩

set_option maxHeartbeats 3200000 in
set_option maxRecDepth 100000 in
theorem back_ok (s n c x : Int) (nl a : Bool) (T : List UInt8) (w : World) (CK : ∀ W, Calls Tryz.prog 16 #[.agg #[.int .i64 2, .int .i64 s, .bool nl, .int .i64 n, .string ⟨#[]⟩]] W fun e w' => e = .returned (.int .i64 0) ∧ Below W.heap.size W w')
    (C1 : ∀ W, Below w.heap.size w W → Calls Tryz.prog 7 #[.agg #[.int .i64 2, .int .i64 s, .bool nl, .int .i64 n, .string ⟨#[]⟩], .agg #[.int .i64 4, .int .i64 0]] W fun e w' => e = .returned (.tuple #[.agg #[.int .i64 4, .int .i64 0, .bool a, .int .i64 0, .string ⟨T.toArray⟩], .int .i64 0]) ∧ Below W.heap.size W w')
    (C2 : ∀ W, Below w.heap.size w W → Calls Tryz.prog 7 #[.agg #[.int .i64 4, .int .i64 0, .bool a, .int .i64 0, .string ⟨T.toArray⟩], .agg #[.int .i64 2, .int .i64 s]] W fun e w' => e = .returned (.tuple #[.agg #[.int .i64 2, .int .i64 s, .bool nl, .int .i64 n, .string ⟨#[]⟩], .int .i64 0]) ∧ Below W.heap.size W w')
    (C3 : ∀ W, Below w.heap.size w W → Calls Tryz.prog 7 #[.agg #[.int .i64 2, .int .i64 s, .bool nl, .int .i64 n, .string ⟨#[]⟩], .agg #[.int .i64 3, .int .i64 c]] W fun e w' => e = .returned (.tuple #[.agg #[.int .i64 3, .int .i64 c, .bool nl, .int .i64 x, .string ⟨#[]⟩], .int .i64 0]) ∧ Below W.heap.size W w')
    (C4 : ∀ W, Below w.heap.size w W → Calls Tryz.prog 7 #[.agg #[.int .i64 3, .int .i64 c, .bool nl, .int .i64 x, .string ⟨#[]⟩], .agg #[.int .i64 2, .int .i64 s]] W fun e w' => e = .returned (.tuple #[.agg #[.int .i64 2, .int .i64 s, .bool nl, .int .i64 n, .string ⟨#[]⟩], .int .i64 0]) ∧ Below W.heap.size W w') :
    Calls Tryz.prog 6 #[.agg #[.int .i64 2, .int .i64 s, .bool nl, .int .i64 n, .string ⟨#[]⟩], .int .i64 c] w fun e w' => e = .returned (.bool true) ∧ Below w.heap.size w w' := by
  have CK := Lib.hid CK
  have C1 := Lib.hid C1
  have C2 := Lib.hid C2
  have C3 := Lib.hid C3
  have C4 := Lib.hid C4
  have hEq := fun W => eqVV 2 s nl n ⟨#[]⟩ 2 s nl n ⟨#[]⟩ W
  rw [eqVB_self] at hEq
  go_enter Tryz.func6, Tryz.ntmps6
  go_wp2_with fail
  refine (begun_any _).mono ?_
  rintro e w1 ⟨rfl, hb1⟩
  have hv1 := box_next (box_at w (.cells #[.int .i64 2, .int .i64 s, .bool nl, .int .i64 n, .string ⟨#[]⟩] 25)) hb1
  have hw1 := b1 hb1
  clear hb1
  obtain ⟨⟨z0, z1, z2, z3, z4⟩, -⟩ := box_cells5 hv1
  go_wp2_with fail
  refine (CK.out _).mono ?_
  rintro e w2 ⟨rfl, hb2⟩
  have hv2 := box_next hv1 hb2
  have hw2 := bt hw1 hb2
  clear hb2 z0 z1 z2 z3 z4
  obtain ⟨⟨z0, z1, z2, z3, z4⟩, -⟩ := box_cells5 hv2
  go_wp2_with fail
  refine (C1.out _ hw2).mono ?_
  rintro e w3 ⟨rfl, hb3⟩
  have hv3 := box_next hv2 hb3
  have hw3 := bt hw2 hb3
  have hsz3 : w.heap.size < w3.heap.size := (Array.getElem?_eq_some_iff.1 hv3).1
  clear hb3 z0 z1 z2 z3 z4 hv1 hv2
  obtain ⟨⟨z0, z1, z2, z3, z4⟩, -⟩ := box_cells5 hv3
  go_wp2_with fail
  refine (C2.out _ (by exact hw3.alloc (Nat.le_of_lt hsz3) _)).mono ?_
  rintro e w4 ⟨rfl, hb4⟩
  have hv4 := box_next (box_next hv3 (alloc_below _ _)) hb4
  have hw4 := bt (hw3.alloc (Nat.le_of_lt hsz3) _) hb4
  have hsz4 : w.heap.size < w4.heap.size := (Array.getElem?_eq_some_iff.1 hv4).1
  clear hb4 z0 z1 z2 z3 z4 hv3
  obtain ⟨⟨z0, z1, z2, z3, z4⟩, -⟩ := box_cells5 hv4
  go_wp2_with fail
  refine (C3.out _ (by exact hw4.alloc (Nat.le_of_lt hsz4) _)).mono ?_
  rintro e w5 ⟨rfl, hb5⟩
  have hv5 := box_next (box_next hv4 (alloc_below _ _)) hb5
  have hx5 := box_next (box_at w4 _) hb5
  have hw5 := bt (hw4.alloc (Nat.le_of_lt hsz4) _) hb5
  have hsz5 : w.heap.size < w5.heap.size := (Array.getElem?_eq_some_iff.1 hv5).1
  have hsz45 : w4.heap.size < w5.heap.size := (Array.getElem?_eq_some_iff.1 hx5).1
  clear hb5 z0 z1 z2 z3 z4 hv4
  obtain ⟨⟨z0, z1, z2, z3, z4⟩, -⟩ := box_cells5 hv5
  go_wp2_with fail
  refine (C4.out _ (by exact hw5.alloc (Nat.le_of_lt hsz5) _)).mono ?_
  rintro e w6 ⟨rfl, hb6⟩
  have hv6 := box_next (box_next hv5 (alloc_below _ _)) hb6
  have hx6 := box_next (box_next hx5 (alloc_below _ _)) hb6
  have hw6 := bt (hw5.alloc (Nat.le_of_lt hsz5) _) hb6
  clear hb6 z0 z1 z2 z3 z4 hv5 hx5
  obtain ⟨⟨z0, z1, z2, z3, z4⟩, -⟩ := box_cells5 hv6
  obtain ⟨⟨q0, q1, q2, q3, q4⟩, hf⟩ := box_cells5 hx6
  have hne : ¬ w4.heap.size = w.heap.size := by omega
  have hne2 : ¬ w.heap.size = w4.heap.size := by omega
  go_wp2
  go_ret
  exact ⟨rfl, ((((hw6.setCell (Nat.le_of_lt hsz4) _).setCell (Nat.le_of_lt hsz4) _).setCell (Nat.le_of_lt hsz4) _).setCell (Nat.le_of_lt hsz4) _).setCell (Nat.le_of_lt hsz4) _⟩

theorem int_empty {s n : Int} {nl : Bool} {t : ByteArray} (hc : checkE ⟨2, s, nl, n, t⟩ = 0) : t = ⟨#[]⟩ := by
  unfold checkE at hc
  simp only at hc
  have hT : typeB 2 s = true := by cases hb : typeB 2 s with | true => rfl | false => rw [hb] at hc; simp at hc
  have hH : holdB 2 nl n t = true := by cases hb : holdB 2 nl n t with | true => rfl | false => rw [hT, hb] at hc; simp at hc
  have he : emptyB t = true := by
    unfold holdB at hH
    cases nl
    · cases he : emptyB t with
      | true => rfl
      | false => rw [he] at hH; simp at hH
    · simp at hH; exact hH.2
  unfold emptyB at he
  rw [Go.ByteArray.toList_eq] at he
  exact ByteArray.ext (Array.ext' (by simpa using he))

theorem valueBack_walk (k s n c : Int) (nl : Bool) (l : List UInt8) (w : World) (hk : In64 k) (hn : In64 n) (hl : l.length ≤ 140737488355328) (hM : MLaid w) (hP : PowLaid w) (hV : VRange w) :
    Calls Tryz.prog 6 #[.agg #[.int .i64 k, .int .i64 s, .bool nl, .int .i64 n, .string ⟨l.toArray⟩], .int .i64 c] w fun e w' => e = .returned (.bool true) ∧ Below w.heap.size w w' := by
  by_cases hc : checkE ⟨k, s, nl, n, ⟨l.toArray⟩⟩ = 0
  · obtain ⟨L, a, T, hL, hT, e1, e2⟩ := back_pure k s n nl _ hc hn
    obtain ⟨L0, hL0⟩ := day_textC 0
    have CK : ∀ W, Calls Tryz.prog 16 #[.agg #[.int .i64 k, .int .i64 s, .bool nl, .int .i64 n, .string ⟨l.toArray⟩]] W fun e w' => e = .returned (.int .i64 0) ∧ Below W.heap.size W w' := fun W => by
      have h := check_any k s nl n ⟨l.toArray⟩ W hk
      rw [hc] at h
      exact h
    have C1 : ∀ W, Below w.heap.size w W → Calls Tryz.prog 7 #[.agg #[.int .i64 k, .int .i64 s, .bool nl, .int .i64 n, .string ⟨l.toArray⟩], .agg #[.int .i64 4, .int .i64 0]] W fun e w' => e = .returned (.tuple #[.agg #[.int .i64 4, .int .i64 0, .bool a, .int .i64 0, .string ⟨T.toArray⟩], .int .i64 0]) ∧ Below W.heap.size W w' := fun W h => by
      have h1 := castC_any k s n 4 0 nl l L W (by unfold In64; omega) hn (Lib.hid hL) hl (hM.next h) (hP.below h) (hV.next h)
      rw [e1] at h1
      exact h1
    have C2 : ∀ W, Below w.heap.size w W → Calls Tryz.prog 7 #[.agg #[.int .i64 4, .int .i64 0, .bool a, .int .i64 0, .string ⟨T.toArray⟩], .agg #[.int .i64 k, .int .i64 s]] W fun e w' => e = .returned (.tuple #[.agg #[.int .i64 k, .int .i64 s, .bool nl, .int .i64 n, .string ⟨l.toArray⟩], .int .i64 0]) ∧ Below W.heap.size W w' := fun W h => by
      have h1 := castC_any 4 0 0 k s a T L0 W hk (by unfold In64; omega) (Lib.hid hL0) (by omega) (hM.next h) (hP.below h) (hV.next h)
      rw [e2 L0] at h1
      exact h1
    by_cases h2 : k = 2
    · subst h2
      have ht := int_empty hc
      obtain rfl : l = [] := by
        have := congrArg (fun t : ByteArray => t.data.toList) ht
        simpa using this
      rcases back_int n c s nl L hc with ⟨e, he, e3⟩ | ⟨x, e3, hx, e4⟩
      · refine back_err s n c e nl a T w he CK C1 C2 (fun W h => ?_)
        have h1 := castC_any 2 s n 3 c nl [] L W (by unfold In64; omega) hn (Lib.hid hL) hl (hM.next h) (hP.below h) (hV.next h)
        have h3 : castO ⟨2, s, nl, n, ⟨([] : List UInt8).toArray⟩⟩ 3 c L = (zr, e) := e3
        rw [h3] at h1
        exact h1
      · obtain ⟨L1, hL1⟩ := day_textC x
        refine back_ok s n c x nl a T w CK C1 C2 (fun W h => ?_) (fun W h => ?_)
        · have h1 := castC_any 2 s n 3 c nl [] L W (by unfold In64; omega) hn (Lib.hid hL) hl (hM.next h) (hP.below h) (hV.next h)
          have h3 : castO ⟨2, s, nl, n, ⟨([] : List UInt8).toArray⟩⟩ 3 c L = (⟨3, c, nl, x, ⟨#[]⟩⟩, 0) := e3
          rw [h3] at h1
          exact h1
        · have h1 := castC_any 3 c x 2 s nl [] L1 W (by unfold In64; omega) hx (Lib.hid hL1) (by simp) (hM.next h) (hP.below h) (hV.next h)
          have h3 : castO ⟨3, c, nl, x, ⟨([] : List UInt8).toArray⟩⟩ 2 s L1 = (⟨2, s, nl, n, ⟨#[]⟩⟩, 0) := e4 L1
          rw [h3] at h1
          exact h1
    · exact back_not k s n c nl a l T w h2 CK C1 C2
  · refine back_bad k s n c _ nl l w hc (fun W => check_any k s nl n ⟨l.toArray⟩ W hk)

set_option maxRecDepth 100000 in
theorem valueBack_lifted (os : Os) (started : os.Started) (H : Type) (enc : TypeId × Value → H) :
    ReturnsInHanded {} Tryz.checked os 6 .any (fun w args => (Rows.valueBackSpec.pre enc Tryz.prog Tryz.f6 [] false w args ∧ laidMetH Tryz.prog laid8 w) ∧ sizedMet enc Tryz.prog Tryz.f6 (OpenSpec.ofChange Rows.valueBackSpec) false w args)
      (Rows.valueBackSpec.post enc Tryz.prog Tryz.f6 false true false false) := by
  refine returnsInHanded_of_change_and (C := Tryz.checked) (X := fun w _ => laidMetH Tryz.prog laid8 w) (fun _ _ _ hh h => h.of_heap hh) own started (by kernel_rfl) Tryz.func6
    (ChangeSpec.witness_shaped (enc := enc) (C := Tryz.checked) (os := os) (X := fun w _ => laidMetH Tryz.prog laid8 w) false (World.laidAll Tryz.prog os laid8) #[.agg #[.int .i64 0, .int .i64 0, .bool false, .int .i64 0, .string ⟨#[]⟩], .int .i64 0] 8 (World.laidAll_os _ _ _) (World.shaped_of_ZipB (by kernel_rfl) (by kernel_rfl)) (by kernel_rfl) (by kernel_rfl) (by kernel_rfl)
      (by rw [MakeChecks.laidMetH_plain _ _ _ (by kernel_rfl)]; exact laidMet_laidAll _ (by kernel_rfl) (by kernel_rfl))) ?_
  intro W base args ds gs before hval0 hW _ hsz hL _
  have hval : ∀ (j : Nat) t v, Tryz.f6.params[j]? = some t → args[j]? = some v → Value.okWide Tryz.prog W .any base t v := hval0
  have hW' := hW
  obtain ⟨p, q, hA0, hV, rfl, hfz, hnd⟩ := hW
  have hA : DataW.TrodAll enc Tryz.prog W 0 (fun _ => true) true Tryz.f6.params.toList args.toList ds p := hA0
  rw [Tryz.params6] at hA hval
  obtain ⟨v0, vs0, d0, ds0, p0, q0, hargs, rfl, rfl, h0, r0⟩ := trodAll_cons hA
  obtain ⟨v1, vs1, d1, ds1, p1, q1, rfl, rfl, rfl, h1, r1⟩ := trodAll_cons r0
  obtain ⟨rfl, rfl, rfl⟩ := trodAll_nil r1
  obtain rfl : args = #[v0, v1] := by cases args; simp_all
  obtain ⟨rfl, rfl⟩ := trodVars_none hV
  simp only [List.append_nil] at hW'
  have hlt0 : ∀ x ∈ p0, x.block < W.heap.size := fun x hx => hW'.lt x (by simp [hx])
  have hlt1 : ∀ x ∈ p1, x.block < W.heap.size := fun x hx => hW'.lt x (by simp [hx])
  obtain ⟨v, rfl, ok0⟩ := open_val (hval 0 25 v0 rfl rfl) h0
  obtain ⟨c, rfl, -, -, w1⟩ := open_int Tryz.underlying3 (hval 1 3 v1 rfl rfl) h1
  clear hA0 hval0
  obtain ⟨hM, hP, hV8⟩ := of_laid8 hL
  have hwt := val_weight h0
  obtain ⟨k, s, nl, n, t⟩ := v
  have hl1 : t.size ≤ reachBytes := by
    have h3 := List.all_eq_true.1 hsz _ (DataW.weights_mem_each (j := 0) (t := 25) rfl rfl _ hwt)
    simpa using h3
  obtain ⟨l, rfl⟩ : ∃ l : List UInt8, t = ⟨l.toArray⟩ := ⟨t.data.toList, by cases t; simp⟩
  have hl : l.length ≤ 140737488355328 := by
    have h4 : l.length ≤ reachBytes := hl1
    have := reachBytes_lt
    omega
  refine (valueBack_walk k s n c nl l W ok0.k ok0.n hl hM hP hV8).mono fun e W' ⟨he, hg⟩ => ?_
  subst he
  exact ⟨_, rfl, post_of_below (pa := p0 ++ (p1 ++ [])) (pv := []) hW' (fun _ _ _ => (trodAll_cons_mk (shut_bool Tryz.underlying4 _) trodAll_mk0)) (fun sp hsp => (trodAll_cons_mk (WideElems.Trod_stays laidOut (by kernel_rfl) (of_decide_eq_true (by kernel_rfl)) h0 (fun x hx => hg.same (hlt0 x hx)) (fun x hx => hsp x (by simp [hx]))) (trodAll_cons_mk (WideElems.Trod_stays laidOut (by kernel_rfl) (of_decide_eq_true (by kernel_rfl)) h1 (fun x hx => hg.same (hlt1 x hx)) (fun x hx => hsp x (by simp [hx]))) trodAll_mk0))) (fun _ _ => rfl) (by simp) hg (ok_one (by kernel_rfl) rfl (okWide_bool_mk Tryz.underlying4 _))⟩

theorem valueBack_holds : Rows.ValueBackSaid :=
  OpenClaim.holds_of_wide 6 Tryz.f6 rfl rfl rfl rfl rfl rfl rfl ⟨rfl, rfl, rfl, rfl, rfl⟩ rfl rfl rfl rfl rfl (by kernel_rfl) Tryz.func6 (by kernel_rfl)
    (of_decide_eq_true (by kernel_rfl)) (by unfold Func.isWrapper; first | (rw [if_pos (by decide +kernel)]; kernel_rfl) | (rw [if_neg (by decide +kernel)]; exact ⟨rfl, rfl⟩))
    (fun os started H enc _ => valueBack_lifted os started H enc)

theorem valueBack_card : Rows.ValueBackCardSaid :=
  Claim7.holds_tied_plain_at .later [] [.data, .data, .data, .data, .sentinel, .sentinel, .data, .pinned] true Rows.valueBackCard.stood.harness true
    valueBack_holds (fun _ h => by cases h) (by kernel_rfl) (fun _ h => by cases h) valueBack_row_tie rfl ⟨rfl, rfl⟩ (by kernel_rfl) rfl
    (fun f fn hf hfn => by
      obtain rfl : f = 6 := Option.some.inj ((show Tryz.prog.funcNamed "colonnade/colonnadelaw02.ValueBack" = some 6 by kernel_rfl).symm.trans hf) |>.symm
      obtain rfl : fn = Tryz.f6 := (Option.some.inj (Tryz.func6.symm.trans hfn)).symm
      exact ⟨by kernel_rfl, fun j t ht => by
        rw [Tryz.params6] at ht
        have hm : t ∈ [25, 3] := by simpa using Array.mem_of_getElem? ht
        have hall : ([25, 3].all fun u => !Tryz.prog.wantsStandIn u) = true := by kernel_rfl
        exact (show Tryz.prog.wantsStandIn t = false by simpa using List.all_eq_true.1 hall t hm)⟩)
    (by kernel_rfl)

end
end Go.Proofs.YtogdkhnakenbcaaGreatDoor
