/-
  Contracts of the written whole numbers and days: FormatInt, FormatDay, and the document's FormatInt, FormatDec, FormatDay.
-/
import Derived.Test.YtogdkhnakenbcaaGreatDoorPlain
import Derived.Test.YtogdkhnakenbcaaGreatDoorDay
namespace Go.Proofs.YtogdkhnakenbcaaGreatDoor
open Go.ChangeShapes Go.WideShapes Go.ChangeAt Go.RowKit Go.Sort
open Cal
set_option linter.unusedVariables false

theorem formatInt_any (n : Int) (h : In64 n) (w : World) (htab : PowLaid w) :
    Calls Tryz.prog 35 #[.int .i64 n] w fun e w' => e = .returned (.string ⟨(Lib.itoa n).toArray⟩) ∧ Below w.heap.size w w' := by
  have H : Calls Tryz.prog 63 #[.int .i64 n, .int .i64 10] w fun e w' => e = .returned (.string ⟨(Lib.itoa n).toArray⟩) ∧ Below w.heap.size w w' :=
    (Tryz.strconv_FormatInt_10 n h.1 h.2 w htab).mono fun e w' ⟨he, k, os, hw⟩ => ⟨he, by rw [hw]; exact Lib.below_grow w.heap.size w (Nat.le_refl _) k os⟩
  have HH := Lib.hid H
  clear H
  go_enter Tryz.func35, Tryz.ntmps35
  go_wp2_with (go_at_call 63; refine HH.out.mono ?_; rintro e w' ⟨rfl, hb⟩)
  go_ret
  exact ⟨rfl, hb⟩

theorem padL_one (u : Nat) (hu : u < 18446744073709551616) : padL u 1 = Lib.decDigits u := by
  have := digits_len u hu
  unfold padL
  rw [show 1 - (Lib.decDigits u).length = 0 by omega]; rfl
theorem ret_bytes {a b : ByteArray} (h : a = b) : Ending.returned (.string a) = .returned (.string b) := by rw [h]

set_option maxHeartbeats 800000 in
theorem refFormatInt_any (n : Int) (h : In64 n) (w : World) :
    Calls Tryz.prog 39 #[.int .i64 n] w fun e w' => e = .returned (.string ⟨(Lib.itoa n).toArray⟩) ∧ Below w.heap.size w w' := by
  have hu : n.natAbs < 18446744073709551616 := by unfold In64 at h; omega
  have hl := digits_len n.natAbs hu
  have H1 := Lib.hid (padL_one n.natAbs hu)
  by_cases hneg : n < 0
  · have HR : Hid (Lib.itoa n = 45 :: Lib.decDigits n.natAbs) := by show _ = _; rw [Lib.itoa, if_pos hneg]
    go_enter Tryz.func39, Tryz.ntmps39
    go_wp2_with (first | (go_at_call 55; refine (amount_any _ _ h).mono ?_; rintro e w' ⟨rfl, rfl⟩) | (go_at_call 67; refine (plain_any _ 1 hu (by omega) (by omega) _).mono ?_; rw [H1.out]; rintro e w' ⟨rfl, hb⟩))
    go_ret
    exact ⟨ret_bytes (by rw [dec_neg, HR.out]), hb⟩
  · have HR : Hid (Lib.itoa n = Lib.decDigits n.natAbs) := by show _ = _; rw [Lib.itoa, if_neg hneg]; congr 1; omega
    go_enter Tryz.func39, Tryz.ntmps39
    go_wp2_with (first | (go_at_call 55; refine (amount_any _ _ h).mono ?_; rintro e w' ⟨rfl, rfl⟩) | (go_at_call 67; refine (plain_any _ 1 hu (by omega) (by omega) _).mono ?_; rw [H1.out]; rintro e w' ⟨rfl, hb⟩))
    go_ret
    exact ⟨ret_bytes (by rw [HR.out]), hb⟩

theorem refFormatDec_no (v k : Int) (w : World) (h : isScaleB k = false) :
    Calls Tryz.prog 40 #[.int .i64 v, .int .i64 k] w fun e w' => e = .returned (.tuple #[.string ⟨#[]⟩, .int .i64 1]) ∧ w = w' := by
  have h' : k < 0 ∨ 18 < k := by simp [isScaleB] at h; omega
  clear h
  rcases h' with h' | h'
  all_goals
    go_enter Tryz.func40, Tryz.ntmps40
    go_wp2
    go_ret2
    exact ⟨rfl, rfl⟩
set_option maxHeartbeats 1600000 in
theorem refFormatDec_yes (v : Int) (k : Nat) (hv : In64 v) (hk : k ≤ 18) (w : World) :
    Calls Tryz.prog 40 #[.int .i64 v, .int .i64 k] w fun e w' => e = .returned (.tuple #[.string ⟨(decL v k).toArray⟩, .int .i64 0]) ∧ Below w.heap.size w w' := by
  have hkI : (k : Int) ≤ 18 := by omega
  have hu : v.natAbs < 18446744073709551616 := by unfold In64 at hv; omega
  have hL := padL_len v.natAbs (k + 1) hu (by omega) (by omega)
  obtain ⟨S, eS⟩ : ∃ S, S = padL v.natAbs (k + 1) := ⟨_, rfl⟩
  have HS := Lib.hid eS
  rw [← eS] at hL
  clear eS
  have HK : Hid ((k : Int) + 1 = ((k + 1 : Nat) : Int)) := by show _ = _; omega
  by_cases h0 : k = 0
  · subst h0
    by_cases hneg : v < 0
    · have HR : Hid (decL v 0 = 45 :: S) := by show _ = _; rw [decL, if_pos hneg, ptL, if_pos rfl, ← HS.out]
      go_enter Tryz.func40, Tryz.ntmps40
      go_wp2_with (first | (go_at_call 55; refine (amount_any _ _ hv).mono ?_; rintro e w' ⟨rfl, rfl⟩) | (go_at_call 67; refine (plain_any _ (0 + 1) hu (by omega) (by omega) _).mono ?_; rw [← HS.out]; rintro e w' ⟨rfl, hb⟩))
      go_ret2
      exact ⟨ret_bytesE (by rw [dec_neg, HR.out]), hb⟩
    · have HR : Hid (decL v 0 = S) := by show _ = _; rw [decL, if_neg hneg, ptL, if_pos rfl, ← HS.out]
      go_enter Tryz.func40, Tryz.ntmps40
      go_wp2_with (first | (go_at_call 55; refine (amount_any _ _ hv).mono ?_; rintro e w' ⟨rfl, rfl⟩) | (go_at_call 67; refine (plain_any _ (0 + 1) hu (by omega) (by omega) _).mono ?_; rw [← HS.out]; rintro e w' ⟨rfl, hb⟩))
      go_ret2
      exact ⟨ret_bytesE (by rw [HR.out]), hb⟩
  · have hk0 : (0 : Int) < (k : Int) := by omega
    by_cases hneg : v < 0
    · have HR : Hid (decL v k = 45 :: (S.take (S.length - k) ++ [46] ++ S.drop (S.length - k))) := by show _ = _; rw [decL, if_pos hneg, ptL, if_neg h0, ← HS.out]
      clear h0
      go_enter Tryz.func40, Tryz.ntmps40
      go_wp2_with (first | (go_at_call 55; refine (amount_any _ _ hv).mono ?_; rintro e w' ⟨rfl, rfl⟩) | (go_at_call 67; rw [HK.out]; refine (plain_any _ _ hu (by omega) (by omega) _).mono ?_; rw [← HS.out]; rintro e w' ⟨rfl, hb⟩))
      go_quiet (fail)
      go_wp2
      go_ret2
      exact ⟨ret_bytesE (by rw [dec_mid, dec_neg, HR.out]), below_drewN hb _⟩
    · have HR : Hid (decL v k = S.take (S.length - k) ++ [46] ++ S.drop (S.length - k)) := by show _ = _; rw [decL, if_neg hneg, ptL, if_neg h0, ← HS.out]
      clear h0
      go_enter Tryz.func40, Tryz.ntmps40
      go_wp2_with (first | (go_at_call 55; refine (amount_any _ _ hv).mono ?_; rintro e w' ⟨rfl, rfl⟩) | (go_at_call 67; rw [HK.out]; refine (plain_any _ _ hu (by omega) (by omega) _).mono ?_; rw [← HS.out]; rintro e w' ⟨rfl, hb⟩))
      go_quiet (fail)
      go_wp2
      go_ret2
      exact ⟨ret_bytesE (by rw [dec_mid, HR.out]), below_drewN hb _⟩

/-- A day as a text: year, month and day. -/
def dayL (y m d : Nat) : List UInt8 := padL y 4 ++ [45] ++ padL m 2 ++ [45] ++ padL d 2
def FDayPost (n : Int) (w : World) (e : Ending) (w' : World) : Prop :=
  ∃ y m d : Nat, e = .returned (.tuple #[.string ⟨(dayL y m d).toArray⟩, .int .i64 0]) ∧ vld y m d ∧ dayNum y m d = n ∧ Below w.heap.size w w'
theorem day_bytes (Y M D : List UInt8) : (⟨Y.toArray⟩ : ByteArray) ++ ⟨#[45]⟩ ++ ⟨M.toArray⟩ ++ ⟨#[45]⟩ ++ ⟨D.toArray⟩ = ⟨(Y ++ [45] ++ M ++ [45] ++ D).toArray⟩ := by
  apply ByteArray.ext; simp

theorem formatDay_no (n : Int) (w : World) (hn : n < -719162 ∨ 2932896 < n) :
    Calls Tryz.prog 66 #[.int .i64 n] w fun e w' => e = .returned (.tuple #[.string ⟨#[]⟩, .int .i64 13]) ∧ w = w' := by
  go_enter Tryz.func66, Tryz.ntmps66
  go_wp2_with (go_at_call 96; refine (civil_no _ _ hn).mono ?_; rintro e w' ⟨rfl, rfl⟩)
  go_ret2
  exact ⟨rfl, rfl⟩
set_option maxHeartbeats 1600000 in
theorem formatDay_yes (n : Int) (w : World) (hM : MLaid w) (hP : PowLaid w) (h1 : -719162 ≤ n) (h2 : n ≤ 2932896) :
    Calls Tryz.prog 66 #[.int .i64 n] w (FDayPost n w) := by
  go_enter Tryz.func66, Tryz.ntmps66
  go_wp2_with fail
  refine (civil_yes _ _ hM h1 h2).mono ?_
  rintro e w' ⟨y, m, d, rfl, hv1, hn1, rfl⟩
  have hmb := mlen_bd y m
  obtain ⟨a1, a2, a3, a4, a5, a6⟩ := id hv1
  obtain ⟨yn, rfl⟩ : ∃ yn : Nat, y = yn := ⟨y.toNat, by omega⟩
  obtain ⟨mn, rfl⟩ : ∃ mn : Nat, m = mn := ⟨m.toNat, by omega⟩
  obtain ⟨dn, rfl⟩ : ∃ dn : Nat, d = dn := ⟨d.toNat, by omega⟩
  have hL1 := padL_len yn 4 (by omega) (by omega) (by omega)
  have hL2 := padL_len mn 2 (by omega) (by omega) (by omega)
  have hL3 := padL_len dn 2 (by omega) (by omega) (by omega)
  have HV1 := Lib.hid hv1
  have HN1 := Lib.hid hn1
  clear hv1 hn1
  go_wp2_with fail
  refine (padded_any yn 4 (by omega) (by omega) _ hP).mono ?_
  rintro e w1 ⟨rfl, hb1⟩
  go_wp2_with fail
  refine (padded_any mn 2 (by omega) (by omega) _ (hP.below hb1)).mono ?_
  rintro e w2 ⟨rfl, hb2⟩
  go_wp2_with fail
  refine (padded_any dn 2 (by omega) (by omega) _ ((hP.below hb1).below hb2)).mono ?_
  rintro e w3 ⟨rfl, hb3⟩
  go_wp2
  go_ret2
  have hb12 := hb1.trans (hb2.mono hb1.size)
  exact ⟨yn, mn, dn, ret_bytesE (day_bytes _ _ _), HV1.out, HN1.out, hb12.trans (hb3.mono hb12.size)⟩

theorem refFormatDay_no (n : Int) (w : World) (hn : n < -719162 ∨ 2932896 < n) :
    Calls Tryz.prog 41 #[.int .i64 n] w fun e w' => e = .returned (.tuple #[.string ⟨#[]⟩, .int .i64 13]) ∧ w = w' := by
  go_enter Tryz.func41, Tryz.ntmps41
  go_wp2_with (go_at_call 68; refine (refCivil_no _ _ hn).mono ?_; rintro e w' ⟨rfl, rfl⟩)
  go_ret2
  exact ⟨rfl, rfl⟩
set_option maxHeartbeats 1600000 in
theorem refFormatDay_yes (n : Int) (w : World) (h1 : -719162 ≤ n) (h2 : n ≤ 2932896) :
    Calls Tryz.prog 41 #[.int .i64 n] w (FDayPost n w) := by
  go_enter Tryz.func41, Tryz.ntmps41
  go_wp2_with fail
  refine (refCivil_yes _ _ h1 h2).mono ?_
  rintro e w' ⟨y, m, d, rfl, hv1, hn1, rfl⟩
  have hmb := mlen_bd y m
  obtain ⟨a1, a2, a3, a4, a5, a6⟩ := id hv1
  obtain ⟨yn, rfl⟩ : ∃ yn : Nat, y = yn := ⟨y.toNat, by omega⟩
  obtain ⟨mn, rfl⟩ : ∃ mn : Nat, m = mn := ⟨m.toNat, by omega⟩
  obtain ⟨dn, rfl⟩ : ∃ dn : Nat, d = dn := ⟨d.toNat, by omega⟩
  have hL1 := padL_len yn 4 (by omega) (by omega) (by omega)
  have hL2 := padL_len mn 2 (by omega) (by omega) (by omega)
  have hL3 := padL_len dn 2 (by omega) (by omega) (by omega)
  have HV1 := Lib.hid hv1
  have HN1 := Lib.hid hn1
  clear hv1 hn1
  go_wp2_with fail
  refine (plain_any yn 4 (by omega) (by omega) (by omega) _).mono ?_
  rintro e w1 ⟨rfl, hb1⟩
  go_wp2_with fail
  refine (plain_any mn 2 (by omega) (by omega) (by omega) _).mono ?_
  rintro e w2 ⟨rfl, hb2⟩
  go_wp2_with fail
  refine (plain_any dn 2 (by omega) (by omega) (by omega) _).mono ?_
  rintro e w3 ⟨rfl, hb3⟩
  go_wp2
  go_ret2
  have hb12 := hb1.trans (hb2.mono hb1.size)
  exact ⟨yn, mn, dn, ret_bytesE (day_bytes _ _ _), HV1.out, HN1.out, hb12.trans (hb3.mono hb12.size)⟩
end Go.Proofs.YtogdkhnakenbcaaGreatDoor
