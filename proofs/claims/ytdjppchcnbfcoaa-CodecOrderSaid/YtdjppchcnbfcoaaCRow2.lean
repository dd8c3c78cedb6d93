/-
  Contracts of the rows of ints: the program's, the document's; slices.Compare.
-/
import Derived.Test.YtdjppchcnbfcoaaCRow
import Derived.Test.YtdjppchcnbfcoaaCApp2
namespace Go.Proofs.Ytdjppchcnbfcoaa
open Go.ChangeShapes Go.WideShapes Go.ChangeAt Go.RowKit
set_option linter.unusedVariables false

set_option maxHeartbeats 1600000 in
set_option maxRecDepth 100000 in
theorem row_anyB (A : Option Addr) (c : Nat) (zs : List Int) (w : World) (hA : IRd w A zs) (hz : ∀ z ∈ zs, In8 z) (hl : zs.length ≤ 17592186043904) :
    Calls Try.prog 28 #[.slice A zs.length c] w (Fresh (rowF zs) w) := by
  have HA := Lib.hid hA
  have HZ := Lib.hid hz
  clear hA hz
  go_enter Try.func28, Try.ntmps28
  go_wp2_with fail
  go_loopw [3, 8] (fun b idx wr => ∃ k : Nat, k ≤ zs.length ∧ idx = .int .i64 k ∧ OwnB wr w.heap.size b (rowF (zs.take k)) ∧ Below w.heap.size w wr) (fun _ idx _ => zs.length - (intOf idx).toNat)
  case atStart => exact ⟨0, by omega, rfl, OwnB.nil _ _, Below.refl _ _⟩
  case round =>
    obtain ⟨k, hk, rfl, hown, hb⟩ := hrel
    have HO := Lib.hid hown
    have HB := Lib.hid hb
    have hBr : w.heap.size ≤ wr.heap.size := hb.size
    clear hown hb
    by_cases hik : k < zs.length
    · obtain ⟨g, off, rfl, hgl, hc⟩ := (HA.out.below HB.out) (by omega)
      have c0 := hc k hik
      clear hc
      have HT := Lib.hid (rowF_take zs k hik)
      have HLN := Lib.hid (rowF_take_len zs HZ.out k (by omega))
      have HI := Lib.hid (HZ.out _ (List.getElem_mem hik))
      have x0 : (0 : Int) ≤ (k : Int) := by omega
      have x1 : (k : Int) < (zs.length : Int) := by omega
      have x2 : 0 < zs.length := by omega
      generalize zs[k] = z at *
      go_wp2_with fail
      refine (appendInt_anyB _ u3 _ z _ HI.out HO.out hBr (by have := HLN.out; omega)).mono ?_
      rintro e w2 ⟨v2, rfl, hown2, hg2⟩
      rw [← HT.out] at hown2
      have HO2 := Lib.hid hown2
      have HB2 := Lib.hid (below_tr HB.out (hg2.below HO.out hBr))
      clear hown2 hg2
      go_wp2_with fail
      go_roundw
      case rel => exact ⟨k + 1, by omega, by go_num, HO2.out, HB2.out⟩
      case measure => simp [intOf]; omega
    · obtain rfl : k = zs.length := by omega
      have hikI : ¬ ((zs.length : Int) < (zs.length : Int)) := by omega
      rw [List.take_length] at HO
      go_wp2_with fail
      go_ret
      exact ⟨_, rfl, HO.out, HB.out⟩
set_option maxHeartbeats 3200000 in
set_option maxRecDepth 100000 in
theorem refRow_anyB (A : Option Addr) (c : Nat) (zs : List Int) (w : World) (hA : IRd w A zs) (hz : ∀ z ∈ zs, In8 z) (hl : zs.length ≤ 17592186043904) :
    Calls Try.prog 29 #[.slice A zs.length c] w (Fresh (rowF zs) w) := by
  have HA := Lib.hid hA
  have HZ := Lib.hid hz
  clear hA hz
  go_enter Try.func29, Try.ntmps29
  go_wp2_with fail
  go_loopw [3, 4] (fun b idx wr => ∃ k : Nat, k ≤ zs.length ∧ idx = .int .i64 k ∧ OwnB wr w.heap.size b (rowF (zs.take k)) ∧ Below w.heap.size w wr) (fun _ idx _ => zs.length - (intOf idx).toNat)
  case atStart => exact ⟨0, by omega, rfl, OwnB.nil _ _, Below.refl _ _⟩
  case round =>
    obtain ⟨k, hk, rfl, hown, hb⟩ := hrel
    have HO := Lib.hid hown
    have HB := Lib.hid hb
    have hBr : w.heap.size ≤ wr.heap.size := hb.size
    clear hown hb
    by_cases hik : k < zs.length
    · obtain ⟨g, off, rfl, hgl, hc⟩ := (HA.out.below HB.out) (by omega)
      have c0 := hc k hik
      clear hc
      have HT := Lib.hid (rowF_take zs k hik)
      have HLN := Lib.hid (rowF_take_len zs HZ.out k (by omega))
      have HI := Lib.hid (HZ.out _ (List.getElem_mem hik))
      have x0 : (0 : Int) ≤ (k : Int) := by omega
      have x1 : (k : Int) < (zs.length : Int) := by omega
      have x2 : 0 < zs.length := by omega
      generalize zs[k] = z at *
      have HP := Lib.hid (enc_pos z HI.out)
      have H9 := Lib.hid (enc_le9 z HI.out)
      go_wp2_with fail
      refine (refInt_any z _ HI.out).mono ?_
      rintro e w1 ⟨v1, rfl, hown1, hb1⟩
      obtain ⟨a1, cap1, rfl, _, _⟩ := hown1.slice
      have HR1 := Lib.hid hown1.brd
      have HO1 := Lib.hid (HO.out.below hb1)
      have HB1 := Lib.hid (bt HB.out hb1)
      have hBr1 : w.heap.size ≤ w1.heap.size := Nat.le_trans hBr hb1.size
      clear hown1 hb1
      go_wp2_with (at_builtin; go_loud (refine wpList_appB rfl _ _ rfl w.heap.size u3 (rowF (zs.take k)) a1 cap1 (encI z) rfl rfl HO1.out HR1.out HP.out hBr1 (by have := HLN.out; have := H9.out; omega) ?_); intro v2 w2 hown2 hg2; refine Hid.out ?_)
      refine Lib.hid ?_
      rw [← HT.out] at hown2
      have HO2 := Lib.hid hown2
      have HB2 := Lib.hid (below_tr HB1.out (hg2.below HO1.out hBr1))
      clear hown2 hg2
      go_wp2_with fail
      go_roundw
      case rel => exact ⟨k + 1, by omega, by go_num, HO2.out, HB2.out⟩
      case measure => simp [intOf]; omega
    · obtain rfl : k = zs.length := by omega
      have hikI : ¬ ((zs.length : Int) < (zs.length : Int)) := by omega
      rw [List.take_length] at HO
      go_wp2_with fail
      go_ret
      exact ⟨_, rfl, HO.out, HB.out⟩

set_option maxHeartbeats 3200000 in
set_option maxRecDepth 100000 in
theorem compareS_anyB (A1 A2 : Option Addr) (c1 c2 : Nat) (a b : List Int) (w : World) (h1 : IRd w A1 a) (h2 : IRd w A2 b) (l1 : a.length ≤ 17592186043904) (l2 : b.length ≤ 17592186043904) :
    Calls Try.prog 35 #[.slice A1 a.length c1, .slice A2 b.length c2] w fun e w' => e = .returned (.int .i64 (cmpInts a b)) ∧ w = w' := by
  have H1 := Lib.hid h1
  have H2 := Lib.hid h2
  clear h1 h2
  go_enter Try.func35, Try.ntmps35
  go_wp2_with fail
  go_loop [11] (fun idx => ∃ i : Nat, i ≤ a.length ∧ i ≤ b.length ∧ idx = .int .i64 i ∧ cmpInts a b = cmpInts (a.drop i) (b.drop i)) (fun idx => a.length - (intOf idx).toNat)
  case atStart => exact ⟨0, by omega, by omega, rfl, by simp⟩
  case round =>
    obtain ⟨i, hi, hi2, rfl, hcm⟩ := hrel
    have HCM := Lib.hid hcm
    clear hcm
    by_cases hia : i < a.length
    · obtain ⟨g1, off1, rfl, hg1, hc1⟩ := H1.out (by omega)
      have d1 := hc1 i hia
      clear hc1
      have x0 : (0 : Int) ≤ (i : Int) := by omega
      have x1 : (i : Int) < (a.length : Int) := by omega
      have x2 : 0 < a.length := by omega
      by_cases hib : i < b.length
      · obtain ⟨g2, off2, rfl, hg2, hc2⟩ := H2.out (by omega)
        have d2 := hc2 i hib
        clear hc2
        have HST := Lib.hid (cmpInts_step hia hib)
        have y1 : (i : Int) < (b.length : Int) := by omega
        have y2 : 0 < b.length := by omega
        have HC := Lib.hid (fun W => cmp_any a[i] b[i] W)
        generalize a[i] = za at *
        generalize b[i] = zb at *
        generalize cmp2 za zb = r at *
        by_cases hr : r = 0
        · subst hr
          have HST2 : Hid (cmpInts (a.drop i) (b.drop i) = cmpInts (a.drop (i + 1)) (b.drop (i + 1))) := by show _ = _; rw [HST.out, if_pos rfl]
          go_wp2_with (go_at_call 58; refine (HC.out _).mono ?_; rintro e w' ⟨rfl, rfl⟩)
          go_round
          case rel => exact ⟨i + 1, by omega, by omega, by go_num, by rw [HCM.out, HST2.out]⟩
          case measure => simp [intOf]; omega
        · have HST2 : Hid (cmpInts a b = r) := by show _ = _; rw [HCM.out, HST.out, if_neg hr]
          have e0 : (r == 0) = false := by simp; omega
          have e1 : (r != 0) = true := by simp; omega
          clear hr
          go_wp2_with (go_at_call 58; refine (HC.out _).mono ?_; rintro e w' ⟨rfl, rfl⟩)
          go_ret
          exact ⟨ret_int HST2.out.symm, rfl⟩
      · have HST2 : Hid (cmpInts a b = 1) := by show _ = _; rw [HCM.out, cmpInts_right hia (by omega)]
        have y1 : (b.length : Int) ≤ (i : Int) := by omega
        go_wp2_with fail
        go_ret
        exact ⟨ret_int HST2.out.symm, rfl⟩
    · obtain rfl : i = a.length := by omega
      have hikI : ¬ ((a.length : Int) < (a.length : Int)) := by omega
      by_cases hib : a.length < b.length
      · have HST2 : Hid (cmpInts a b = -1) := by show _ = _; rw [HCM.out, cmpInts_left (Nat.le_refl _), if_pos hib]
        have y1 : (a.length : Int) < (b.length : Int) := by omega
        go_wp2_with fail
        go_ret
        exact ⟨ret_int HST2.out.symm, rfl⟩
      · have HST2 : Hid (cmpInts a b = 0) := by show _ = _; rw [HCM.out, cmpInts_left (Nat.le_refl _), if_neg hib]
        have y1 : ¬ ((a.length : Int) < (b.length : Int)) := by omega
        go_wp2_with fail
        go_ret
        exact ⟨ret_int HST2.out.symm, rfl⟩
end Go.Proofs.Ytdjppchcnbfcoaa
