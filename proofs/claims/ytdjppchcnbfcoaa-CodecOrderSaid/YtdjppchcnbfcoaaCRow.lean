/-
  Contracts of the rows of ints: the program's, the document's; slices.Compare.
-/
import Derived.Test.YtdjppchcnbfcoaaCOpen
import Derived.Test.YtdjppchcnbfcoaaCApp
import Derived.Test.YtdjppchcnbfcoaaCRef1
namespace Go.Proofs.Ytdjppchcnbfcoaa
open Go.ChangeShapes Go.WideShapes Go.ChangeAt Go.RowKit
set_option linter.unusedVariables false

theorem enc_le9 (n : Int) (hn : In8 n) : (encI n).length ≤ 9 := by
  rw [enc_len]
  unfold In8 at hn
  have key : ∀ u : Nat, u < 9223372036854775808 → (upF u).length ≤ 9 := fun u hu => by
    by_cases h : u < 120
    · rw [up_small h]; simp
    · rw [up_big h, List.length_cons, List.length_reverse]
      have := up_len8 hu
      omega
  split
  · exact key _ (by omega)
  · exact key _ (by omega)
theorem enc_pos (n : Int) (hn : In8 n) : 0 < (encI n).length := by
  obtain ⟨c, r, e⟩ := enc_ne n hn.1 hn.2
  rw [e]; simp
theorem rowF_take (zs : List Int) (k : Nat) (h : k < zs.length) : rowF (zs.take (k + 1)) = rowF (zs.take k) ++ encI zs[k] := by
  unfold rowF
  rw [List.take_succ_eq_append_getElem h, List.flatMap_append]
  simp
theorem rowF_len : ∀ (zs : List Int), (∀ z ∈ zs, In8 z) → (rowF zs).length ≤ 9 * zs.length
  | [], _ => by simp [rowF]
  | z :: zs, h => by
    have h1 := rowF_len zs fun y hy => h y (by simp [hy])
    have h2 := enc_le9 z (h z (by simp))
    simp only [rowF, List.flatMap_cons, List.length_append, List.length_cons] at h1 ⊢
    omega
theorem rowF_take_len (zs : List Int) (h : ∀ z ∈ zs, In8 z) (k : Nat) (hk : k ≤ zs.length) : (rowF (zs.take k)).length ≤ 9 * k := by
  have := rowF_len (zs.take k) fun z hz => h z (List.mem_of_mem_take hz)
  rw [List.length_take] at this
  omega

set_option maxHeartbeats 1600000 in
set_option maxRecDepth 100000 in
theorem row_any (A : Option Addr) (c : Nat) (zs : List Int) (w : World) (hA : IRd w A zs) (hz : ∀ z ∈ zs, In8 z) (hl : zs.length ≤ 1000000000000) :
    Calls Try.prog 28 #[.slice A zs.length c] w (Fresh (rowF zs) w) := by
  have HA := Lib.hid hA
  have HZ := Lib.hid hz
  clear hA hz
  go_enter Try.func28, Try.ntmps28
  go_wp2_with fail
  go_loopw [3, 8] (fun b idx wr => ∃ k : Nat, k ≤ zs.length ∧ idx = .int .i64 k ∧ OwnB wr w.heap.size b (rowF (zs.take k)) ∧ Below w.heap.size w wr) (fun _ idx _ => zs.length - (intOf idx).toNat)
  case atStart => exact ⟨0, by omega, rfl, OwnB.nil _ _, Below.refl _ _⟩
  case round =>
    obtain ⟨k, hk, rfl, hown, hb⟩ := hrel
    have HO := Lib.hid hown
    have HB := Lib.hid hb
    have hBr : w.heap.size ≤ wr.heap.size := hb.size
    clear hown hb
    by_cases hik : k < zs.length
    · obtain ⟨g, off, rfl, hgl, hc⟩ := (HA.out.below HB.out) (by omega)
      have c0 := hc k hik
      clear hc
      have HT := Lib.hid (rowF_take zs k hik)
      have HLN := Lib.hid (rowF_take_len zs HZ.out k (by omega))
      have HI := Lib.hid (HZ.out _ (List.getElem_mem hik))
      have x0 : (0 : Int) ≤ (k : Int) := by omega
      have x1 : (k : Int) < (zs.length : Int) := by omega
      have x2 : 0 < zs.length := by omega
      generalize zs[k] = z at *
      go_wp2_with fail
      refine (appendInt_any _ u3 _ z _ HI.out HO.out hBr (by have := HLN.out; omega)).mono ?_
      rintro e w2 ⟨v2, rfl, hown2, hg2⟩
      rw [← HT.out] at hown2
      have HO2 := Lib.hid hown2
      have HB2 := Lib.hid (below_tr HB.out (hg2.below HO.out hBr))
      clear hown2 hg2
      go_wp2_with fail
      go_roundw
      case rel => exact ⟨k + 1, by omega, by go_num, HO2.out, HB2.out⟩
      case measure => simp [intOf]; omega
    · obtain rfl : k = zs.length := by omega
      have hikI : ¬ ((zs.length : Int) < (zs.length : Int)) := by omega
      rw [List.take_length] at HO
      go_wp2_with fail
      go_ret
      exact ⟨_, rfl, HO.out, HB.out⟩
set_option maxHeartbeats 3200000 in
set_option maxRecDepth 100000 in
theorem refRow_any (A : Option Addr) (c : Nat) (zs : List Int) (w : World) (hA : IRd w A zs) (hz : ∀ z ∈ zs, In8 z) (hl : zs.length ≤ 1000000000000) :
    Calls Try.prog 29 #[.slice A zs.length c] w (Fresh (rowF zs) w) := by
  have HA := Lib.hid hA
  have HZ := Lib.hid hz
  clear hA hz
  go_enter Try.func29, Try.ntmps29
  go_wp2_with fail
  go_loopw [3, 4] (fun b idx wr => ∃ k : Nat, k ≤ zs.length ∧ idx = .int .i64 k ∧ OwnB wr w.heap.size b (rowF (zs.take k)) ∧ Below w.heap.size w wr) (fun _ idx _ => zs.length - (intOf idx).toNat)
  case atStart => exact ⟨0, by omega, rfl, OwnB.nil _ _, Below.refl _ _⟩
  case round =>
    obtain ⟨k, hk, rfl, hown, hb⟩ := hrel
    have HO := Lib.hid hown
    have HB := Lib.hid hb
    have hBr : w.heap.size ≤ wr.heap.size := hb.size
    clear hown hb
    by_cases hik : k < zs.length
    · obtain ⟨g, off, rfl, hgl, hc⟩ := (HA.out.below HB.out) (by omega)
      have c0 := hc k hik
      clear hc
      have HT := Lib.hid (rowF_take zs k hik)
      have HLN := Lib.hid (rowF_take_len zs HZ.out k (by omega))
      have HI := Lib.hid (HZ.out _ (List.getElem_mem hik))
      have x0 : (0 : Int) ≤ (k : Int) := by omega
      have x1 : (k : Int) < (zs.length : Int) := by omega
      have x2 : 0 < zs.length := by omega
      generalize zs[k] = z at *
      have HP := Lib.hid (enc_pos z HI.out)
      have H9 := Lib.hid (enc_le9 z HI.out)
      go_wp2_with fail
      refine (refInt_any z _ HI.out).mono ?_
      rintro e w1 ⟨v1, rfl, hown1, hb1⟩
      obtain ⟨a1, cap1, rfl, _, _⟩ := hown1.slice
      have HR1 := Lib.hid hown1.brd
      have HO1 := Lib.hid (HO.out.below hb1)
      have HB1 := Lib.hid (bt HB.out hb1)
      have hBr1 : w.heap.size ≤ w1.heap.size := Nat.le_trans hBr hb1.size
      clear hown1 hb1
      go_wp2_with (at_builtin; go_loud (refine wpList_app rfl _ _ rfl w.heap.size u3 (rowF (zs.take k)) a1 cap1 (encI z) rfl rfl HO1.out HR1.out HP.out hBr1 (by have := HLN.out; have := H9.out; omega) ?_); intro v2 w2 hown2 hg2; refine Hid.out ?_)
      refine Lib.hid ?_
      rw [← HT.out] at hown2
      have HO2 := Lib.hid hown2
      have HB2 := Lib.hid (below_tr HB1.out (hg2.below HO1.out hBr1))
      clear hown2 hg2
      go_wp2_with fail
      go_roundw
      case rel => exact ⟨k + 1, by omega, by go_num, HO2.out, HB2.out⟩
      case measure => simp [intOf]; omega
    · obtain rfl : k = zs.length := by omega
      have hikI : ¬ ((zs.length : Int) < (zs.length : Int)) := by omega
      rw [List.take_length] at HO
      go_wp2_with fail
      go_ret
      exact ⟨_, rfl, HO.out, HB.out⟩

def cmp2 (a b : Int) : Int := if a < b then -1 else if b < a then 1 else 0
theorem isNaN_any (a : Int) (w : World) : Calls Try.prog 65 #[.int .i64 a] w fun e w' => e = .returned (.bool false) ∧ w = w' := by
  have h : (a != a) = false := by simp
  go_enter Try.func65, Try.ntmps65
  go_wp2
  go_ret
  exact ⟨rfl, rfl⟩
theorem cmp_any (a b : Int) (w : World) : Calls Try.prog 58 #[.int .i64 a, .int .i64 b] w fun e w' => e = .returned (.int .i64 (cmp2 a b)) ∧ w = w' := by
  by_cases h : a < b
  · have HC : Hid (cmp2 a b = -1) := if_pos h
    go_enter Try.func58, Try.ntmps58
    go_wp2_with (go_at_call 65; refine (isNaN_any _ _).mono ?_; rintro e w' ⟨rfl, rfl⟩)
    go_ret
    exact ⟨ret_int HC.out.symm, rfl⟩
  · by_cases h' : b < a
    · have HC : Hid (cmp2 a b = 1) := by show _ = _; unfold cmp2; rw [if_neg h, if_pos h']
      go_enter Try.func58, Try.ntmps58
      go_wp2_with (go_at_call 65; refine (isNaN_any _ _).mono ?_; rintro e w' ⟨rfl, rfl⟩)
      go_ret
      exact ⟨ret_int HC.out.symm, rfl⟩
    · have HC : Hid (cmp2 a b = 0) := by show _ = _; unfold cmp2; rw [if_neg h, if_neg h']
      go_enter Try.func58, Try.ntmps58
      go_wp2_with (go_at_call 65; refine (isNaN_any _ _).mono ?_; rintro e w' ⟨rfl, rfl⟩)
      go_ret
      exact ⟨ret_int HC.out.symm, rfl⟩
theorem cmpInts_step {a b : List Int} {i : Nat} (h1 : i < a.length) (h2 : i < b.length) : cmpInts (a.drop i) (b.drop i) = if cmp2 a[i] b[i] = 0 then cmpInts (a.drop (i + 1)) (b.drop (i + 1)) else cmp2 a[i] b[i] := by
  rw [List.drop_eq_getElem_cons h1, List.drop_eq_getElem_cons h2]
  show (if a[i] < b[i] then -1 else if b[i] < a[i] then 1 else cmpInts (a.drop (i + 1)) (b.drop (i + 1))) = _
  unfold cmp2
  split
  · simp
  · split
    · simp
    · simp
theorem cmpInts_right {a b : List Int} {i : Nat} (h1 : i < a.length) (h2 : b.length ≤ i) : cmpInts (a.drop i) (b.drop i) = 1 := by
  rw [List.drop_eq_getElem_cons h1, List.drop_eq_nil_of_le h2]
  rfl
theorem cmpInts_left {a b : List Int} {i : Nat} (h1 : a.length ≤ i) : cmpInts (a.drop i) (b.drop i) = if i < b.length then -1 else 0 := by
  rw [List.drop_eq_nil_of_le h1]
  split
  · rename_i h
    rw [List.drop_eq_getElem_cons h]; rfl
  · rename_i h
    rw [List.drop_eq_nil_of_le (by omega)]; rfl
set_option maxHeartbeats 3200000 in
set_option maxRecDepth 100000 in
theorem compareS_any (A1 A2 : Option Addr) (c1 c2 : Nat) (a b : List Int) (w : World) (h1 : IRd w A1 a) (h2 : IRd w A2 b) (l1 : a.length ≤ 1000000000000) (l2 : b.length ≤ 1000000000000) :
    Calls Try.prog 35 #[.slice A1 a.length c1, .slice A2 b.length c2] w fun e w' => e = .returned (.int .i64 (cmpInts a b)) ∧ w = w' := by
  have H1 := Lib.hid h1
  have H2 := Lib.hid h2
  clear h1 h2
  go_enter Try.func35, Try.ntmps35
  go_wp2_with fail
  go_loop [11] (fun idx => ∃ i : Nat, i ≤ a.length ∧ i ≤ b.length ∧ idx = .int .i64 i ∧ cmpInts a b = cmpInts (a.drop i) (b.drop i)) (fun idx => a.length - (intOf idx).toNat)
  case atStart => exact ⟨0, by omega, by omega, rfl, by simp⟩
  case round =>
    obtain ⟨i, hi, hi2, rfl, hcm⟩ := hrel
    have HCM := Lib.hid hcm
    clear hcm
    by_cases hia : i < a.length
    · obtain ⟨g1, off1, rfl, hg1, hc1⟩ := H1.out (by omega)
      have d1 := hc1 i hia
      clear hc1
      have x0 : (0 : Int) ≤ (i : Int) := by omega
      have x1 : (i : Int) < (a.length : Int) := by omega
      have x2 : 0 < a.length := by omega
      by_cases hib : i < b.length
      · obtain ⟨g2, off2, rfl, hg2, hc2⟩ := H2.out (by omega)
        have d2 := hc2 i hib
        clear hc2
        have HST := Lib.hid (cmpInts_step hia hib)
        have y1 : (i : Int) < (b.length : Int) := by omega
        have y2 : 0 < b.length := by omega
        have HC := Lib.hid (fun W => cmp_any a[i] b[i] W)
        generalize a[i] = za at *
        generalize b[i] = zb at *
        generalize cmp2 za zb = r at *
        by_cases hr : r = 0
        · subst hr
          have HST2 : Hid (cmpInts (a.drop i) (b.drop i) = cmpInts (a.drop (i + 1)) (b.drop (i + 1))) := by show _ = _; rw [HST.out, if_pos rfl]
          go_wp2_with (go_at_call 58; refine (HC.out _).mono ?_; rintro e w' ⟨rfl, rfl⟩)
          go_round
          case rel => exact ⟨i + 1, by omega, by omega, by go_num, by rw [HCM.out, HST2.out]⟩
          case measure => simp [intOf]; omega
        · have HST2 : Hid (cmpInts a b = r) := by show _ = _; rw [HCM.out, HST.out, if_neg hr]
          have e0 : (r == 0) = false := by simp; omega
          have e1 : (r != 0) = true := by simp; omega
          clear hr
          go_wp2_with (go_at_call 58; refine (HC.out _).mono ?_; rintro e w' ⟨rfl, rfl⟩)
          go_ret
          exact ⟨ret_int HST2.out.symm, rfl⟩
      · have HST2 : Hid (cmpInts a b = 1) := by show _ = _; rw [HCM.out, cmpInts_right hia (by omega)]
        have y1 : (b.length : Int) ≤ (i : Int) := by omega
        go_wp2_with fail
        go_ret
        exact ⟨ret_int HST2.out.symm, rfl⟩
    · obtain rfl : i = a.length := by omega
      have hikI : ¬ ((a.length : Int) < (a.length : Int)) := by omega
      by_cases hib : a.length < b.length
      · have HST2 : Hid (cmpInts a b = -1) := by show _ = _; rw [HCM.out, cmpInts_left (Nat.le_refl _), if_pos hib]
        have y1 : (a.length : Int) < (b.length : Int) := by omega
        go_wp2_with fail
        go_ret
        exact ⟨ret_int HST2.out.symm, rfl⟩
      · have HST2 : Hid (cmpInts a b = 0) := by show _ = _; rw [HCM.out, cmpInts_left (Nat.le_refl _), if_neg hib]
        have y1 : ¬ ((a.length : Int) < (b.length : Int)) := by omega
        go_wp2_with fail
        go_ret
        exact ⟨ret_int HST2.out.symm, rfl⟩
end Go.Proofs.Ytdjppchcnbfcoaa
