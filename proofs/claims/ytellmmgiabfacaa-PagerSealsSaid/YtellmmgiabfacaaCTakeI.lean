/-
  Contracts of codec.joined and codec.takeInt.
-/
import Derived.Test.YtellmmgiabfacaaCInt
namespace Go.Proofs.Ytellmmgiabfacaa
open Go.ChangeShapes Go.WideShapes Go.ChangeAt Go.RowKit
set_option linter.unusedVariables false

def tb (low : Bool) : Int := if low then 255 else 0
theorem or_step (M : Nat) (x : Int) (hM : M < 72057594037927936) (h0 : 0 ≤ x) (h1 : x ≤ 255) : bits .or .u64 (IntKind.u64.wrap ((M : Int) * 256)) (IntKind.u64.wrap x) = (M : Int) * 256 + x := by
  have e1 : IntKind.u64.wrap ((M : Int) * 256) = (M : Int) * 256 := by rw [IntKind.wrap_u64]; omega
  have e2 : IntKind.u64.wrap x = x := by rw [IntKind.wrap_u64]; omega
  rw [e1, e2, u64_or _ _ (by omega) (by omega) h0 (by omega)]
  have e3 : ((M : Int) * 256).toNat = 2 ^ 8 * M := by omega
  rw [e3, ← Nat.two_pow_add_eq_or_of_lt (by omega : x.toNat < 2 ^ 8)]
  omega
theorem tb_xor (low : Bool) (z : Int) (h0 : 0 ≤ z) (h1 : z ≤ 255) : bits .xor .u8 z (tb low) = if low then 255 - z else z := by
  cases low
  · exact xor0 z h0 h1
  · exact xor255 z h0 h1
theorem joined_step (low : Bool) (b : List UInt8) (k : Nat) (hk : k < b.length) (hl : b.length ≤ 8) :
    bits .or .u64 (IntKind.u64.wrap ((beV (turnIf low (b.take k)) : Nat) * 256)) (IntKind.u64.wrap (bits .xor .u8 (b[k].toNat : Int) (tb low))) = ((beV (turnIf low (b.take (k + 1))) : Nat) : Int) := by
  have hc := b[k].toNat_lt
  have hx := tb_xor low (b[k].toNat : Int) (by omega) (by omega)
  have hM : beV (turnIf low (b.take k)) < 72057594037927936 := by
    have h1 := beV_lt (turnIf low (b.take k))
    rw [turnIf_len, List.length_take] at h1
    have h2 : 256 ^ min k b.length ≤ 256 ^ 7 := Nat.pow_le_pow_right (by decide) (by omega)
    omega
  rw [or_step _ _ hM (by rw [hx]; split <;> omega) (by rw [hx]; split <;> omega), hx, List.take_succ_eq_append_getElem hk]
  have e : turnIf low (b.take k ++ [b[k]]) = turnIf low (b.take k) ++ [if low then turnB b[k] else b[k]] := by
    cases low
    · rfl
    · show turnL _ = turnL _ ++ _
      rw [turn_app]; rfl
  rw [e, beV_snoc]
  cases low
  · simp
  · simp [turnB_nat]
    omega
set_option maxHeartbeats 1600000 in
theorem joined_any (low : Bool) (A : Option Addr) (c : Nat) (b : List UInt8) (w : World) (hA : BRd w A b) (hl : b.length ≤ 8) :
    Calls Try.prog 151 #[.slice A b.length c, .int .u8 (tb low)] w fun e w' => e = .returned (.int .u64 (beV (turnIf low b) : Nat)) ∧ w = w' := by
  have HA := Lib.hid hA
  clear hA
  obtain ⟨t, ht⟩ : ∃ t, t = tb low := ⟨_, rfl⟩
  rw [← ht]
  have HT := Lib.hid ht
  clear ht
  go_enter Try.func151, Try.ntmps151
  go_wp2_with fail
  go_loop [5, 10] (fun m idx => ∃ k : Nat, k ≤ b.length ∧ idx = .int .i64 k ∧ m = .int .u64 (beV (turnIf low (b.take k)) : Nat)) (fun _ idx => b.length - (intOf idx).toNat)
  case atStart => exact ⟨0, by omega, rfl, by cases low <;> rfl⟩
  case round =>
    obtain ⟨k, hk, rfl, rfl⟩ := hrel
    by_cases hik : k < b.length
    · obtain ⟨g, off, rfl, hgl, hc⟩ := HA.out (by omega)
      have c0 := hc k hik
      clear hc
      have x0 : (0 : Int) ≤ (k : Int) := by omega
      have x1 : (k : Int) < (b.length : Int) := by omega
      have x2 : 0 < b.length := by omega
      have HS : Hid (bits .or .u64 (IntKind.u64.wrap ((beV (turnIf low (b.take k)) : Nat) * 256)) (IntKind.u64.wrap (bits .xor .u8 (b[k].toNat : Int) t)) = ((beV (turnIf low (b.take (k + 1))) : Nat) : Int)) := by
        show _ = _
        rw [HT.out]
        exact joined_step low b k hik hl
      generalize (b[k].toNat : Int) = ch at *
      generalize (beV (turnIf low (b.take k)) : Nat) = M at *
      go_wp2_with fail
      go_round
      case rel => exact ⟨k + 1, by omega, by go_num, by rw [HS.out]⟩
      case measure => simp [intOf]; omega
    · obtain rfl : k = b.length := by omega
      have hikI : ¬ ((b.length : Int) < (b.length : Int)) := by omega
      rw [List.take_length]
      go_wp2_with fail
      go_ret
      exact ⟨rfl, rfl⟩

def TakeI (b : List UInt8) (w : World) (e : Ending) (w' : World) : Prop := e = .returned (.tuple #[.int .i64 (rdI b).1, .int .i64 ((rdI b).2.1 : Int), .int .i64 (rdI b).2.2]) ∧ w = w'
theorem TakeI.mk {b : List UInt8} {n : Int} {k : Nat} {er y z : Int} {w : World} {e : Ending} (h : rdI b = (n, k, er)) (hy : y = n) (hz : z = (k : Int)) (he : e = .returned (.tuple #[.int .i64 y, .int .i64 z, .int .i64 er])) : TakeI b w e w := by
  unfold TakeI
  rw [h]
  subst hy hz
  exact ⟨he, rfl⟩
theorem takeInt_nil (A : Option Addr) (c : Nat) (w : World) :
    Calls Try.prog 142 #[.slice A 0 c] w (TakeI [] w) := by
  go_enter Try.func142, Try.ntmps142
  go_wp2_with fail
  go_ret3
  exact TakeI.mk rfl rfl rfl rfl
set_option maxHeartbeats 3200000 in
set_option maxRecDepth 100000 in
theorem takeInt_short_low (g off cp n F : Nat) (c : UInt8) (r : List UInt8) (w : World) (c0 : w.cell? ⟨g, off, none⟩ = some (.int .u8 (c.toNat : Int))) (n1 : 1 ≤ n) (n2 : n ≤ 140737488355328) (hlow : lowB c = true) (hF : F = firstB c) (hf : F < 248) :
    Calls Try.prog 142 #[.slice (some ⟨g, off, none⟩) n cp] w (TakeI (c :: r) w) := by
  have HR : Hid (rdI (c :: r) = (numI true ((F : Int) - 128), 1, 0)) := by
    show rdC c r = _
    unfold rdC
    rw [← hF, if_pos hf, hlow]
  have hcl := c.toNat_lt
  have n0 : ((n : Int) == 0) = false := by simp; omega
  have y1 : decide ((c.toNat : Int) < 128) = true := by unfold lowB at hlow; rw [← hlow]; congr 1; simp <;> omega
  unfold firstB at hF
  rw [hlow] at hF
  simp only [if_true] at hF
  have y2 : c.toNat < 128 := by simpa [lowB] using hlow
  have x1 : bits .xor .u8 (c.toNat : Int) 255 = (F : Int) := by rw [xor255 _ (by omega) (by omega), hF]; omega
  have f1 : 128 ≤ F := by omega
  have f2 : ¬ (247 < (F : Int)) := by omega
  have f3 : F ≤ 247 := by omega
  clear hF hlow y2
  generalize (c.toNat : Int) = ch at *
  go_enter Try.func142, Try.ntmps142
  go_wp2_with (first | (go_at_call 133; refine (mirror_any _ _ (by unfold In8; omega)).mono ?_; rintro e w' ⟨rfl, rfl⟩))
  go_ret3
  exact TakeI.mk HR.out (by show _ = -((F : Int) - 128) - 1; omega) rfl rfl
set_option maxHeartbeats 3200000 in
set_option maxRecDepth 100000 in
theorem takeInt_short_high (g off cp n F : Nat) (c : UInt8) (r : List UInt8) (w : World) (c0 : w.cell? ⟨g, off, none⟩ = some (.int .u8 (c.toNat : Int))) (n1 : 1 ≤ n) (n2 : n ≤ 140737488355328) (hlow : lowB c = false) (hF : F = firstB c) (hf : F < 248) :
    Calls Try.prog 142 #[.slice (some ⟨g, off, none⟩) n cp] w (TakeI (c :: r) w) := by
  have HR : Hid (rdI (c :: r) = (numI false ((F : Int) - 128), 1, 0)) := by
    show rdC c r = _
    unfold rdC
    rw [← hF, if_pos hf, hlow]
  have hcl := c.toNat_lt
  have n0 : ((n : Int) == 0) = false := by simp; omega
  have y1 : decide ((c.toNat : Int) < 128) = false := by unfold lowB at hlow; rw [← hlow]; congr 1; simp <;> omega
  unfold firstB at hF
  rw [hlow] at hF
  simp only [Bool.false_eq_true, if_false] at hF
  have y2 : 128 ≤ c.toNat := by simpa [lowB] using hlow
  have x1 : bits .xor .u8 (c.toNat : Int) 0 = (F : Int) := by rw [xor0 _ (by omega) (by omega), hF]
  have f1 : 128 ≤ F := by omega
  have f2 : ¬ (247 < (F : Int)) := by omega
  have f3 : F ≤ 247 := by omega
  clear hF hlow y2
  generalize (c.toNat : Int) = ch at *
  go_enter Try.func142, Try.ntmps142
  go_wp2_with (fail)
  go_ret3
  exact TakeI.mk HR.out (by show _ = (F : Int) - 128; omega) rfl rfl
set_option maxHeartbeats 3200000 in
set_option maxRecDepth 100000 in
theorem takeInt_ends_low (g off cp n K : Nat) (c : UInt8) (r : List UInt8) (w : World) (hA : BRd w (some ⟨g, off, none⟩) (c :: r)) (hn : n = (c :: r).length) (n2 : n ≤ 140737488355328) (hcp : n ≤ cp) (hlow : lowB c = true) (hF : 247 + K = firstB c) (hK : 1 ≤ K) (hr : r.length < K) :
    Calls Try.prog 142 #[.slice (some ⟨g, off, none⟩) n cp] w (TakeI (c :: r) w) := by
  have HR : Hid (rdI (c :: r) = (0, 0, 30)) := by
    show rdC c r = _
    unfold rdC
    rw [← hF, if_neg (by omega), if_pos (by omega)]
  have hcl := c.toNat_lt
  obtain ⟨g', off', e, hg, hc⟩ := hA (by simp)
  obtain ⟨rfl, rfl⟩ : g = g' ∧ off = off' := by simpa using e
  have c0 := hc 0 (by simp)
  simp only [List.getElem_cons_zero, Nat.add_zero] at c0
  have n1 : 1 ≤ n := by rw [hn]; simp
  have n0 : ((n : Int) == 0) = false := by simp; omega
  have y1 : decide ((c.toNat : Int) < 128) = true := by unfold lowB at hlow; rw [← hlow]; congr 1; simp <;> omega
  have hF2 := hF
  unfold firstB at hF
  rw [hlow] at hF
  simp only [if_true] at hF
  have y2 : c.toNat < 128 := by simpa [lowB] using hlow
  have x1 : bits .xor .u8 (c.toNat : Int) 255 = 247 + (K : Int) := by rw [xor255 _ (by omega) (by omega)]; omega
  have k8 : K ≤ 8 := by omega
  have f2 : 247 < 247 + (K : Int) := by omega
  have f3 : 247 + (K : Int) - 247 = (K : Int) := by omega
  have f4 : (n : Int) < 1 + (K : Int) := by rw [hn]; simp; omega
  clear hF hF2 hlow y2 hA hc e hn hr
  generalize (c.toNat : Int) = ch at *
  go_enter Try.func142, Try.ntmps142
  go_wp2_with fail
  go_ret3
  exact TakeI.mk HR.out rfl rfl rfl
set_option maxHeartbeats 3200000 in
set_option maxRecDepth 100000 in
theorem takeInt_long_low (g off cp n K : Nat) (c : UInt8) (r : List UInt8) (w : World) (hA : BRd w (some ⟨g, off, none⟩) (c :: r)) (hn : n = (c :: r).length) (n2 : n ≤ 140737488355328) (hcp : n ≤ cp) (hlow : lowB c = true) (hF : 247 + K = firstB c) (hK : 1 ≤ K) (hr : K ≤ r.length) :
    Calls Try.prog 142 #[.slice (some ⟨g, off, none⟩) n cp] w (TakeI (c :: r) w) := by
  obtain ⟨M, hM⟩ : ∃ M, M = beV (turnIf true (r.take K)) := ⟨_, rfl⟩
  have hRD : rdI (c :: r) = if 9223372036854775687 < M then (0, 0, 31) else if (leF M).length = K then (numI true ((M : Int) + 120), 1 + K, 0) else (0, 0, 31) := by
    show rdC c r = _
    unfold rdC
    rw [← hF, if_neg (by omega), if_neg (by omega), hlow, show 247 + K - 247 = K by omega, ← hM]
  have hcl := c.toNat_lt
  obtain ⟨g', off', e, hg, hc⟩ := hA (by simp)
  obtain ⟨rfl, rfl⟩ : g = g' ∧ off = off' := by simpa using e
  have c0 := hc 0 (by simp)
  simp only [List.getElem_cons_zero, Nat.add_zero] at c0
  have n1 : 1 ≤ n := by rw [hn]; simp
  have n0 : ((n : Int) == 0) = false := by simp; omega
  have y1 : decide ((c.toNat : Int) < 128) = true := by unfold lowB at hlow; rw [← hlow]; congr 1; simp <;> omega
  have hF2 := hF
  unfold firstB at hF
  rw [hlow] at hF
  simp only [if_true] at hF
  have y2 : c.toNat < 128 := by simpa [lowB] using hlow
  have x1 : bits .xor .u8 (c.toNat : Int) 255 = 247 + (K : Int) := by rw [xor255 _ (by omega) (by omega)]; omega
  have k8 : K ≤ 8 := by omega
  have f2 : 247 < 247 + (K : Int) := by omega
  have f3 : 247 + (K : Int) - 247 = (K : Int) := by omega
  have hn2 : n = r.length + 1 := by rw [hn]; simp
  have f4 : ¬ ((n : Int) < 1 + (K : Int)) := by omega
  have hMl : M < 18446744073709551616 := by
    have h1 := beV_lt (turnIf true (r.take K))
    rw [turnIf_len, List.length_take, ← hM] at h1
    have h2 : 256 ^ min K r.length ≤ 256 ^ 8 := Nat.pow_le_pow_right (by decide) (by omega)
    omega
  have hWK : (leF M).length ≤ K := by
    have h1 := beV_lt (turnIf true (r.take K))
    rw [turnIf_len, List.length_take, ← hM, Nat.min_eq_left hr] at h1
    exact leF_le hK h1
  have HJ : Hid (∀ W, W = w → ∀ C, Calls Try.prog 151 #[.slice (some ⟨g, off + 1, none⟩) K C, .int .u8 255] W fun e w' => e = .returned (.int .u64 (M : Nat)) ∧ W = w') := by
    intro W hW C
    have h := joined_any true (some ⟨g, off + 1, none⟩) C (r.take K) W (by
      subst hW
      intro hn0
      refine ⟨g, off + 1, rfl, hg, fun i hi => ?_⟩
      have h1 := hc (i + 1) (by simp at hi ⊢; omega)
      rw [Nat.add_assoc, Nat.add_comm 1 i, h1, List.getElem_cons_succ, List.getElem_take]) (by rw [List.length_take]; omega)
    rw [List.length_take, Nat.min_eq_left hr, ← hM] at h
    exact h
  have f5 : (1 + (K : Int)).toNat - 1 = K := by omega
  have f6 : (1 : Int) + (K : Int) ≤ (cp : Int) := by omega
  have f7 : 1 < 1 + (K : Int) := by omega
  have f8 : ¬ cp = 1 := by omega
  have f9 : (1 + (K : Int)).toNat = 1 + K := by omega
  have f10 : 1 + K - 1 = K := by omega
  clear hF hF2 hlow y2 hA hc e hn hn2 hM hr
  generalize (c.toNat : Int) = ch at *
  have HW := Lib.hid (fun W => width_any M W hMl)
  have HB := Lib.hid (fun W => beyond_any 9223372036854775807 W (by decide) (by decide))
  have HD := Lib.hid hRD
  clear hRD
  have HK := Lib.hid hWK
  by_cases hw : (leF M).length < K
  · have HQ : Hid (rdI (c :: r) = (0, 0, 31)) := by
      show _ = _
      rw [HD.out]
      split
      · rfl
      · rw [if_neg (by omega)]
    clear hWK
    generalize (leF M).length = L at *
    have z1 : decide (1 + (L : Int) < 1 + (K : Int)) = true := by simp; omega
    go_enter Try.func142, Try.ntmps142
    go_wp2_with (first | (go_at_call 151; refine (HJ.out _ rfl _).mono ?_; rintro e w' ⟨rfl, rfl⟩) | (go_at_call 135; refine (HW.out _).mono ?_; rintro e w' ⟨rfl, rfl⟩))
    go_ret3
    exact TakeI.mk HQ.out rfl rfl rfl
  · have hw2 : (leF M).length = K := by omega
    have HW2 := Lib.hid hw2
    by_cases hb : 9223372036854775687 < M
    · have HQ : Hid (rdI (c :: r) = (0, 0, 31)) := by
        show _ = _
        rw [HD.out, if_pos hb]
      have hbI : (9223372036854775687 : Int) < (M : Int) := by omega
      clear hWK hw
      generalize (leF M).length = L at *
      subst hw2
      go_enter Try.func142, Try.ntmps142
      go_wp2_with (first | (go_at_call 151; refine (HJ.out _ rfl _).mono ?_; rintro e w' ⟨rfl, rfl⟩) | (go_at_call 135; refine (HW.out _).mono ?_; rintro e w' ⟨rfl, rfl⟩) | (go_at_call 134; refine (HB.out _).mono ?_; rintro e w' ⟨rfl, rfl⟩))
      go_ret3
      exact TakeI.mk HQ.out rfl rfl rfl
    · have HQ : Hid (rdI (c :: r) = (numI true ((M : Int) + 120), 1 + K, 0)) := by
        show _ = _
        rw [HD.out, if_neg hb, if_pos hw2]
      have hbI : (M : Int) ≤ 9223372036854775687 := by omega
      clear hWK hw hb
      generalize (leF M).length = L at *
      subst hw2
      go_enter Try.func142, Try.ntmps142
      go_wp2_with (first | (go_at_call 151; refine (HJ.out _ rfl _).mono ?_; rintro e w' ⟨rfl, rfl⟩) | (go_at_call 135; refine (HW.out _).mono ?_; rintro e w' ⟨rfl, rfl⟩) | (go_at_call 134; refine (HB.out _).mono ?_; rintro e w' ⟨rfl, rfl⟩) | (go_at_call 133; refine (mirror_any _ _ (by unfold In8; omega)).mono ?_; rintro e w' ⟨rfl, rfl⟩))
      go_ret3
      exact TakeI.mk HQ.out (by show _ = -((M : Int) + 120) - 1; omega) (by omega) rfl
set_option maxHeartbeats 3200000 in
set_option maxRecDepth 100000 in
theorem takeInt_ends_high (g off cp n K : Nat) (c : UInt8) (r : List UInt8) (w : World) (hA : BRd w (some ⟨g, off, none⟩) (c :: r)) (hn : n = (c :: r).length) (n2 : n ≤ 140737488355328) (hcp : n ≤ cp) (hlow : lowB c = false) (hF : 247 + K = firstB c) (hK : 1 ≤ K) (hr : r.length < K) :
    Calls Try.prog 142 #[.slice (some ⟨g, off, none⟩) n cp] w (TakeI (c :: r) w) := by
  have HR : Hid (rdI (c :: r) = (0, 0, 30)) := by
    show rdC c r = _
    unfold rdC
    rw [← hF, if_neg (by omega), if_pos (by omega)]
  have hcl := c.toNat_lt
  obtain ⟨g', off', e, hg, hc⟩ := hA (by simp)
  obtain ⟨rfl, rfl⟩ : g = g' ∧ off = off' := by simpa using e
  have c0 := hc 0 (by simp)
  simp only [List.getElem_cons_zero, Nat.add_zero] at c0
  have n1 : 1 ≤ n := by rw [hn]; simp
  have n0 : ((n : Int) == 0) = false := by simp; omega
  have y1 : decide ((c.toNat : Int) < 128) = false := by unfold lowB at hlow; rw [← hlow]; congr 1; simp <;> omega
  have hF2 := hF
  unfold firstB at hF
  rw [hlow] at hF
  simp only [Bool.false_eq_true, if_false] at hF
  have y2 : 128 ≤ c.toNat := by simpa [lowB] using hlow
  have x1 : bits .xor .u8 (c.toNat : Int) 0 = 247 + (K : Int) := by rw [xor0 _ (by omega) (by omega)]; omega
  have k8 : K ≤ 8 := by omega
  have f2 : 247 < 247 + (K : Int) := by omega
  have f3 : 247 + (K : Int) - 247 = (K : Int) := by omega
  have f4 : (n : Int) < 1 + (K : Int) := by rw [hn]; simp; omega
  clear hF hF2 hlow y2 hA hc e hn hr
  generalize (c.toNat : Int) = ch at *
  go_enter Try.func142, Try.ntmps142
  go_wp2_with fail
  go_ret3
  exact TakeI.mk HR.out rfl rfl rfl
set_option maxHeartbeats 3200000 in
set_option maxRecDepth 100000 in
theorem takeInt_long_high (g off cp n K : Nat) (c : UInt8) (r : List UInt8) (w : World) (hA : BRd w (some ⟨g, off, none⟩) (c :: r)) (hn : n = (c :: r).length) (n2 : n ≤ 140737488355328) (hcp : n ≤ cp) (hlow : lowB c = false) (hF : 247 + K = firstB c) (hK : 1 ≤ K) (hr : K ≤ r.length) :
    Calls Try.prog 142 #[.slice (some ⟨g, off, none⟩) n cp] w (TakeI (c :: r) w) := by
  obtain ⟨M, hM⟩ : ∃ M, M = beV (turnIf false (r.take K)) := ⟨_, rfl⟩
  have hRD : rdI (c :: r) = if 9223372036854775687 < M then (0, 0, 31) else if (leF M).length = K then (numI false ((M : Int) + 120), 1 + K, 0) else (0, 0, 31) := by
    show rdC c r = _
    unfold rdC
    rw [← hF, if_neg (by omega), if_neg (by omega), hlow, show 247 + K - 247 = K by omega, ← hM]
  have hcl := c.toNat_lt
  obtain ⟨g', off', e, hg, hc⟩ := hA (by simp)
  obtain ⟨rfl, rfl⟩ : g = g' ∧ off = off' := by simpa using e
  have c0 := hc 0 (by simp)
  simp only [List.getElem_cons_zero, Nat.add_zero] at c0
  have n1 : 1 ≤ n := by rw [hn]; simp
  have n0 : ((n : Int) == 0) = false := by simp; omega
  have y1 : decide ((c.toNat : Int) < 128) = false := by unfold lowB at hlow; rw [← hlow]; congr 1; simp <;> omega
  have hF2 := hF
  unfold firstB at hF
  rw [hlow] at hF
  simp only [Bool.false_eq_true, if_false] at hF
  have y2 : 128 ≤ c.toNat := by simpa [lowB] using hlow
  have x1 : bits .xor .u8 (c.toNat : Int) 0 = 247 + (K : Int) := by rw [xor0 _ (by omega) (by omega)]; omega
  have k8 : K ≤ 8 := by omega
  have f2 : 247 < 247 + (K : Int) := by omega
  have f3 : 247 + (K : Int) - 247 = (K : Int) := by omega
  have hn2 : n = r.length + 1 := by rw [hn]; simp
  have f4 : ¬ ((n : Int) < 1 + (K : Int)) := by omega
  have hMl : M < 18446744073709551616 := by
    have h1 := beV_lt (turnIf false (r.take K))
    rw [turnIf_len, List.length_take, ← hM] at h1
    have h2 : 256 ^ min K r.length ≤ 256 ^ 8 := Nat.pow_le_pow_right (by decide) (by omega)
    omega
  have hWK : (leF M).length ≤ K := by
    have h1 := beV_lt (turnIf false (r.take K))
    rw [turnIf_len, List.length_take, ← hM, Nat.min_eq_left hr] at h1
    exact leF_le hK h1
  have HJ : Hid (∀ W, W = w → ∀ C, Calls Try.prog 151 #[.slice (some ⟨g, off + 1, none⟩) K C, .int .u8 0] W fun e w' => e = .returned (.int .u64 (M : Nat)) ∧ W = w') := by
    intro W hW C
    have h := joined_any false (some ⟨g, off + 1, none⟩) C (r.take K) W (by
      subst hW
      intro hn0
      refine ⟨g, off + 1, rfl, hg, fun i hi => ?_⟩
      have h1 := hc (i + 1) (by simp at hi ⊢; omega)
      rw [Nat.add_assoc, Nat.add_comm 1 i, h1, List.getElem_cons_succ, List.getElem_take]) (by rw [List.length_take]; omega)
    rw [List.length_take, Nat.min_eq_left hr, ← hM] at h
    exact h
  have f5 : (1 + (K : Int)).toNat - 1 = K := by omega
  have f6 : (1 : Int) + (K : Int) ≤ (cp : Int) := by omega
  have f7 : 1 < 1 + (K : Int) := by omega
  have f8 : ¬ cp = 1 := by omega
  have f9 : (1 + (K : Int)).toNat = 1 + K := by omega
  have f10 : 1 + K - 1 = K := by omega
  clear hF hF2 hlow y2 hA hc e hn hn2 hM hr
  generalize (c.toNat : Int) = ch at *
  have HW := Lib.hid (fun W => width_any M W hMl)
  have HB := Lib.hid (fun W => beyond_any 9223372036854775807 W (by decide) (by decide))
  have HD := Lib.hid hRD
  clear hRD
  have HK := Lib.hid hWK
  by_cases hw : (leF M).length < K
  · have HQ : Hid (rdI (c :: r) = (0, 0, 31)) := by
      show _ = _
      rw [HD.out]
      split
      · rfl
      · rw [if_neg (by omega)]
    clear hWK
    generalize (leF M).length = L at *
    have z1 : decide (1 + (L : Int) < 1 + (K : Int)) = true := by simp; omega
    go_enter Try.func142, Try.ntmps142
    go_wp2_with (first | (go_at_call 151; refine (HJ.out _ rfl _).mono ?_; rintro e w' ⟨rfl, rfl⟩) | (go_at_call 135; refine (HW.out _).mono ?_; rintro e w' ⟨rfl, rfl⟩))
    go_ret3
    exact TakeI.mk HQ.out rfl rfl rfl
  · have hw2 : (leF M).length = K := by omega
    have HW2 := Lib.hid hw2
    by_cases hb : 9223372036854775687 < M
    · have HQ : Hid (rdI (c :: r) = (0, 0, 31)) := by
        show _ = _
        rw [HD.out, if_pos hb]
      have hbI : (9223372036854775687 : Int) < (M : Int) := by omega
      clear hWK hw
      generalize (leF M).length = L at *
      subst hw2
      go_enter Try.func142, Try.ntmps142
      go_wp2_with (first | (go_at_call 151; refine (HJ.out _ rfl _).mono ?_; rintro e w' ⟨rfl, rfl⟩) | (go_at_call 135; refine (HW.out _).mono ?_; rintro e w' ⟨rfl, rfl⟩) | (go_at_call 134; refine (HB.out _).mono ?_; rintro e w' ⟨rfl, rfl⟩))
      go_ret3
      exact TakeI.mk HQ.out rfl rfl rfl
    · have HQ : Hid (rdI (c :: r) = (numI false ((M : Int) + 120), 1 + K, 0)) := by
        show _ = _
        rw [HD.out, if_neg hb, if_pos hw2]
      have hbI : (M : Int) ≤ 9223372036854775687 := by omega
      clear hWK hw hb
      generalize (leF M).length = L at *
      subst hw2
      go_enter Try.func142, Try.ntmps142
      go_wp2_with (first | (go_at_call 151; refine (HJ.out _ rfl _).mono ?_; rintro e w' ⟨rfl, rfl⟩) | (go_at_call 135; refine (HW.out _).mono ?_; rintro e w' ⟨rfl, rfl⟩) | (go_at_call 134; refine (HB.out _).mono ?_; rintro e w' ⟨rfl, rfl⟩))
      go_ret3
      exact TakeI.mk HQ.out (by show _ = (M : Int) + 120; omega) (by omega) rfl

theorem takeInt_any (A : Option Addr) (cp : Nat) (b : List UInt8) (w : World) (hA : BRd w A b) (hl : b.length ≤ 140737488355328) (hcp : b.length ≤ cp) :
    Calls Try.prog 142 #[.slice A b.length cp] w (TakeI b w) := by
  match b with
  | [] => exact takeInt_nil A cp w
  | c :: r =>
    obtain ⟨g, off, rfl, hg, hc⟩ := hA (by simp)
    have c0 := hc 0 (by simp)
    simp only [List.getElem_cons_zero, Nat.add_zero] at c0
    by_cases hf : firstB c < 248
    · cases hlow : lowB c
      · exact takeInt_short_high g off cp _ _ c r w c0 (by simp) hl hlow rfl hf
      · exact takeInt_short_low g off cp _ _ c r w c0 (by simp) hl hlow rfl hf
    · have hF : 247 + (firstB c - 247) = firstB c := by omega
      by_cases hr : r.length < firstB c - 247
      · cases hlow : lowB c
        · exact takeInt_ends_high g off cp _ _ c r w hA rfl hl hcp hlow hF (by omega) hr
        · exact takeInt_ends_low g off cp _ _ c r w hA rfl hl hcp hlow hF (by omega) hr
      · cases hlow : lowB c
        · exact takeInt_long_high g off cp _ _ c r w hA rfl hl hcp hlow hF (by omega) (by omega)
        · exact takeInt_long_low g off cp _ _ c r w hA rfl hl hcp hlow hF (by omega) (by omega)
end Go.Proofs.Ytellmmgiabfacaa
