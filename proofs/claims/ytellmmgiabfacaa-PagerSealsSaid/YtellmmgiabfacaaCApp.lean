/-
  Contract of codec.appendInt.
-/
import Derived.Test.YtellmmgiabfacaaCInt
namespace Go.Proofs.Ytellmmgiabfacaa
open Go.ChangeShapes Go.WideShapes Go.ChangeAt Go.RowKit
set_option linter.unusedVariables false

/-- The bytes of a long form, one by one. -/
theorem enc_long (n : Int) (low : Bool) (u : Nat) (h : 120 ≤ u) (hu : u < 9223372036854775808) (e : n = numI low u) :
    encI n = turnIf low (UInt8.ofNat (247 + (leF (u - 120)).length) :: (leF (u - 120)).reverse) := by
  rw [e, enc_numI, up_big (by omega)]
theorem turnIf_app (low : Bool) (a b : List UInt8) : turnIf low (a ++ b) = turnIf low a ++ turnIf low b := by
  cases low
  · rfl
  · exact turn_app a b
theorem turn_one (low : Bool) (c d : UInt8) (h : (d.toNat : Int) = if low then 255 - (c.toNat : Int) else c.toNat) : turnIf low [c] = [d] := by
  cases low
  · have : d = c := UInt8.toNat_inj.1 (by simp at h; omega)
    rw [this]; rfl
  · have : d = turnB c := UInt8.toNat_inj.1 (by rw [turnB_nat]; simp at h; have := c.toNat_lt; omega)
    rw [this]; rfl
/-- The j-th digit, turned if it is to be. -/
def dig (low : Bool) (M j : Nat) : UInt8 := if low then UInt8.ofNat (255 - M / 256 ^ j % 256) else UInt8.ofNat (M / 256 ^ j % 256)
theorem dig_nat (low : Bool) (M j : Nat) : (dig low M j).toNat = if low then 255 - M / 256 ^ j % 256 else M / 256 ^ j % 256 := by
  unfold dig
  split <;> rw [UInt8.toNat_ofNat'] <;> omega
theorem long_step (low : Bool) (C : UInt8) (l : List UInt8) (M k i j : Nat) (hk : k = (leF M).length) (hi : i < k) (hj : j = k - 1 - i) :
    l ++ turnIf low (C :: (leF M).reverse.take i) ++ [dig low M j] = l ++ turnIf low (C :: (leF M).reverse.take (i + 1)) := by
  have hl : i < (leF M).reverse.length := by rw [List.length_reverse]; omega
  rw [List.take_succ_eq_append_getElem hl, ← List.cons_append, turnIf_app, List.append_assoc]
  congr 2
  refine (turn_one low _ _ ?_).symm
  have hr := leF_rev M i (by omega)
  simp only [← hk, ← hj] at hr
  have h256 : M / 256 ^ j % 256 < 256 := Nat.mod_lt _ (by decide)
  rw [dig_nat, hr]
  cases low
  · simp
  · simp only [if_true]; omega
theorem dig_low (M j : Nat) (X : Int) (h : X = ((M / 256 ^ j : Nat) : Int)) : bits .xor .u8 (X % 256) 0 = ((dig false M j).toNat : Int) := by
  rw [xor0 _ (by omega) (by omega), dig_nat, h]
  simp
theorem dig_low7 (M j : Nat) (X : Int) (h0 : X ≤ 255) (h : X = ((M / 256 ^ j : Nat) : Int)) : bits .xor .u8 X 0 = ((dig false M j).toNat : Int) := by
  rw [← dig_low M j X h]
  have hx : 0 ≤ X := by rw [h]; exact Int.natCast_nonneg _
  congr 1
  omega
theorem dig_high (M j : Nat) (X : Int) (h : X = ((M / 256 ^ j : Nat) : Int)) : bits .xor .u8 (X % 256) 255 = ((dig true M j).toNat : Int) := by
  have h256 : M / 256 ^ j % 256 < 256 := Nat.mod_lt _ (by decide)
  rw [xor255 _ (by omega) (by omega), dig_nat, h]
  simp only [if_true]
  omega
theorem dig_high7 (M j : Nat) (X : Int) (h0 : X ≤ 255) (h : X = ((M / 256 ^ j : Nat) : Int)) : bits .xor .u8 X 255 = ((dig true M j).toNat : Int) := by
  rw [← dig_high M j X h]
  have hx : 0 ≤ X := by rw [h]; exact Int.natCast_nonneg _
  congr 1
  omega

set_option maxHeartbeats 3200000 in
set_option maxRecDepth 100000 in
theorem appendInt_pos (B : Nat) (v : Value) (l : List UInt8) (n : Int) (w : World) (h0 : 120 ≤ n) (h1 : n ≤ 9223372036854775807) (hown : OwnB w B v l) (hB : B ≤ w.heap.size) (hlim : l.length + 9 ≤ 140737488355328) :
    Calls Try.prog 104 #[v, .int .i64 n] w (AppPost B v l (encI n) w) := by
  obtain ⟨k, hk⟩ : ∃ k, k = (leF (n - 120).toNat).length := ⟨_, rfl⟩
  have k8 : k ≤ 8 := by rw [hk]; exact leF_le (by decide) (by omega)
  have k1 : 1 ≤ k := by rw [hk]; exact (leF_facts _).1
  have HW : Hid (∀ W, Calls Try.prog 135 #[.int .u64 (n - 120)] W fun e w' => e = .returned (.int .i64 (k : Int)) ∧ W = w') := by
    show ∀ W, _
    intro W; rw [hk]; exact width_int _ _ (by omega) (by omega)
  have HE : Hid (encI n = turnIf false (UInt8.ofNat (247 + k) :: (leF (n - 120).toNat).reverse)) := by
    show _ = _
    rw [enc_long n false n.toNat (by omega) (by omega) (by show n = ((n.toNat : Nat) : Int); omega), hk, show n.toNat - 120 = (n - 120).toNat by omega]
  have HK := Lib.hid hk
  clear hk
  have HO := Lib.hid hown
  clear hown
  have H1C : Hid (turnIf false [UInt8.ofNat (247 + k)] = [(dig false (247 + k) 0)]) := by
    show _ = _
    refine turn_one _ _ _ ?_
    rw [dig_nat, UInt8.toNat_ofNat']
    simp <;> omega
  have HC : Hid (bits .xor .u8 (247 + (k : Int)) 0 = (((dig false (247 + k) 0)).toNat : Int)) := by
    show _ = _
    rw [xor0 _ (by omega) (by omega), dig_nat]
    simp <;> omega
  go_enter Try.func104, Try.ntmps104
  go_wp2_with (first | (go_at_call 134; refine (beyond_any _ _ (by omega) (by omega)).mono ?_; rintro e w' ⟨rfl, rfl⟩) | (go_at_call 135; refine (HW.out _).mono ?_; rintro e w' ⟨rfl, rfl⟩) | (at_builtin; refine wpList_byte rfl _ _ rfl B v l _ HC.out rfl rfl HO.out hB (by omega) ?_; intro v1 w1 hown1 hg1; refine Hid.out ?_))
  refine Lib.hid ?_
  have H1 := Lib.hid hown1
  have G1 := Lib.hid hg1
  clear hown1 hg1
  go_wp2_with fail
  go_loopw [0, 36] (fun b idx wr => ∃ i : Nat, i ≤ k ∧ idx = .int .i64 i ∧ OwnB wr B b (l ++ turnIf false (UInt8.ofNat (247 + k) :: (leF (n - 120).toNat).reverse.take i)) ∧ Grw w wr v b) (fun _ idx _ => k - (intOf idx).toNat)
  case atStart => exact ⟨0, by omega, rfl, by rw [List.take_zero, H1C.out]; exact H1.out, G1.out⟩
  case round =>
    obtain ⟨i, hi, rfl, hown2, hg2⟩ := hrel
    have hO2 := Lib.hid hown2
    have hG2 := Lib.hid hg2
    clear hown2 hg2
    have hlen : Hid ((l ++ turnIf false (UInt8.ofNat (247 + k) :: (leF (n - 120).toNat).reverse.take i)).length ≤ l.length + 1 + i) := by
      show _ ≤ _
      rw [List.length_append, turnIf_len, List.length_cons, List.length_take]; omega
    by_cases hik : i < k
    · obtain ⟨j, hj⟩ : ∃ j, j = k - 1 - i := ⟨_, rfl⟩
      have HST := Lib.hid (long_step false (UInt8.ofNat (247 + k)) l (n - 120).toNat k i j HK.out hik hj)
      have hBr : B ≤ wr.heap.size := Nat.le_trans hB hG2.out.by_.size
      rcases eight_of j (by omega) with rfl | rfl | rfl | rfl | rfl | rfl | rfl | rfl
      · have e : (k : Int) - 1 - (i : Int) = 0 := by omega
        have HZ := Lib.hid (dig_low (n - 120).toNat 0 (n - 120) (by omega))
        clear hj
        go_wp2_with (at_builtin; go_loud (refine wpList_byte rfl _ _ rfl B u0 _ _ HZ.out rfl rfl hO2.out hBr (by have := hlen.out; omega) ?_); intro v2 w2 hown2 hg2; refine Hid.out ?_)
        refine Lib.hid ?_
        rw [HST.out] at hown2
        have hg3 := Lib.hid (Grw.trans hG2.out hg2)
        have hown3 := Lib.hid hown2
        clear hg2 hown2
        go_wp2_with fail
        go_roundw
        case rel => exact ⟨i + 1, by omega, by go_num, hown3.out, hg3.out⟩
        case measure => simp [intOf]; omega
      · have e : (k : Int) - 1 - (i : Int) = 1 := by omega
        have HZ := Lib.hid (dig_low (n - 120).toNat 1 ((n - 120) / 256) (by omega))
        clear hj
        go_wp2_with (at_builtin; go_loud (refine wpList_byte rfl _ _ rfl B u0 _ _ HZ.out rfl rfl hO2.out hBr (by have := hlen.out; omega) ?_); intro v2 w2 hown2 hg2; refine Hid.out ?_)
        refine Lib.hid ?_
        rw [HST.out] at hown2
        have hg3 := Lib.hid (Grw.trans hG2.out hg2)
        have hown3 := Lib.hid hown2
        clear hg2 hown2
        go_wp2_with fail
        go_roundw
        case rel => exact ⟨i + 1, by omega, by go_num, hown3.out, hg3.out⟩
        case measure => simp [intOf]; omega
      · have e : (k : Int) - 1 - (i : Int) = 2 := by omega
        have HZ := Lib.hid (dig_low (n - 120).toNat 2 ((n - 120) / 65536) (by omega))
        clear hj
        go_wp2_with (at_builtin; go_loud (refine wpList_byte rfl _ _ rfl B u0 _ _ HZ.out rfl rfl hO2.out hBr (by have := hlen.out; omega) ?_); intro v2 w2 hown2 hg2; refine Hid.out ?_)
        refine Lib.hid ?_
        rw [HST.out] at hown2
        have hg3 := Lib.hid (Grw.trans hG2.out hg2)
        have hown3 := Lib.hid hown2
        clear hg2 hown2
        go_wp2_with fail
        go_roundw
        case rel => exact ⟨i + 1, by omega, by go_num, hown3.out, hg3.out⟩
        case measure => simp [intOf]; omega
      · have e : (k : Int) - 1 - (i : Int) = 3 := by omega
        have HZ := Lib.hid (dig_low (n - 120).toNat 3 ((n - 120) / 16777216) (by omega))
        clear hj
        go_wp2_with (at_builtin; go_loud (refine wpList_byte rfl _ _ rfl B u0 _ _ HZ.out rfl rfl hO2.out hBr (by have := hlen.out; omega) ?_); intro v2 w2 hown2 hg2; refine Hid.out ?_)
        refine Lib.hid ?_
        rw [HST.out] at hown2
        have hg3 := Lib.hid (Grw.trans hG2.out hg2)
        have hown3 := Lib.hid hown2
        clear hg2 hown2
        go_wp2_with fail
        go_roundw
        case rel => exact ⟨i + 1, by omega, by go_num, hown3.out, hg3.out⟩
        case measure => simp [intOf]; omega
      · have e : (k : Int) - 1 - (i : Int) = 4 := by omega
        have HZ := Lib.hid (dig_low (n - 120).toNat 4 ((n - 120) / 4294967296) (by omega))
        clear hj
        go_wp2_with (at_builtin; go_loud (refine wpList_byte rfl _ _ rfl B u0 _ _ HZ.out rfl rfl hO2.out hBr (by have := hlen.out; omega) ?_); intro v2 w2 hown2 hg2; refine Hid.out ?_)
        refine Lib.hid ?_
        rw [HST.out] at hown2
        have hg3 := Lib.hid (Grw.trans hG2.out hg2)
        have hown3 := Lib.hid hown2
        clear hg2 hown2
        go_wp2_with fail
        go_roundw
        case rel => exact ⟨i + 1, by omega, by go_num, hown3.out, hg3.out⟩
        case measure => simp [intOf]; omega
      · have e : (k : Int) - 1 - (i : Int) = 5 := by omega
        have HZ := Lib.hid (dig_low (n - 120).toNat 5 ((n - 120) / 1099511627776) (by omega))
        clear hj
        go_wp2_with (at_builtin; go_loud (refine wpList_byte rfl _ _ rfl B u0 _ _ HZ.out rfl rfl hO2.out hBr (by have := hlen.out; omega) ?_); intro v2 w2 hown2 hg2; refine Hid.out ?_)
        refine Lib.hid ?_
        rw [HST.out] at hown2
        have hg3 := Lib.hid (Grw.trans hG2.out hg2)
        have hown3 := Lib.hid hown2
        clear hg2 hown2
        go_wp2_with fail
        go_roundw
        case rel => exact ⟨i + 1, by omega, by go_num, hown3.out, hg3.out⟩
        case measure => simp [intOf]; omega
      · have e : (k : Int) - 1 - (i : Int) = 6 := by omega
        have HZ := Lib.hid (dig_low (n - 120).toNat 6 ((n - 120) / 281474976710656) (by omega))
        clear hj
        go_wp2_with (at_builtin; go_loud (refine wpList_byte rfl _ _ rfl B u0 _ _ HZ.out rfl rfl hO2.out hBr (by have := hlen.out; omega) ?_); intro v2 w2 hown2 hg2; refine Hid.out ?_)
        refine Lib.hid ?_
        rw [HST.out] at hown2
        have hg3 := Lib.hid (Grw.trans hG2.out hg2)
        have hown3 := Lib.hid hown2
        clear hg2 hown2
        go_wp2_with fail
        go_roundw
        case rel => exact ⟨i + 1, by omega, by go_num, hown3.out, hg3.out⟩
        case measure => simp [intOf]; omega
      · have e : (k : Int) - 1 - (i : Int) = 7 := by omega
        have HZ := Lib.hid (dig_low7 (n - 120).toNat 7 ((n - 120) / 72057594037927936) (by omega) (by omega))
        clear hj
        go_wp2_with (at_builtin; go_loud (refine wpList_byte rfl _ _ rfl B u0 _ _ HZ.out rfl rfl hO2.out hBr (by have := hlen.out; omega) ?_); intro v2 w2 hown2 hg2; refine Hid.out ?_)
        refine Lib.hid ?_
        rw [HST.out] at hown2
        have hg3 := Lib.hid (Grw.trans hG2.out hg2)
        have hown3 := Lib.hid hown2
        clear hg2 hown2
        go_wp2_with fail
        go_roundw
        case rel => exact ⟨i + 1, by omega, by go_num, hown3.out, hg3.out⟩
        case measure => simp [intOf]; omega
    · obtain rfl : i = k := by omega
      have HL : Hid (turnIf false (UInt8.ofNat (247 + i) :: (leF (n - 120).toNat).reverse.take i) = encI n) := by
        show _ = _
        rw [HE.out, List.take_of_length_le (by rw [List.length_reverse, ← HK.out]; omega)]
      have hikI : ¬ (i : Int) < (i : Int) := by omega
      go_wp2_with fail
      go_ret
      exact ⟨_, rfl, by rw [← HL.out]; exact hO2.out, hG2.out⟩

set_option maxHeartbeats 3200000 in
set_option maxRecDepth 100000 in
theorem appendInt_neg (B : Nat) (v : Value) (l : List UInt8) (n : Int) (w : World) (h0 : n ≤ -121) (h1 : -9223372036854775808 ≤ n) (hown : OwnB w B v l) (hB : B ≤ w.heap.size) (hlim : l.length + 9 ≤ 140737488355328) :
    Calls Try.prog 104 #[v, .int .i64 n] w (AppPost B v l (encI n) w) := by
  obtain ⟨k, hk⟩ : ∃ k, k = (leF (-n - 1 - 120).toNat).length := ⟨_, rfl⟩
  have k8 : k ≤ 8 := by rw [hk]; exact leF_le (by decide) (by omega)
  have k1 : 1 ≤ k := by rw [hk]; exact (leF_facts _).1
  have HW : Hid (∀ W, Calls Try.prog 135 #[.int .u64 (-n - 1 - 120)] W fun e w' => e = .returned (.int .i64 (k : Int)) ∧ W = w') := by
    show ∀ W, _
    intro W; rw [hk]; exact width_int _ _ (by omega) (by omega)
  have HE : Hid (encI n = turnIf true (UInt8.ofNat (247 + k) :: (leF (-n - 1 - 120).toNat).reverse)) := by
    show _ = _
    rw [enc_long n true (-n - 1).toNat (by omega) (by omega) (by show n = -(((-n - 1).toNat : Nat) : Int) - 1; omega), hk, show (-n - 1).toNat - 120 = (-n - 1 - 120).toNat by omega]
  have HK := Lib.hid hk
  clear hk
  have HO := Lib.hid hown
  clear hown
  have H1C : Hid (turnIf true [UInt8.ofNat (247 + k)] = [(dig true (247 + k) 0)]) := by
    show _ = _
    refine turn_one _ _ _ ?_
    rw [dig_nat, UInt8.toNat_ofNat']
    simp <;> omega
  have HC : Hid (bits .xor .u8 (247 + (k : Int)) 255 = (((dig true (247 + k) 0)).toNat : Int)) := by
    show _ = _
    rw [xor255 _ (by omega) (by omega), dig_nat]
    simp <;> omega
  go_enter Try.func104, Try.ntmps104
  go_wp2_with (first | (go_at_call 133; refine (mirror_any n _ (by unfold In8; omega)).mono ?_; rintro e w' ⟨rfl, rfl⟩) | (go_at_call 134; refine (beyond_any _ _ (by omega) (by omega)).mono ?_; rintro e w' ⟨rfl, rfl⟩) | (go_at_call 135; refine (HW.out _).mono ?_; rintro e w' ⟨rfl, rfl⟩) | (at_builtin; refine wpList_byte rfl _ _ rfl B v l _ HC.out rfl rfl HO.out hB (by omega) ?_; intro v1 w1 hown1 hg1; refine Hid.out ?_))
  refine Lib.hid ?_
  have H1 := Lib.hid hown1
  have G1 := Lib.hid hg1
  clear hown1 hg1
  go_wp2_with fail
  go_loopw [0, 36] (fun b idx wr => ∃ i : Nat, i ≤ k ∧ idx = .int .i64 i ∧ OwnB wr B b (l ++ turnIf true (UInt8.ofNat (247 + k) :: (leF (-n - 1 - 120).toNat).reverse.take i)) ∧ Grw w wr v b) (fun _ idx _ => k - (intOf idx).toNat)
  case atStart => exact ⟨0, by omega, rfl, by rw [List.take_zero, H1C.out]; exact H1.out, G1.out⟩
  case round =>
    obtain ⟨i, hi, rfl, hown2, hg2⟩ := hrel
    have hO2 := Lib.hid hown2
    have hG2 := Lib.hid hg2
    clear hown2 hg2
    have hlen : Hid ((l ++ turnIf true (UInt8.ofNat (247 + k) :: (leF (-n - 1 - 120).toNat).reverse.take i)).length ≤ l.length + 1 + i) := by
      show _ ≤ _
      rw [List.length_append, turnIf_len, List.length_cons, List.length_take]; omega
    by_cases hik : i < k
    · obtain ⟨j, hj⟩ : ∃ j, j = k - 1 - i := ⟨_, rfl⟩
      have HST := Lib.hid (long_step true (UInt8.ofNat (247 + k)) l (-n - 1 - 120).toNat k i j HK.out hik hj)
      have hBr : B ≤ wr.heap.size := Nat.le_trans hB hG2.out.by_.size
      rcases eight_of j (by omega) with rfl | rfl | rfl | rfl | rfl | rfl | rfl | rfl
      · have e : (k : Int) - 1 - (i : Int) = 0 := by omega
        have HZ := Lib.hid (dig_high (-n - 1 - 120).toNat 0 (-n - 1 - 120) (by omega))
        clear hj
        go_wp2_with (at_builtin; go_loud (refine wpList_byte rfl _ _ rfl B u0 _ _ HZ.out rfl rfl hO2.out hBr (by have := hlen.out; omega) ?_); intro v2 w2 hown2 hg2; refine Hid.out ?_)
        refine Lib.hid ?_
        rw [HST.out] at hown2
        have hg3 := Lib.hid (Grw.trans hG2.out hg2)
        have hown3 := Lib.hid hown2
        clear hg2 hown2
        go_wp2_with fail
        go_roundw
        case rel => exact ⟨i + 1, by omega, by go_num, hown3.out, hg3.out⟩
        case measure => simp [intOf]; omega
      · have e : (k : Int) - 1 - (i : Int) = 1 := by omega
        have HZ := Lib.hid (dig_high (-n - 1 - 120).toNat 1 ((-n - 1 - 120) / 256) (by omega))
        clear hj
        go_wp2_with (at_builtin; go_loud (refine wpList_byte rfl _ _ rfl B u0 _ _ HZ.out rfl rfl hO2.out hBr (by have := hlen.out; omega) ?_); intro v2 w2 hown2 hg2; refine Hid.out ?_)
        refine Lib.hid ?_
        rw [HST.out] at hown2
        have hg3 := Lib.hid (Grw.trans hG2.out hg2)
        have hown3 := Lib.hid hown2
        clear hg2 hown2
        go_wp2_with fail
        go_roundw
        case rel => exact ⟨i + 1, by omega, by go_num, hown3.out, hg3.out⟩
        case measure => simp [intOf]; omega
      · have e : (k : Int) - 1 - (i : Int) = 2 := by omega
        have HZ := Lib.hid (dig_high (-n - 1 - 120).toNat 2 ((-n - 1 - 120) / 65536) (by omega))
        clear hj
        go_wp2_with (at_builtin; go_loud (refine wpList_byte rfl _ _ rfl B u0 _ _ HZ.out rfl rfl hO2.out hBr (by have := hlen.out; omega) ?_); intro v2 w2 hown2 hg2; refine Hid.out ?_)
        refine Lib.hid ?_
        rw [HST.out] at hown2
        have hg3 := Lib.hid (Grw.trans hG2.out hg2)
        have hown3 := Lib.hid hown2
        clear hg2 hown2
        go_wp2_with fail
        go_roundw
        case rel => exact ⟨i + 1, by omega, by go_num, hown3.out, hg3.out⟩
        case measure => simp [intOf]; omega
      · have e : (k : Int) - 1 - (i : Int) = 3 := by omega
        have HZ := Lib.hid (dig_high (-n - 1 - 120).toNat 3 ((-n - 1 - 120) / 16777216) (by omega))
        clear hj
        go_wp2_with (at_builtin; go_loud (refine wpList_byte rfl _ _ rfl B u0 _ _ HZ.out rfl rfl hO2.out hBr (by have := hlen.out; omega) ?_); intro v2 w2 hown2 hg2; refine Hid.out ?_)
        refine Lib.hid ?_
        rw [HST.out] at hown2
        have hg3 := Lib.hid (Grw.trans hG2.out hg2)
        have hown3 := Lib.hid hown2
        clear hg2 hown2
        go_wp2_with fail
        go_roundw
        case rel => exact ⟨i + 1, by omega, by go_num, hown3.out, hg3.out⟩
        case measure => simp [intOf]; omega
      · have e : (k : Int) - 1 - (i : Int) = 4 := by omega
        have HZ := Lib.hid (dig_high (-n - 1 - 120).toNat 4 ((-n - 1 - 120) / 4294967296) (by omega))
        clear hj
        go_wp2_with (at_builtin; go_loud (refine wpList_byte rfl _ _ rfl B u0 _ _ HZ.out rfl rfl hO2.out hBr (by have := hlen.out; omega) ?_); intro v2 w2 hown2 hg2; refine Hid.out ?_)
        refine Lib.hid ?_
        rw [HST.out] at hown2
        have hg3 := Lib.hid (Grw.trans hG2.out hg2)
        have hown3 := Lib.hid hown2
        clear hg2 hown2
        go_wp2_with fail
        go_roundw
        case rel => exact ⟨i + 1, by omega, by go_num, hown3.out, hg3.out⟩
        case measure => simp [intOf]; omega
      · have e : (k : Int) - 1 - (i : Int) = 5 := by omega
        have HZ := Lib.hid (dig_high (-n - 1 - 120).toNat 5 ((-n - 1 - 120) / 1099511627776) (by omega))
        clear hj
        go_wp2_with (at_builtin; go_loud (refine wpList_byte rfl _ _ rfl B u0 _ _ HZ.out rfl rfl hO2.out hBr (by have := hlen.out; omega) ?_); intro v2 w2 hown2 hg2; refine Hid.out ?_)
        refine Lib.hid ?_
        rw [HST.out] at hown2
        have hg3 := Lib.hid (Grw.trans hG2.out hg2)
        have hown3 := Lib.hid hown2
        clear hg2 hown2
        go_wp2_with fail
        go_roundw
        case rel => exact ⟨i + 1, by omega, by go_num, hown3.out, hg3.out⟩
        case measure => simp [intOf]; omega
      · have e : (k : Int) - 1 - (i : Int) = 6 := by omega
        have HZ := Lib.hid (dig_high (-n - 1 - 120).toNat 6 ((-n - 1 - 120) / 281474976710656) (by omega))
        clear hj
        go_wp2_with (at_builtin; go_loud (refine wpList_byte rfl _ _ rfl B u0 _ _ HZ.out rfl rfl hO2.out hBr (by have := hlen.out; omega) ?_); intro v2 w2 hown2 hg2; refine Hid.out ?_)
        refine Lib.hid ?_
        rw [HST.out] at hown2
        have hg3 := Lib.hid (Grw.trans hG2.out hg2)
        have hown3 := Lib.hid hown2
        clear hg2 hown2
        go_wp2_with fail
        go_roundw
        case rel => exact ⟨i + 1, by omega, by go_num, hown3.out, hg3.out⟩
        case measure => simp [intOf]; omega
      · have e : (k : Int) - 1 - (i : Int) = 7 := by omega
        have HZ := Lib.hid (dig_high7 (-n - 1 - 120).toNat 7 ((-n - 1 - 120) / 72057594037927936) (by omega) (by omega))
        clear hj
        go_wp2_with (at_builtin; go_loud (refine wpList_byte rfl _ _ rfl B u0 _ _ HZ.out rfl rfl hO2.out hBr (by have := hlen.out; omega) ?_); intro v2 w2 hown2 hg2; refine Hid.out ?_)
        refine Lib.hid ?_
        rw [HST.out] at hown2
        have hg3 := Lib.hid (Grw.trans hG2.out hg2)
        have hown3 := Lib.hid hown2
        clear hg2 hown2
        go_wp2_with fail
        go_roundw
        case rel => exact ⟨i + 1, by omega, by go_num, hown3.out, hg3.out⟩
        case measure => simp [intOf]; omega
    · obtain rfl : i = k := by omega
      have HL : Hid (turnIf true (UInt8.ofNat (247 + i) :: (leF (-n - 1 - 120).toNat).reverse.take i) = encI n) := by
        show _ = _
        rw [HE.out, List.take_of_length_le (by rw [List.length_reverse, ← HK.out]; omega)]
      have hikI : ¬ (i : Int) < (i : Int) := by omega
      go_wp2_with fail
      go_ret
      exact ⟨_, rfl, by rw [← HL.out]; exact hO2.out, hG2.out⟩

theorem enc_short (n : Int) (low : Bool) (u : Nat) (h : u < 120) (e : n = numI low u) : encI n = turnIf low [UInt8.ofNat (128 + u)] := by
  rw [e, enc_numI, up_small h]
set_option maxHeartbeats 1600000 in
set_option maxRecDepth 100000 in
theorem appendInt_any (B : Nat) (v : Value) (l : List UInt8) (n : Int) (w : World) (hn : In8 n) (hown : OwnB w B v l) (hB : B ≤ w.heap.size) (hlim : l.length + 9 ≤ 140737488355328) :
    Calls Try.prog 104 #[v, .int .i64 n] w (AppPost B v l (encI n) w) := by
  unfold In8 at hn
  by_cases h0 : n < 0
  · by_cases h1 : n ≤ -121
    · exact appendInt_neg B v l n w h1 hn.1 hown hB hlim
    · have HE : Hid (encI n = [dig true (128 + (-n - 1).toNat) 0]) := by
        show _ = _
        rw [enc_short n true (-n - 1).toNat (by omega) (by show n = -(((-n - 1).toNat : Nat) : Int) - 1; omega)]
        refine turn_one _ _ _ ?_
        rw [dig_nat, UInt8.toNat_ofNat']
        simp <;> omega
      have HC : Hid (bits .xor .u8 (128 + (-n - 1)) 255 = ((dig true (128 + (-n - 1).toNat) 0).toNat : Int)) := by
        show _ = _
        rw [xor255 _ (by omega) (by omega), dig_nat]
        simp <;> omega
      have HO := Lib.hid hown
      clear hown
      go_enter Try.func104, Try.ntmps104
      go_wp2_with (first | (go_at_call 133; refine (mirror_any n _ (by unfold In8; omega)).mono ?_; rintro e w' ⟨rfl, rfl⟩) | (at_builtin; refine wpList_byte rfl _ _ rfl B v l _ HC.out rfl rfl HO.out hB (by omega) ?_; intro v1 w1 hown1 hg1; refine Hid.out ?_))
      refine Lib.hid ?_
      rw [← HE.out] at hown1
      go_wp2_with fail
      go_ret
      exact ⟨_, rfl, hown1, hg1⟩
  · by_cases h1 : 120 ≤ n
    · exact appendInt_pos B v l n w h1 hn.2 hown hB hlim
    · have HE : Hid (encI n = [dig false (128 + n.toNat) 0]) := by
        show _ = _
        rw [enc_short n false n.toNat (by omega) (by show n = ((n.toNat : Nat) : Int); omega)]
        refine turn_one _ _ _ ?_
        rw [dig_nat, UInt8.toNat_ofNat']
        simp <;> omega
      have HC : Hid (bits .xor .u8 (128 + n) 0 = ((dig false (128 + n.toNat) 0).toNat : Int)) := by
        show _ = _
        rw [xor0 _ (by omega) (by omega), dig_nat]
        simp <;> omega
      have HO := Lib.hid hown
      clear hown
      go_enter Try.func104, Try.ntmps104
      go_wp2_with (at_builtin; refine wpList_byte rfl _ _ rfl B v l _ HC.out rfl rfl HO.out hB (by omega) ?_; intro v1 w1 hown1 hg1; refine Hid.out ?_)
      refine Lib.hid ?_
      rw [← HE.out] at hown1
      go_wp2_with fail
      go_ret
      exact ⟨_, rfl, hown1, hg1⟩
end Go.Proofs.Ytellmmgiabfacaa
