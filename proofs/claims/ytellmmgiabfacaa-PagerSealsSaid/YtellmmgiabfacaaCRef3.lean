/-
  Contract of the document's ParseInt.
-/
import Derived.Test.YtellmmgiabfacaaCRef1
import Derived.Test.YtellmmgiabfacaaCTakeI
namespace Go.Proofs.Ytellmmgiabfacaa
open Go.ChangeShapes Go.WideShapes Go.ChangeAt Go.RowKit
set_option linter.unusedVariables false

def TakeI2 (b : List UInt8) (w : World) (e : Ending) (w' : World) : Prop := e = .returned (.tuple #[.int .i64 (rdI b).1, .int .i64 ((rdI b).2.1 : Int), .int .i64 (rdI b).2.2]) ∧ Below w.heap.size w w'
theorem TakeI2.mk {b : List UInt8} {n : Int} {k : Nat} {er y z : Int} {w w' : World} {e : Ending} (h : rdI b = (n, k, er)) (hy : y = n) (hz : z = (k : Int)) (he : e = .returned (.tuple #[.int .i64 y, .int .i64 z, .int .i64 er])) (hb : Below w.heap.size w w') : TakeI2 b w e w' := by
  unfold TakeI2
  rw [h]
  subst hy hz
  exact ⟨he, hb⟩
theorem beV_step (low : Bool) (l : List UInt8) (j : Nat) (h : j < l.length) : ((beV (turnIf low (l.take (j + 1))) : Nat) : Int) = ((beV (turnIf low (l.take j)) : Nat) : Int) * 256 + (if low then 255 - (l[j].toNat : Int) else (l[j].toNat : Int)) := by
  rw [List.take_succ_eq_append_getElem h]
  have e : turnIf low (l.take j ++ [l[j]]) = turnIf low (l.take j) ++ [if low then turnB l[j] else l[j]] := by
    cases low
    · rfl
    · show turnL _ = turnL _ ++ _
      rw [turn_app]; rfl
  have hc := l[j].toNat_lt
  rw [e, beV_snoc]
  cases low
  · simp
  · simp [turnB_nat]
    omega
theorem beV_small (low : Bool) (l : List UInt8) (j : Nat) (h : j < 8) : beV (turnIf low (l.take j)) ≤ 72057594037927935 := by
  have h1 := beV_lt (turnIf low (l.take j))
  rw [turnIf_len, List.length_take] at h1
  have h2 : 256 ^ min j l.length ≤ 256 ^ 7 := Nat.pow_le_pow_right (by decide) (by omega)
  omega
theorem refParse_nil (A : Option Addr) (c : Nat) (w : World) :
    Calls Try.prog 67 #[.slice A 0 c] w (TakeI2 [] w) := by
  go_enter Try.func67, Try.ntmps67
  go_wp2_with fail
  go_ret3
  exact TakeI2.mk rfl rfl rfl rfl (Below.refl _ _)
set_option maxHeartbeats 3200000 in
set_option maxRecDepth 100000 in
theorem refParse_short_low (g off cp n F : Nat) (c : UInt8) (r : List UInt8) (w : World) (c0 : w.cell? ⟨g, off, none⟩ = some (.int .u8 (c.toNat : Int))) (n1 : 1 ≤ n) (n2 : n ≤ 140737488355328) (hlow : lowB c = true) (hF : F = firstB c) (hf : F < 248) :
    Calls Try.prog 67 #[.slice (some ⟨g, off, none⟩) n cp] w (TakeI2 (c :: r) w) := by
  have HR : Hid (rdI (c :: r) = (numI true ((F : Int) - 128), 1, 0)) := by
    show rdC c r = _
    unfold rdC
    rw [← hF, if_pos hf, hlow]
  have hcl := c.toNat_lt
  have n0 : ((n : Int) == 0) = false := by simp; omega
  have y1 : decide ((c.toNat : Int) < 128) = true := by unfold lowB at hlow; rw [← hlow]; congr 1; simp <;> omega
  unfold firstB at hF
  rw [hlow] at hF
  simp only [if_true] at hF
  have y2 : c.toNat < 128 := by simpa [lowB] using hlow
  have x1 : 255 - (c.toNat : Int) = (F : Int) := by omega
  have f1 : 128 ≤ F := by omega
  have f2 : (F : Int) < 248 := by omega
  have f3 : (c.toNat : Int) ≤ 255 := by omega
  have f4 : 0 ≤ (c.toNat : Int) := by omega
  clear hF hlow y2
  generalize (c.toNat : Int) = ch at *
  go_enter Try.func67, Try.ntmps67
  go_wp2_with fail
  go_ret3
  exact TakeI2.mk HR.out (by show _ = -((F : Int) - 128) - 1; omega) rfl rfl (Below.refl _ _)
set_option maxHeartbeats 3200000 in
set_option maxRecDepth 100000 in
theorem refParse_short_high (g off cp n F : Nat) (c : UInt8) (r : List UInt8) (w : World) (c0 : w.cell? ⟨g, off, none⟩ = some (.int .u8 (c.toNat : Int))) (n1 : 1 ≤ n) (n2 : n ≤ 140737488355328) (hlow : lowB c = false) (hF : F = firstB c) (hf : F < 248) :
    Calls Try.prog 67 #[.slice (some ⟨g, off, none⟩) n cp] w (TakeI2 (c :: r) w) := by
  have HR : Hid (rdI (c :: r) = (numI false ((F : Int) - 128), 1, 0)) := by
    show rdC c r = _
    unfold rdC
    rw [← hF, if_pos hf, hlow]
  have hcl := c.toNat_lt
  have n0 : ((n : Int) == 0) = false := by simp; omega
  have y1 : decide ((c.toNat : Int) < 128) = false := by unfold lowB at hlow; rw [← hlow]; congr 1; simp <;> omega
  unfold firstB at hF
  rw [hlow] at hF
  simp only [Bool.false_eq_true, if_false] at hF
  have y2 : 128 ≤ c.toNat := by simpa [lowB] using hlow
  have x1 : (c.toNat : Int) = (F : Int) := by omega
  have f1 : 128 ≤ F := by omega
  have f2 : (F : Int) < 248 := by omega
  have f3 : (c.toNat : Int) ≤ 255 := by omega
  have f4 : 0 ≤ (c.toNat : Int) := by omega
  clear hF hlow y2
  rw [x1] at c0 y1 f3 f4; clear x1
  go_enter Try.func67, Try.ntmps67
  go_wp2_with fail
  go_ret3
  exact TakeI2.mk HR.out (by show _ = (F : Int) - 128; omega) rfl rfl (Below.refl _ _)
set_option maxHeartbeats 3200000 in
set_option maxRecDepth 100000 in
theorem refParse_ends_low (g off cp n K : Nat) (c : UInt8) (r : List UInt8) (w : World) (hA : BRd w (some ⟨g, off, none⟩) (c :: r)) (hn : n = (c :: r).length) (n2 : n ≤ 140737488355328) (hlow : lowB c = true) (hF : 247 + K = firstB c) (hK : 1 ≤ K) (hr : r.length < K) :
    Calls Try.prog 67 #[.slice (some ⟨g, off, none⟩) n cp] w (TakeI2 (c :: r) w) := by
  have HR : Hid (rdI (c :: r) = (0, 0, 30)) := by
    show rdC c r = _
    unfold rdC
    rw [← hF, if_neg (by omega), if_pos (by omega)]
  have hcl := c.toNat_lt
  obtain ⟨g', off', e, hg, hc⟩ := hA (by simp)
  obtain ⟨rfl, rfl⟩ : g = g' ∧ off = off' := by simpa using e
  have c0 := hc 0 (by simp)
  simp only [List.getElem_cons_zero, Nat.add_zero] at c0
  have n1 : 1 ≤ n := by rw [hn]; simp
  have n0 : ((n : Int) == 0) = false := by simp; omega
  have y1 : decide ((c.toNat : Int) < 128) = true := by unfold lowB at hlow; rw [← hlow]; congr 1; simp <;> omega
  have hF2 := hF
  unfold firstB at hF
  rw [hlow] at hF
  simp only [if_true] at hF
  have y2 : c.toNat < 128 := by simpa [lowB] using hlow
  have x1 : 255 - (c.toNat : Int) = 247 + (K : Int) := by omega
  have k8 : K ≤ 8 := by omega
  have f2 : ¬ (247 + (K : Int) < 248) := by omega
  have f3 : 247 + (K : Int) - 247 = (K : Int) := by omega
  have z3 : (c.toNat : Int) ≤ 255 := by omega
  have z4 : 0 ≤ (c.toNat : Int) := by omega
  have f4 : (n : Int) < 1 + (K : Int) := by rw [hn]; simp; omega
  clear hF hF2 hlow y2 hA hc e hn hr
  generalize (c.toNat : Int) = ch at *
  go_enter Try.func67, Try.ntmps67
  go_wp2_with fail
  go_ret3
  exact TakeI2.mk HR.out rfl rfl rfl (Below.refl _ _)
set_option maxHeartbeats 6400000 in
set_option maxRecDepth 100000 in
theorem refParse_long_low (g off cp n K : Nat) (c : UInt8) (r : List UInt8) (w : World) (hA : BRd w (some ⟨g, off, none⟩) (c :: r)) (hn : n = (c :: r).length) (n2 : n ≤ 140737488355328) (hlow : lowB c = true) (hF : 247 + K = firstB c) (hK : 1 ≤ K) (hr : K ≤ r.length) :
    Calls Try.prog 67 #[.slice (some ⟨g, off, none⟩) n cp] w (TakeI2 (c :: r) w) := by
  obtain ⟨M, hM⟩ : ∃ M, M = beV (turnIf true (r.take K)) := ⟨_, rfl⟩
  have hRD : rdI (c :: r) = if 9223372036854775687 < M then (0, 0, 31) else if (leF M).length = K then (numI true ((M : Int) + 120), 1 + K, 0) else (0, 0, 31) := by
    show rdC c r = _
    unfold rdC
    rw [← hF, if_neg (by omega), if_neg (by omega), hlow, show 247 + K - 247 = K by omega, ← hM]
  have hcl := c.toNat_lt
  obtain ⟨g', off', e, hg, hc⟩ := hA (by simp)
  obtain ⟨rfl, rfl⟩ : g = g' ∧ off = off' := by simpa using e
  have c0 := hc 0 (by simp)
  simp only [List.getElem_cons_zero, Nat.add_zero] at c0
  have n1 : 1 ≤ n := by rw [hn]; simp
  have n0 : ((n : Int) == 0) = false := by simp; omega
  have y1 : decide ((c.toNat : Int) < 128) = true := by unfold lowB at hlow; rw [← hlow]; congr 1; simp <;> omega
  have hF2 := hF
  unfold firstB at hF
  rw [hlow] at hF
  simp only [if_true] at hF
  have y2 : c.toNat < 128 := by simpa [lowB] using hlow
  have x1 : 255 - (c.toNat : Int) = 247 + (K : Int) := by omega
  have k8 : K ≤ 8 := by omega
  have f2 : ¬ (247 + (K : Int) < 248) := by omega
  have f3 : 247 + (K : Int) - 247 = (K : Int) := by omega
  have z3 : (c.toNat : Int) ≤ 255 := by omega
  have z4 : 0 ≤ (c.toNat : Int) := by omega
  have hn2 : n = r.length + 1 := by rw [hn]; simp
  have f4 : ¬ ((n : Int) < 1 + (K : Int)) := by omega
  have hMl : M < 18446744073709551616 := by
    have h1 := beV_lt (turnIf true (r.take K))
    rw [turnIf_len, List.length_take, ← hM] at h1
    have h2 : 256 ^ min K r.length ≤ 256 ^ 8 := Nat.pow_le_pow_right (by decide) (by omega)
    omega
  have HCC : Hid (∀ j, (h : j < r.length) → w.cell? ⟨g, off + (j + 1), none⟩ = some (.int .u8 (r[j].toNat : Int))) := by
    intro j h
    have h1 := hc (j + 1) (by simp; omega)
    rwa [List.getElem_cons_succ] at h1
  have kn : K + 1 ≤ n := by omega
  have HM := Lib.hid hM
  have HR := Lib.hid hr
  clear hF hF2 hlow y2 hA hc e hn hn2 hM hr
  generalize (c.toNat : Int) = ch at *
  have HD := Lib.hid hRD
  have HML := Lib.hid hMl
  clear hRD hMl
  go_enter Try.func67, Try.ntmps67
  go_wp2_with fail
  go_loop [9, 10] (fun m i => ∃ j : Nat, j ≤ K ∧ i = .int .i64 ((j : Int) + 1) ∧ m = .int .u64 (beV (turnIf true (r.take j)) : Nat)) (fun _ i => K + 1 - (intOf i).toNat)
  case atStart => exact ⟨0, by omega, rfl, rfl⟩
  case round =>
    obtain ⟨j, hj, rfl, rfl⟩ := hrel
    by_cases hjK : j < K
    · have hjr : j < r.length := by have := HR.out; omega
      have cj := HCC.out j hjr
      have HS := Lib.hid (beV_step true r j hjr)
      have hsm := beV_small true r j (by omega)
      have hrl := r[j].toNat_lt
      have q1 : (j : Int) + 1 ≤ (K : Int) := by omega
      have q2 : (0 : Int) ≤ (j : Int) + 1 := by omega
      have q3 : (j : Int) + 1 < (n : Int) := by omega
      have q4 : (r[j].toNat : Int) ≤ 255 := by omega
      have q5 : 0 ≤ (r[j].toNat : Int) := by omega
      simp only [if_true] at HS
      generalize (r[j].toNat : Int) = cx at *
      generalize beV (turnIf true (r.take j)) = M0 at *
      go_wp2_with fail
      go_round
      case rel => exact ⟨j + 1, by omega, by go_num, by rw [HS.out]⟩
      case measure => simp [intOf]; omega
    · obtain rfl : j = K := by omega
      have hjI : ¬ ((j : Int) + 1 ≤ (j : Int)) := by omega
      rw [← HM.out]
      have hML2 := HML.out
      by_cases hb : 9223372036854775687 < M
      · have HQ : Hid (rdI (c :: r) = (0, 0, 31)) := by
          show _ = _
          rw [HD.out, if_pos hb]
        have hbI : (9223372036854775687 : Int) < (M : Int) := by omega
        go_wp2_with fail
        go_ret3
        exact TakeI2.mk HQ.out rfl rfl rfl (Below.refl _ _)
      · have hbI : (M : Int) ≤ 9223372036854775687 := by omega
        have hEL : (encI (-((M : Int) + 120) - 1)).length = 1 + (leF M).length := by
          rw [show -((M : Int) + 120) - 1 = numI true ((M + 120 : Nat) : Int) from rfl, enc_numI, turnIf_len, up_big (by omega), List.length_cons, List.length_reverse, Nat.add_sub_cancel, Nat.add_comm]
        have hl8 : (leF M).length ≤ 8 := leF_le (by decide) (by omega)
        have HE : Hid (∀ W, Calls Try.prog 63 #[.int .i64 (-((M : Int) + 120) - 1)] W (Fresh (encI (-((M : Int) + 120) - 1)) W)) := by
          show ∀ W, _
          intro W
          exact refInt_any _ W (by unfold In8; omega)
        have HLL := Lib.hid hEL
        have HDD := Lib.hid hb
        clear hEL hb
        generalize hL : (leF M).length = L at *
        have HLK := Lib.hid hL
        clear hL
        go_wp2_with fail
        refine (HE.out _).mono ?_
        rintro e w1 ⟨v1, rfl, hown1, hb1⟩
        obtain ⟨a1, cap1, rfl, _, _⟩ := hown1.slice
        have HB := Lib.hid hb1
        rw [HLL.out]
        clear hown1 hb1
        by_cases hLK : L = j
        · subst hLK
          have HQ : Hid (rdI (c :: r) = (numI true ((M : Int) + 120), 1 + L, 0)) := by
            show _ = _
            rw [HD.out, if_neg HDD.out, if_pos rfl]
          go_wp2_with fail
          go_ret3
          exact TakeI2.mk HQ.out rfl (by omega) rfl HB.out
        · have HQ : Hid (rdI (c :: r) = (0, 0, 31)) := by
            show _ = _
            rw [HD.out, if_neg HDD.out, if_neg hLK]
          have hne : ((1 + (L : Int)) == 1 + (j : Int)) = false := by simp; omega
          have hne2 : ((1 + (L : Int)) != 1 + (j : Int)) = true := by simp; omega
          have hne3 : (L : Int) ≠ (j : Int) := by omega
          clear hLK
          go_wp2_with fail
          go_ret3
          exact TakeI2.mk HQ.out rfl rfl rfl HB.out
set_option maxHeartbeats 3200000 in
set_option maxRecDepth 100000 in
theorem refParse_ends_high (g off cp n K : Nat) (c : UInt8) (r : List UInt8) (w : World) (hA : BRd w (some ⟨g, off, none⟩) (c :: r)) (hn : n = (c :: r).length) (n2 : n ≤ 140737488355328) (hlow : lowB c = false) (hF : 247 + K = firstB c) (hK : 1 ≤ K) (hr : r.length < K) :
    Calls Try.prog 67 #[.slice (some ⟨g, off, none⟩) n cp] w (TakeI2 (c :: r) w) := by
  have HR : Hid (rdI (c :: r) = (0, 0, 30)) := by
    show rdC c r = _
    unfold rdC
    rw [← hF, if_neg (by omega), if_pos (by omega)]
  have hcl := c.toNat_lt
  obtain ⟨g', off', e, hg, hc⟩ := hA (by simp)
  obtain ⟨rfl, rfl⟩ : g = g' ∧ off = off' := by simpa using e
  have c0 := hc 0 (by simp)
  simp only [List.getElem_cons_zero, Nat.add_zero] at c0
  have n1 : 1 ≤ n := by rw [hn]; simp
  have n0 : ((n : Int) == 0) = false := by simp; omega
  have y1 : decide ((c.toNat : Int) < 128) = false := by unfold lowB at hlow; rw [← hlow]; congr 1; simp <;> omega
  have hF2 := hF
  unfold firstB at hF
  rw [hlow] at hF
  simp only [Bool.false_eq_true, if_false] at hF
  have y2 : 128 ≤ c.toNat := by simpa [lowB] using hlow
  have x1 : (c.toNat : Int) = 247 + (K : Int) := by omega
  have k8 : K ≤ 8 := by omega
  have f2 : ¬ (247 + (K : Int) < 248) := by omega
  have f3 : 247 + (K : Int) - 247 = (K : Int) := by omega
  have z3 : (c.toNat : Int) ≤ 255 := by omega
  have z4 : 0 ≤ (c.toNat : Int) := by omega
  have f4 : (n : Int) < 1 + (K : Int) := by rw [hn]; simp; omega
  clear hF hF2 hlow y2 hA hc e hn hr
  rw [x1] at c0 y1 z3 z4; clear x1
  go_enter Try.func67, Try.ntmps67
  go_wp2_with fail
  go_ret3
  exact TakeI2.mk HR.out rfl rfl rfl (Below.refl _ _)
set_option maxHeartbeats 6400000 in
set_option maxRecDepth 100000 in
theorem refParse_long_high (g off cp n K : Nat) (c : UInt8) (r : List UInt8) (w : World) (hA : BRd w (some ⟨g, off, none⟩) (c :: r)) (hn : n = (c :: r).length) (n2 : n ≤ 140737488355328) (hlow : lowB c = false) (hF : 247 + K = firstB c) (hK : 1 ≤ K) (hr : K ≤ r.length) :
    Calls Try.prog 67 #[.slice (some ⟨g, off, none⟩) n cp] w (TakeI2 (c :: r) w) := by
  obtain ⟨M, hM⟩ : ∃ M, M = beV (turnIf false (r.take K)) := ⟨_, rfl⟩
  have hRD : rdI (c :: r) = if 9223372036854775687 < M then (0, 0, 31) else if (leF M).length = K then (numI false ((M : Int) + 120), 1 + K, 0) else (0, 0, 31) := by
    show rdC c r = _
    unfold rdC
    rw [← hF, if_neg (by omega), if_neg (by omega), hlow, show 247 + K - 247 = K by omega, ← hM]
  have hcl := c.toNat_lt
  obtain ⟨g', off', e, hg, hc⟩ := hA (by simp)
  obtain ⟨rfl, rfl⟩ : g = g' ∧ off = off' := by simpa using e
  have c0 := hc 0 (by simp)
  simp only [List.getElem_cons_zero, Nat.add_zero] at c0
  have n1 : 1 ≤ n := by rw [hn]; simp
  have n0 : ((n : Int) == 0) = false := by simp; omega
  have y1 : decide ((c.toNat : Int) < 128) = false := by unfold lowB at hlow; rw [← hlow]; congr 1; simp <;> omega
  have hF2 := hF
  unfold firstB at hF
  rw [hlow] at hF
  simp only [Bool.false_eq_true, if_false] at hF
  have y2 : 128 ≤ c.toNat := by simpa [lowB] using hlow
  have x1 : (c.toNat : Int) = 247 + (K : Int) := by omega
  have k8 : K ≤ 8 := by omega
  have f2 : ¬ (247 + (K : Int) < 248) := by omega
  have f3 : 247 + (K : Int) - 247 = (K : Int) := by omega
  have z3 : (c.toNat : Int) ≤ 255 := by omega
  have z4 : 0 ≤ (c.toNat : Int) := by omega
  have hn2 : n = r.length + 1 := by rw [hn]; simp
  have f4 : ¬ ((n : Int) < 1 + (K : Int)) := by omega
  have hMl : M < 18446744073709551616 := by
    have h1 := beV_lt (turnIf false (r.take K))
    rw [turnIf_len, List.length_take, ← hM] at h1
    have h2 : 256 ^ min K r.length ≤ 256 ^ 8 := Nat.pow_le_pow_right (by decide) (by omega)
    omega
  have HCC : Hid (∀ j, (h : j < r.length) → w.cell? ⟨g, off + (j + 1), none⟩ = some (.int .u8 (r[j].toNat : Int))) := by
    intro j h
    have h1 := hc (j + 1) (by simp; omega)
    rwa [List.getElem_cons_succ] at h1
  have kn : K + 1 ≤ n := by omega
  have HM := Lib.hid hM
  have HR := Lib.hid hr
  clear hF hF2 hlow y2 hA hc e hn hn2 hM hr
  rw [x1] at c0 y1 z3 z4; clear x1
  have HD := Lib.hid hRD
  have HML := Lib.hid hMl
  clear hRD hMl
  go_enter Try.func67, Try.ntmps67
  go_wp2_with fail
  go_loop [9, 10] (fun m i => ∃ j : Nat, j ≤ K ∧ i = .int .i64 ((j : Int) + 1) ∧ m = .int .u64 (beV (turnIf false (r.take j)) : Nat)) (fun _ i => K + 1 - (intOf i).toNat)
  case atStart => exact ⟨0, by omega, rfl, rfl⟩
  case round =>
    obtain ⟨j, hj, rfl, rfl⟩ := hrel
    by_cases hjK : j < K
    · have hjr : j < r.length := by have := HR.out; omega
      have cj := HCC.out j hjr
      have HS := Lib.hid (beV_step false r j hjr)
      have hsm := beV_small false r j (by omega)
      have hrl := r[j].toNat_lt
      have q1 : (j : Int) + 1 ≤ (K : Int) := by omega
      have q2 : (0 : Int) ≤ (j : Int) + 1 := by omega
      have q3 : (j : Int) + 1 < (n : Int) := by omega
      have q4 : (r[j].toNat : Int) ≤ 255 := by omega
      have q5 : 0 ≤ (r[j].toNat : Int) := by omega
      simp only [Bool.false_eq_true, if_false] at HS
      generalize (r[j].toNat : Int) = cx at *
      generalize beV (turnIf false (r.take j)) = M0 at *
      go_wp2_with fail
      go_round
      case rel => exact ⟨j + 1, by omega, by go_num, by rw [HS.out]⟩
      case measure => simp [intOf]; omega
    · obtain rfl : j = K := by omega
      have hjI : ¬ ((j : Int) + 1 ≤ (j : Int)) := by omega
      rw [← HM.out]
      have hML2 := HML.out
      by_cases hb : 9223372036854775687 < M
      · have HQ : Hid (rdI (c :: r) = (0, 0, 31)) := by
          show _ = _
          rw [HD.out, if_pos hb]
        have hbI : (9223372036854775687 : Int) < (M : Int) := by omega
        go_wp2_with fail
        go_ret3
        exact TakeI2.mk HQ.out rfl rfl rfl (Below.refl _ _)
      · have hbI : (M : Int) ≤ 9223372036854775687 := by omega
        have hEL : (encI ((M : Int) + 120)).length = 1 + (leF M).length := by
          rw [show (M : Int) + 120 = numI false ((M + 120 : Nat) : Int) from rfl, enc_numI, turnIf_len, up_big (by omega), List.length_cons, List.length_reverse, Nat.add_sub_cancel, Nat.add_comm]
        have hl8 : (leF M).length ≤ 8 := leF_le (by decide) (by omega)
        have HE : Hid (∀ W, Calls Try.prog 63 #[.int .i64 ((M : Int) + 120)] W (Fresh (encI ((M : Int) + 120)) W)) := by
          show ∀ W, _
          intro W
          exact refInt_any _ W (by unfold In8; omega)
        have HLL := Lib.hid hEL
        have HDD := Lib.hid hb
        clear hEL hb
        generalize hL : (leF M).length = L at *
        have HLK := Lib.hid hL
        clear hL
        go_wp2_with fail
        refine (HE.out _).mono ?_
        rintro e w1 ⟨v1, rfl, hown1, hb1⟩
        obtain ⟨a1, cap1, rfl, _, _⟩ := hown1.slice
        have HB := Lib.hid hb1
        rw [HLL.out]
        clear hown1 hb1
        by_cases hLK : L = j
        · subst hLK
          have HQ : Hid (rdI (c :: r) = (numI false ((M : Int) + 120), 1 + L, 0)) := by
            show _ = _
            rw [HD.out, if_neg HDD.out, if_pos rfl]
          go_wp2_with fail
          go_ret3
          exact TakeI2.mk HQ.out rfl (by omega) rfl HB.out
        · have HQ : Hid (rdI (c :: r) = (0, 0, 31)) := by
            show _ = _
            rw [HD.out, if_neg HDD.out, if_neg hLK]
          have hne : ((1 + (L : Int)) == 1 + (j : Int)) = false := by simp; omega
          have hne2 : ((1 + (L : Int)) != 1 + (j : Int)) = true := by simp; omega
          have hne3 : (L : Int) ≠ (j : Int) := by omega
          clear hLK
          go_wp2_with fail
          go_ret3
          exact TakeI2.mk HQ.out rfl rfl rfl HB.out

theorem refParse_any (A : Option Addr) (cp : Nat) (b : List UInt8) (w : World) (hA : BRd w A b) (hl : b.length ≤ 140737488355328) :
    Calls Try.prog 67 #[.slice A b.length cp] w (TakeI2 b w) := by
  match b with
  | [] => exact refParse_nil A cp w
  | c :: r =>
    obtain ⟨g, off, rfl, hg, hc⟩ := hA (by simp)
    have c0 := hc 0 (by simp)
    simp only [List.getElem_cons_zero, Nat.add_zero] at c0
    by_cases hf : firstB c < 248
    · cases hlow : lowB c
      · exact refParse_short_high g off cp _ _ c r w c0 (by simp) hl hlow rfl hf
      · exact refParse_short_low g off cp _ _ c r w c0 (by simp) hl hlow rfl hf
    · have hF : 247 + (firstB c - 247) = firstB c := by omega
      by_cases hr : r.length < firstB c - 247
      · cases hlow : lowB c
        · exact refParse_ends_high g off cp _ _ c r w hA rfl hl hlow hF (by omega) hr
        · exact refParse_ends_low g off cp _ _ c r w hA rfl hl hlow hF (by omega) hr
      · cases hlow : lowB c
        · exact refParse_long_high g off cp _ _ c r w hA rfl hl hlow hF (by omega) (by omega)
        · exact refParse_long_low g off cp _ _ c r w hA rfl hl hlow hF (by omega) (by omega)
end Go.Proofs.Ytellmmgiabfacaa
