/-
  Contracts of ParseDay: the program's and the document's answer.
-/
import Derived.Test.YtogdkhnakenbcaaGreatDoorInts
import Derived.Test.YtogdkhnakenbcaaGreatDoorDay
import Derived.Deep.QuietTactic
import Derived.BigQuiet
namespace Go.Proofs.YtogdkhnakenbcaaGreatDoor
open Go.ChangeShapes Go.WideShapes Go.ChangeAt Go.RowKit
open Cal
set_option linter.unusedVariables false

def dN (y m d : Int) : Int := if vld y m d then dayNum y m d else 0
def dX (y m d : Int) : Int := if vld y m d then 0 else 13
theorem day_any (y m d : Int) (w : World) (hL : MLaid w) : Calls Tryz.prog 105 #[.int .i64 y, .int .i64 m, .int .i64 d] w fun e w' => e = .returned (.tuple #[.int .i64 (dN y m d), .int .i64 (dX y m d)]) ∧ w = w' := by
  by_cases h : vld y m d
  · rw [dN, dX, if_pos h, if_pos h]; exact day_yes y m d w hL h
  · rw [dN, dX, if_neg h, if_neg h]; exact day_no y m d w hL h
theorem refDay_any (y m d : Int) (w : World) : Calls Tryz.prog 79 #[.int .i64 y, .int .i64 m, .int .i64 d] w fun e w' => e = .returned (.tuple #[.int .i64 (dN y m d), .int .i64 (dX y m d)]) ∧ w = w' := by
  by_cases h : vld y m d
  · rw [dN, dX, if_pos h, if_pos h]; exact refDay_yes y m d w h
  · rw [dN, dX, if_neg h, if_neg h]; exact refDay_no y m d w h

def dayY (l : List UInt8) : List UInt8 := l.take 4
def dayM (l : List UInt8) : List UInt8 := (l.drop 5).take 2
def dayD (l : List UInt8) : List UInt8 := l.drop 8
/-- Has it a date's form? -/
def dayForm (l : List UInt8) : Bool := decide (l.length = 10) && (decide (l[4]? = some 45) && (decide (l[7]? = some 45) && (digitsB (dayY l) && (digitsB (dayM l) && digitsB (dayD l)))))
def tV (l : List UInt8) : Int := if dayForm l = true then dN (valD (dayY l)) (valD (dayM l)) (valD (dayD l)) else 0
def tE (l : List UInt8) : Int := if dayForm l = true then dX (valD (dayY l)) (valD (dayM l)) (valD (dayD l)) else 12
theorem t_bad {l : List UInt8} (h : dayForm l = false) : tV l = 0 ∧ tE l = 12 := by simp [tV, tE, h]
theorem t_form {l : List UInt8} (h : dayForm l = true) : tV l = dN (valD (dayY l)) (valD (dayM l)) (valD (dayD l)) ∧ tE l = dX (valD (dayY l)) (valD (dayM l)) (valD (dayD l)) := by simp [tV, tE, h]
theorem byte45 {u : List UInt8} {k : Nat} (h : k < u.length) : u[k]? = some 45 ↔ (u[k].toNat : Int) = 45 := by
  rw [List.getElem?_eq_getElem h]
  constructor
  · intro e
    have e' : u[k] = 45 := by simpa using e
    rw [e']; rfl
  · intro e
    have e2 : u[k].toNat = 45 := by omega
    have e3 : u[k] = 45 := UInt8.toNat_inj.1 e2
    rw [e3]
theorem day_cuts {l : List UInt8} (h : l.length = 10) : (⟨l.toArray⟩ : ByteArray).extract 0 4 = ⟨(dayY l).toArray⟩ ∧ (⟨l.toArray⟩ : ByteArray).extract 5 7 = ⟨(dayM l).toArray⟩ ∧ (⟨l.toArray⟩ : ByteArray).extract 8 10 = ⟨(dayD l).toArray⟩ ∧ (⟨l.toArray⟩ : ByteArray).extract 8 l.length = ⟨(dayD l).toArray⟩ ∧ (dayY l).length = 4 ∧ (dayM l).length = 2 ∧ (dayD l).length = 2 := by
  refine ⟨?_, ?_, ?_, ?_, ?_, ?_, ?_⟩
  · rw [bytes_ext]; simp [dayY]
  · rw [bytes_ext]; simp [dayM]
  · rw [bytes_ext, List.take_of_length_le (by simp; omega)]; rfl
  · rw [bytes_ext, List.take_of_length_le (by simp)]; rfl
  · simp [dayY]; omega
  · simp [dayM]; omega
  · simp [dayD]; omega
theorem allD4 (l : List UInt8) (b : Bool) (hd : digitsB l = b) (hl : l.length ≤ 4) (W : World) :
    Calls Tryz.prog 102 #[.string ⟨l.toArray⟩] W fun e w' => e = .returned (.bool b) ∧ W = w' := by
  have h := allDigits_any l (by omega) W; rwa [hd] at h
theorem read4 (l : List UInt8) (M : Nat) (n : Nat) (hd : digitsB l = true) (hl : l.length ≤ n) (hn : n ≤ 4) (h9 : 9 ≤ M) (hM : 10 ^ n ≤ M + 1) (hM2 : M ≤ 9999) (W : World) :
    Calls Tryz.prog 78 #[.string ⟨l.toArray⟩, .int .u64 M] W fun e w' => e = .returned (.tuple #[.int .u64 (valD l), .bool true]) ∧ W = w' :=
  read_yes l M (digits_all hd).2 (by omega) h9 (by omega) (by have := valD_lt l (digits_all hd).2 n hl; omega) W
theorem refDigits4 (l : List UInt8) (b : Bool) (hd : digitsB l = b) (hl : l.length ≤ 4) (W : World) :
    Calls Tryz.prog 77 #[.string ⟨l.toArray⟩] W fun e w' => e = .returned (.bool b) ∧ W = w' := refDig l b hd (by omega) W

set_option maxHeartbeats 800000 in
theorem parseDay_a (l : List UInt8) (hl : l.length ≤ 140737488355328) (w : World) (hL : MLaid w) (h10 : ¬ l.length = 10) :
    Calls Tryz.prog 75 #[.string ⟨l.toArray⟩] w fun e w' => e = .returned (.tuple #[.int .i64 (tV l), .int .i64 (tE l)]) ∧ Below w.heap.size w w' := by
  obtain ⟨z1, z2⟩ := t_bad (l := l) (by simp [dayForm, h10])
  have Z1 := Lib.hid z1
  have Z2 := Lib.hid z2
  have i10 : ¬ (l.length : Int) = 10 := by omega
  clear z1 z2
  clear hL
  go_enter Tryz.func75, Tryz.ntmps75
  go_wp2
  go_ret2
  exact ⟨ret_pair Z1.out.symm Z2.out.symm, Below.refl _ _⟩

set_option maxHeartbeats 800000 in
theorem parseDay_b (l : List UInt8) (hl : l.length ≤ 140737488355328) (w : World) (hL : MLaid w) (h10 : l.length = 10) (h4 : ¬ l[4]? = some 45) :
    Calls Tryz.prog 75 #[.string ⟨l.toArray⟩] w fun e w' => e = .returned (.tuple #[.int .i64 (tV l), .int .i64 (tE l)]) ∧ Below w.heap.size w w' := by
  obtain ⟨z1, z2⟩ := t_bad (l := l) (by simp [dayForm, h4])
  have Z1 := Lib.hid z1
  have Z2 := Lib.hid z2
  have i10 : (l.length : Int) = 10 := by omega
  have hs4 : 4 < (⟨l.toArray⟩ : ByteArray).size := by rw [bytes_size]; omega
  have hs7 : 7 < (⟨l.toArray⟩ : ByteArray).size := by rw [bytes_size]; omega
  have c4 : ¬ ((⟨l.toArray⟩ : ByteArray)[4].toNat : Int) = 45 := mt (byte45 (u := l) (by omega)).2 h4
  clear z1 z2 h4
  clear hL
  go_enter Tryz.func75, Tryz.ntmps75
  go_wp2
  go_ret2
  exact ⟨ret_pair Z1.out.symm Z2.out.symm, Below.refl _ _⟩

set_option maxHeartbeats 800000 in
theorem parseDay_c (l : List UInt8) (hl : l.length ≤ 140737488355328) (w : World) (hL : MLaid w) (h10 : l.length = 10) (h4 : l[4]? = some 45) (h7 : ¬ l[7]? = some 45) :
    Calls Tryz.prog 75 #[.string ⟨l.toArray⟩] w fun e w' => e = .returned (.tuple #[.int .i64 (tV l), .int .i64 (tE l)]) ∧ Below w.heap.size w w' := by
  obtain ⟨z1, z2⟩ := t_bad (l := l) (by simp [dayForm, h7])
  have Z1 := Lib.hid z1
  have Z2 := Lib.hid z2
  have i10 : (l.length : Int) = 10 := by omega
  have hs4 : 4 < (⟨l.toArray⟩ : ByteArray).size := by rw [bytes_size]; omega
  have hs7 : 7 < (⟨l.toArray⟩ : ByteArray).size := by rw [bytes_size]; omega
  have c4 : ((⟨l.toArray⟩ : ByteArray)[4].toNat : Int) = 45 := (byte45 (u := l) (by omega)).1 h4
  have c7 : ¬ ((⟨l.toArray⟩ : ByteArray)[7].toNat : Int) = 45 := mt (byte45 (u := l) (by omega)).2 h7
  clear z1 z2 h4 h7
  clear hL
  go_enter Tryz.func75, Tryz.ntmps75
  go_wp2
  go_ret2
  exact ⟨ret_pair Z1.out.symm Z2.out.symm, Below.refl _ _⟩

set_option maxHeartbeats 800000 in
theorem parseDay_d (l : List UInt8) (hl : l.length ≤ 140737488355328) (w : World) (hL : MLaid w) (h10 : l.length = 10) (h4 : l[4]? = some 45) (h7 : l[7]? = some 45) (hy : digitsB (dayY l) = false) :
    Calls Tryz.prog 75 #[.string ⟨l.toArray⟩] w fun e w' => e = .returned (.tuple #[.int .i64 (tV l), .int .i64 (tE l)]) ∧ Below w.heap.size w w' := by
  obtain ⟨z1, z2⟩ := t_bad (l := l) (by simp [dayForm, hy])
  have Z1 := Lib.hid z1
  have Z2 := Lib.hid z2
  have i10 : (l.length : Int) = 10 := by omega
  have hs4 : 4 < (⟨l.toArray⟩ : ByteArray).size := by rw [bytes_size]; omega
  have hs7 : 7 < (⟨l.toArray⟩ : ByteArray).size := by rw [bytes_size]; omega
  have c4 : ((⟨l.toArray⟩ : ByteArray)[4].toNat : Int) = 45 := (byte45 (u := l) (by omega)).1 h4
  have c7 : ((⟨l.toArray⟩ : ByteArray)[7].toNat : Int) = 45 := (byte45 (u := l) (by omega)).1 h7
  obtain ⟨E1, E2, E3, E4, L1, L2, L3⟩ := day_cuts h10
  have HA := allD4 (dayY l) false hy (by omega)
  clear z1 z2 h4 h7 hy
  clear hL
  generalize dayY l = Y at *
  generalize dayM l = M at *
  generalize dayD l = D at *
  go_enter Tryz.func75, Tryz.ntmps75
  go_wp2
  go_quiet (fail)
  go_wp2_with fail
  refine (HA _).mono ?_
  rintro e w2 ⟨rfl, rfl⟩
  go_wp2
  go_ret2
  exact ⟨ret_pair Z1.out.symm Z2.out.symm, below_drewN (Below.refl _ _) _⟩

set_option maxHeartbeats 800000 in
theorem parseDay_e (l : List UInt8) (hl : l.length ≤ 140737488355328) (w : World) (hL : MLaid w) (h10 : l.length = 10) (h4 : l[4]? = some 45) (h7 : l[7]? = some 45) (hy : digitsB (dayY l) = true) (hm : digitsB (dayM l) = false) :
    Calls Tryz.prog 75 #[.string ⟨l.toArray⟩] w fun e w' => e = .returned (.tuple #[.int .i64 (tV l), .int .i64 (tE l)]) ∧ Below w.heap.size w w' := by
  obtain ⟨z1, z2⟩ := t_bad (l := l) (by simp [dayForm, hm])
  have Z1 := Lib.hid z1
  have Z2 := Lib.hid z2
  have i10 : (l.length : Int) = 10 := by omega
  have hs4 : 4 < (⟨l.toArray⟩ : ByteArray).size := by rw [bytes_size]; omega
  have hs7 : 7 < (⟨l.toArray⟩ : ByteArray).size := by rw [bytes_size]; omega
  have c4 : ((⟨l.toArray⟩ : ByteArray)[4].toNat : Int) = 45 := (byte45 (u := l) (by omega)).1 h4
  have c7 : ((⟨l.toArray⟩ : ByteArray)[7].toNat : Int) = 45 := (byte45 (u := l) (by omega)).1 h7
  obtain ⟨E1, E2, E3, E4, L1, L2, L3⟩ := day_cuts h10
  have HA := allD4 (dayY l) true hy (by omega)
  have HB := allD4 (dayM l) false hm (by omega)
  clear z1 z2 h4 h7 hy hm
  clear hL
  generalize dayY l = Y at *
  generalize dayM l = M at *
  generalize dayD l = D at *
  go_enter Tryz.func75, Tryz.ntmps75
  go_wp2
  go_quiet (fail)
  go_wp2_with fail
  refine (HA _).mono ?_
  rintro e w2 ⟨rfl, rfl⟩
  go_wp2_with fail
  refine (HB _).mono ?_
  rintro e w2 ⟨rfl, rfl⟩
  go_wp2
  go_ret2
  exact ⟨ret_pair Z1.out.symm Z2.out.symm, below_drewN (Below.refl _ _) _⟩

set_option maxHeartbeats 800000 in
theorem parseDay_f (l : List UInt8) (hl : l.length ≤ 140737488355328) (w : World) (hL : MLaid w) (h10 : l.length = 10) (h4 : l[4]? = some 45) (h7 : l[7]? = some 45) (hy : digitsB (dayY l) = true) (hm : digitsB (dayM l) = true) (hd : digitsB (dayD l) = false) :
    Calls Tryz.prog 75 #[.string ⟨l.toArray⟩] w fun e w' => e = .returned (.tuple #[.int .i64 (tV l), .int .i64 (tE l)]) ∧ Below w.heap.size w w' := by
  obtain ⟨z1, z2⟩ := t_bad (l := l) (by simp [dayForm, hd])
  have Z1 := Lib.hid z1
  have Z2 := Lib.hid z2
  have i10 : (l.length : Int) = 10 := by omega
  have hs4 : 4 < (⟨l.toArray⟩ : ByteArray).size := by rw [bytes_size]; omega
  have hs7 : 7 < (⟨l.toArray⟩ : ByteArray).size := by rw [bytes_size]; omega
  have c4 : ((⟨l.toArray⟩ : ByteArray)[4].toNat : Int) = 45 := (byte45 (u := l) (by omega)).1 h4
  have c7 : ((⟨l.toArray⟩ : ByteArray)[7].toNat : Int) = 45 := (byte45 (u := l) (by omega)).1 h7
  obtain ⟨E1, E2, E3, E4, L1, L2, L3⟩ := day_cuts h10
  have HA := allD4 (dayY l) true hy (by omega)
  have HB := allD4 (dayM l) true hm (by omega)
  have HC := allD4 (dayD l) false hd (by omega)
  clear z1 z2 h4 h7 hy hm hd
  clear hL
  generalize dayY l = Y at *
  generalize dayM l = M at *
  generalize dayD l = D at *
  go_enter Tryz.func75, Tryz.ntmps75
  go_wp2
  go_quiet (fail)
  go_wp2_with fail
  refine (HA _).mono ?_
  rintro e w2 ⟨rfl, rfl⟩
  go_wp2_with fail
  refine (HB _).mono ?_
  rintro e w2 ⟨rfl, rfl⟩
  go_wp2_with fail
  refine (HC _).mono ?_
  rintro e w2 ⟨rfl, rfl⟩
  go_wp2
  go_ret2
  exact ⟨ret_pair Z1.out.symm Z2.out.symm, below_drewN (Below.refl _ _) _⟩

set_option maxHeartbeats 800000 in
theorem parseDay_g (l : List UInt8) (hl : l.length ≤ 140737488355328) (w : World) (hL : MLaid w) (h10 : l.length = 10) (h4 : l[4]? = some 45) (h7 : l[7]? = some 45) (hy : digitsB (dayY l) = true) (hm : digitsB (dayM l) = true) (hd : digitsB (dayD l) = true) :
    Calls Tryz.prog 75 #[.string ⟨l.toArray⟩] w fun e w' => e = .returned (.tuple #[.int .i64 (tV l), .int .i64 (tE l)]) ∧ Below w.heap.size w w' := by
  obtain ⟨z1, z2⟩ := t_form (l := l) (by unfold dayForm; rw [decide_eq_true h10, decide_eq_true h4, decide_eq_true h7, hy, hm, hd]; rfl)
  have Z1 := Lib.hid z1
  have Z2 := Lib.hid z2
  have i10 : (l.length : Int) = 10 := by omega
  have hs4 : 4 < (⟨l.toArray⟩ : ByteArray).size := by rw [bytes_size]; omega
  have hs7 : 7 < (⟨l.toArray⟩ : ByteArray).size := by rw [bytes_size]; omega
  have c4 : ((⟨l.toArray⟩ : ByteArray)[4].toNat : Int) = 45 := (byte45 (u := l) (by omega)).1 h4
  have c7 : ((⟨l.toArray⟩ : ByteArray)[7].toNat : Int) = 45 := (byte45 (u := l) (by omega)).1 h7
  obtain ⟨E1, E2, E3, E4, L1, L2, L3⟩ := day_cuts h10
  have HA := allD4 (dayY l) true hy (by omega)
  have HB := allD4 (dayM l) true hm (by omega)
  have HC := allD4 (dayD l) true hd (by omega)
  have R1 := smallNumber_any (dayY l) (digits_all hy).2 (by omega)
  have R2 := smallNumber_any (dayM l) (digits_all hm).2 (by omega)
  have R3 := smallNumber_any (dayD l) (digits_all hd).2 (by omega)
  have RD := fun W => fun hW => day_any (valD (dayY l)) (valD (dayM l)) (valD (dayD l)) W hW
  have hL := Lib.hid hL
  clear z1 z2 h4 h7 hy hm hd
  generalize valD (dayY l) = y at *
  generalize valD (dayM l) = m at *
  generalize valD (dayD l) = d at *
  generalize dayY l = Y at *
  generalize dayM l = M at *
  generalize dayD l = D at *
  go_enter Tryz.func75, Tryz.ntmps75
  go_wp2
  go_quiet (fail)
  go_wp2_with fail
  refine (HA _).mono ?_
  rintro e w2 ⟨rfl, rfl⟩
  go_wp2_with fail
  refine (HB _).mono ?_
  rintro e w2 ⟨rfl, rfl⟩
  go_wp2_with fail
  refine (HC _).mono ?_
  rintro e w2 ⟨rfl, rfl⟩
  go_wp2_with fail
  refine (R1 _).mono ?_
  rintro e w2 ⟨rfl, rfl⟩
  go_wp2_with fail
  refine (R2 _).mono ?_
  rintro e w2 ⟨rfl, rfl⟩
  go_wp2_with fail
  refine (R3 _).mono ?_
  rintro e w2 ⟨rfl, rfl⟩
  go_wp2_with fail
  refine (RD _ (by first | exact hL.out | exact fun m h1 h2 => hL.out m h1 h2)).mono ?_
  rintro e w2 ⟨rfl, rfl⟩
  go_wp2
  go_ret2
  exact ⟨ret_pair Z1.out.symm Z2.out.symm, below_drewN (Below.refl _ _) _⟩

theorem parseDay_any (l : List UInt8) (hl : l.length ≤ 140737488355328) (w : World) (hL : MLaid w) :
    Calls Tryz.prog 75 #[.string ⟨l.toArray⟩] w fun e w' => e = .returned (.tuple #[.int .i64 (tV l), .int .i64 (tE l)]) ∧ Below w.heap.size w w' := by
  by_cases h10 : l.length = 10
  · by_cases h4 : l[4]? = some 45
    · by_cases h7 : l[7]? = some 45
      · cases hy : digitsB (dayY l)
        · exact parseDay_d l hl w hL h10 h4 h7 hy
        · cases hm : digitsB (dayM l)
          · exact parseDay_e l hl w hL h10 h4 h7 hy hm
          · cases hd : digitsB (dayD l)
            · exact parseDay_f l hl w hL h10 h4 h7 hy hm hd
            · exact parseDay_g l hl w hL h10 h4 h7 hy hm hd
      · exact parseDay_c l hl w hL h10 h4 h7
    · exact parseDay_b l hl w hL h10 h4
  · exact parseDay_a l hl w hL h10

set_option maxHeartbeats 800000 in
theorem refParseDay_a (l : List UInt8) (hl : l.length ≤ 140737488355328) (w : World) (h10 : ¬ l.length = 10) :
    Calls Tryz.prog 51 #[.string ⟨l.toArray⟩] w fun e w' => e = .returned (.tuple #[.int .i64 (tV l), .int .i64 (tE l)]) ∧ w = w' := by
  obtain ⟨z1, z2⟩ := t_bad (l := l) (by simp [dayForm, h10])
  have Z1 := Lib.hid z1
  have Z2 := Lib.hid z2
  have i10 : ¬ (l.length : Int) = 10 := by omega
  clear z1 z2
  go_enter Tryz.func51, Tryz.ntmps51
  go_wp2
  go_ret2
  exact ⟨ret_pair Z1.out.symm Z2.out.symm, rfl⟩

set_option maxHeartbeats 800000 in
theorem refParseDay_b (l : List UInt8) (hl : l.length ≤ 140737488355328) (w : World) (h10 : l.length = 10) (h4 : ¬ l[4]? = some 45) :
    Calls Tryz.prog 51 #[.string ⟨l.toArray⟩] w fun e w' => e = .returned (.tuple #[.int .i64 (tV l), .int .i64 (tE l)]) ∧ w = w' := by
  obtain ⟨z1, z2⟩ := t_bad (l := l) (by simp [dayForm, h4])
  have Z1 := Lib.hid z1
  have Z2 := Lib.hid z2
  have i10 : (l.length : Int) = 10 := by omega
  have hs4 : 4 < (⟨l.toArray⟩ : ByteArray).size := by rw [bytes_size]; omega
  have hs7 : 7 < (⟨l.toArray⟩ : ByteArray).size := by rw [bytes_size]; omega
  have c4 : ¬ ((⟨l.toArray⟩ : ByteArray)[4].toNat : Int) = 45 := mt (byte45 (u := l) (by omega)).2 h4
  clear z1 z2 h4
  go_enter Tryz.func51, Tryz.ntmps51
  go_wp2
  go_ret2
  exact ⟨ret_pair Z1.out.symm Z2.out.symm, rfl⟩

set_option maxHeartbeats 800000 in
theorem refParseDay_c (l : List UInt8) (hl : l.length ≤ 140737488355328) (w : World) (h10 : l.length = 10) (h4 : l[4]? = some 45) (h7 : ¬ l[7]? = some 45) :
    Calls Tryz.prog 51 #[.string ⟨l.toArray⟩] w fun e w' => e = .returned (.tuple #[.int .i64 (tV l), .int .i64 (tE l)]) ∧ w = w' := by
  obtain ⟨z1, z2⟩ := t_bad (l := l) (by simp [dayForm, h7])
  have Z1 := Lib.hid z1
  have Z2 := Lib.hid z2
  have i10 : (l.length : Int) = 10 := by omega
  have hs4 : 4 < (⟨l.toArray⟩ : ByteArray).size := by rw [bytes_size]; omega
  have hs7 : 7 < (⟨l.toArray⟩ : ByteArray).size := by rw [bytes_size]; omega
  have c4 : ((⟨l.toArray⟩ : ByteArray)[4].toNat : Int) = 45 := (byte45 (u := l) (by omega)).1 h4
  have c7 : ¬ ((⟨l.toArray⟩ : ByteArray)[7].toNat : Int) = 45 := mt (byte45 (u := l) (by omega)).2 h7
  clear z1 z2 h4 h7
  go_enter Tryz.func51, Tryz.ntmps51
  go_wp2
  go_ret2
  exact ⟨ret_pair Z1.out.symm Z2.out.symm, rfl⟩

set_option maxHeartbeats 800000 in
theorem refParseDay_d (l : List UInt8) (hl : l.length ≤ 140737488355328) (w : World) (h10 : l.length = 10) (h4 : l[4]? = some 45) (h7 : l[7]? = some 45) (hy : digitsB (dayY l) = false) :
    Calls Tryz.prog 51 #[.string ⟨l.toArray⟩] w fun e w' => e = .returned (.tuple #[.int .i64 (tV l), .int .i64 (tE l)]) ∧ w = w' := by
  obtain ⟨z1, z2⟩ := t_bad (l := l) (by simp [dayForm, hy])
  have Z1 := Lib.hid z1
  have Z2 := Lib.hid z2
  have i10 : (l.length : Int) = 10 := by omega
  have hs4 : 4 < (⟨l.toArray⟩ : ByteArray).size := by rw [bytes_size]; omega
  have hs7 : 7 < (⟨l.toArray⟩ : ByteArray).size := by rw [bytes_size]; omega
  have c4 : ((⟨l.toArray⟩ : ByteArray)[4].toNat : Int) = 45 := (byte45 (u := l) (by omega)).1 h4
  have c7 : ((⟨l.toArray⟩ : ByteArray)[7].toNat : Int) = 45 := (byte45 (u := l) (by omega)).1 h7
  obtain ⟨E1, E2, E3, E4, L1, L2, L3⟩ := day_cuts h10
  have HA := refDigits4 (dayY l) false hy (by omega)
  clear z1 z2 h4 h7 hy
  generalize dayY l = Y at *
  generalize dayM l = M at *
  generalize dayD l = D at *
  go_enter Tryz.func51, Tryz.ntmps51
  go_wp2_with fail
  refine (HA _).mono ?_
  rintro e w2 ⟨rfl, rfl⟩
  go_wp2
  go_ret2
  exact ⟨ret_pair Z1.out.symm Z2.out.symm, rfl⟩

set_option maxHeartbeats 800000 in
theorem refParseDay_e (l : List UInt8) (hl : l.length ≤ 140737488355328) (w : World) (h10 : l.length = 10) (h4 : l[4]? = some 45) (h7 : l[7]? = some 45) (hy : digitsB (dayY l) = true) (hm : digitsB (dayM l) = false) :
    Calls Tryz.prog 51 #[.string ⟨l.toArray⟩] w fun e w' => e = .returned (.tuple #[.int .i64 (tV l), .int .i64 (tE l)]) ∧ w = w' := by
  obtain ⟨z1, z2⟩ := t_bad (l := l) (by simp [dayForm, hm])
  have Z1 := Lib.hid z1
  have Z2 := Lib.hid z2
  have i10 : (l.length : Int) = 10 := by omega
  have hs4 : 4 < (⟨l.toArray⟩ : ByteArray).size := by rw [bytes_size]; omega
  have hs7 : 7 < (⟨l.toArray⟩ : ByteArray).size := by rw [bytes_size]; omega
  have c4 : ((⟨l.toArray⟩ : ByteArray)[4].toNat : Int) = 45 := (byte45 (u := l) (by omega)).1 h4
  have c7 : ((⟨l.toArray⟩ : ByteArray)[7].toNat : Int) = 45 := (byte45 (u := l) (by omega)).1 h7
  obtain ⟨E1, E2, E3, E4, L1, L2, L3⟩ := day_cuts h10
  have HA := refDigits4 (dayY l) true hy (by omega)
  have HB := refDigits4 (dayM l) false hm (by omega)
  clear z1 z2 h4 h7 hy hm
  generalize dayY l = Y at *
  generalize dayM l = M at *
  generalize dayD l = D at *
  go_enter Tryz.func51, Tryz.ntmps51
  go_wp2_with fail
  refine (HA _).mono ?_
  rintro e w2 ⟨rfl, rfl⟩
  go_wp2_with fail
  refine (HB _).mono ?_
  rintro e w2 ⟨rfl, rfl⟩
  go_wp2
  go_ret2
  exact ⟨ret_pair Z1.out.symm Z2.out.symm, rfl⟩

set_option maxHeartbeats 800000 in
theorem refParseDay_f (l : List UInt8) (hl : l.length ≤ 140737488355328) (w : World) (h10 : l.length = 10) (h4 : l[4]? = some 45) (h7 : l[7]? = some 45) (hy : digitsB (dayY l) = true) (hm : digitsB (dayM l) = true) (hd : digitsB (dayD l) = false) :
    Calls Tryz.prog 51 #[.string ⟨l.toArray⟩] w fun e w' => e = .returned (.tuple #[.int .i64 (tV l), .int .i64 (tE l)]) ∧ w = w' := by
  obtain ⟨z1, z2⟩ := t_bad (l := l) (by simp [dayForm, hd])
  have Z1 := Lib.hid z1
  have Z2 := Lib.hid z2
  have i10 : (l.length : Int) = 10 := by omega
  have hs4 : 4 < (⟨l.toArray⟩ : ByteArray).size := by rw [bytes_size]; omega
  have hs7 : 7 < (⟨l.toArray⟩ : ByteArray).size := by rw [bytes_size]; omega
  have c4 : ((⟨l.toArray⟩ : ByteArray)[4].toNat : Int) = 45 := (byte45 (u := l) (by omega)).1 h4
  have c7 : ((⟨l.toArray⟩ : ByteArray)[7].toNat : Int) = 45 := (byte45 (u := l) (by omega)).1 h7
  obtain ⟨E1, E2, E3, E4, L1, L2, L3⟩ := day_cuts h10
  have HA := refDigits4 (dayY l) true hy (by omega)
  have HB := refDigits4 (dayM l) true hm (by omega)
  have HC := refDigits4 (dayD l) false hd (by omega)
  clear z1 z2 h4 h7 hy hm hd
  generalize dayY l = Y at *
  generalize dayM l = M at *
  generalize dayD l = D at *
  go_enter Tryz.func51, Tryz.ntmps51
  go_wp2_with fail
  refine (HA _).mono ?_
  rintro e w2 ⟨rfl, rfl⟩
  go_wp2_with fail
  refine (HB _).mono ?_
  rintro e w2 ⟨rfl, rfl⟩
  go_wp2_with fail
  refine (HC _).mono ?_
  rintro e w2 ⟨rfl, rfl⟩
  go_wp2
  go_ret2
  exact ⟨ret_pair Z1.out.symm Z2.out.symm, rfl⟩

set_option maxHeartbeats 800000 in
theorem refParseDay_g (l : List UInt8) (hl : l.length ≤ 140737488355328) (w : World) (h10 : l.length = 10) (h4 : l[4]? = some 45) (h7 : l[7]? = some 45) (hy : digitsB (dayY l) = true) (hm : digitsB (dayM l) = true) (hd : digitsB (dayD l) = true) :
    Calls Tryz.prog 51 #[.string ⟨l.toArray⟩] w fun e w' => e = .returned (.tuple #[.int .i64 (tV l), .int .i64 (tE l)]) ∧ w = w' := by
  obtain ⟨z1, z2⟩ := t_form (l := l) (by unfold dayForm; rw [decide_eq_true h10, decide_eq_true h4, decide_eq_true h7, hy, hm, hd]; rfl)
  have Z1 := Lib.hid z1
  have Z2 := Lib.hid z2
  have i10 : (l.length : Int) = 10 := by omega
  have hs4 : 4 < (⟨l.toArray⟩ : ByteArray).size := by rw [bytes_size]; omega
  have hs7 : 7 < (⟨l.toArray⟩ : ByteArray).size := by rw [bytes_size]; omega
  have c4 : ((⟨l.toArray⟩ : ByteArray)[4].toNat : Int) = 45 := (byte45 (u := l) (by omega)).1 h4
  have c7 : ((⟨l.toArray⟩ : ByteArray)[7].toNat : Int) = 45 := (byte45 (u := l) (by omega)).1 h7
  obtain ⟨E1, E2, E3, E4, L1, L2, L3⟩ := day_cuts h10
  have HA := refDigits4 (dayY l) true hy (by omega)
  have HB := refDigits4 (dayM l) true hm (by omega)
  have HC := refDigits4 (dayD l) true hd (by omega)
  have R1 := read4 (dayY l) 9999 4 hy (by omega) (by omega) (by omega) (by omega) (by omega)
  have R2 := read4 (dayM l) 99 2 hm (by omega) (by omega) (by omega) (by omega) (by omega)
  have R3 := read4 (dayD l) 99 2 hd (by omega) (by omega) (by omega) (by omega) (by omega)
  have b1 := valD_lt (dayY l) (digits_all hy).2 4 (by omega)
  have b2 := valD_lt (dayM l) (digits_all hm).2 2 (by omega)
  have b3 := valD_lt (dayD l) (digits_all hd).2 2 (by omega)
  have RD := fun W => refDay_any (valD (dayY l)) (valD (dayM l)) (valD (dayD l)) W
  clear z1 z2 h4 h7 hy hm hd
  generalize valD (dayY l) = y at *
  generalize valD (dayM l) = m at *
  generalize valD (dayD l) = d at *
  generalize dayY l = Y at *
  generalize dayM l = M at *
  generalize dayD l = D at *
  go_enter Tryz.func51, Tryz.ntmps51
  go_wp2_with fail
  refine (HA _).mono ?_
  rintro e w2 ⟨rfl, rfl⟩
  go_wp2_with fail
  refine (HB _).mono ?_
  rintro e w2 ⟨rfl, rfl⟩
  go_wp2_with fail
  refine (HC _).mono ?_
  rintro e w2 ⟨rfl, rfl⟩
  go_wp2_with fail
  refine (R1 _).mono ?_
  rintro e w2 ⟨rfl, rfl⟩
  go_wp2_with fail
  refine (R2 _).mono ?_
  rintro e w2 ⟨rfl, rfl⟩
  go_wp2_with fail
  refine (R3 _).mono ?_
  rintro e w2 ⟨rfl, rfl⟩
  go_wp2_with fail
  refine (RD _).mono ?_
  rintro e w2 ⟨rfl, rfl⟩
  go_wp2
  go_ret2
  exact ⟨ret_pair Z1.out.symm Z2.out.symm, rfl⟩

theorem refParseDay_any (l : List UInt8) (hl : l.length ≤ 140737488355328) (w : World) :
    Calls Tryz.prog 51 #[.string ⟨l.toArray⟩] w fun e w' => e = .returned (.tuple #[.int .i64 (tV l), .int .i64 (tE l)]) ∧ w = w' := by
  by_cases h10 : l.length = 10
  · by_cases h4 : l[4]? = some 45
    · by_cases h7 : l[7]? = some 45
      · cases hy : digitsB (dayY l)
        · exact refParseDay_d l hl w h10 h4 h7 hy
        · cases hm : digitsB (dayM l)
          · exact refParseDay_e l hl w h10 h4 h7 hy hm
          · cases hd : digitsB (dayD l)
            · exact refParseDay_f l hl w h10 h4 h7 hy hm hd
            · exact refParseDay_g l hl w h10 h4 h7 hy hm hd
      · exact refParseDay_c l hl w h10 h4 h7
    · exact refParseDay_b l hl w h10 h4
  · exact refParseDay_a l hl w h10
end Go.Proofs.YtogdkhnakenbcaaGreatDoor
