/-
  Contracts of ParseDec: cutting at the point; the program's answer.
-/
import Derived.Test.YtogdkhnakenbcaaGreatDoorCuts
import Derived.Test.YtogdkhnakenbcaaGreatDoorScale2
import Derived.Deep.QuietTactic
import Derived.BigQuiet
namespace Go.Proofs.YtogdkhnakenbcaaGreatDoor
open Go.ChangeShapes Go.WideShapes Go.ChangeAt Go.RowKit
set_option linter.unusedVariables false

theorem indexAt (l : List UInt8) (w : World) : Calls Tryz.prog 126 #[.string ⟨l.toArray⟩, .string ⟨#[46]⟩] w fun e w' => e = .returned (.int .i64 (if cutAt l < l.length then (cutAt l : Int) else -1)) ∧ w = w' := by
  refine (Tryz.stringslite_Index_one ⟨l.toArray⟩ 46 w).mono ?_
  rintro e w' ⟨rfl, rfl⟩
  exact ⟨ret_int (indexPoint l), rfl⟩

theorem ret_cut {a a' b b' : ByteArray} {c c' : Bool} (h1 : a = a') (h2 : b = b') (h3 : c = c') : Ending.returned (.tuple #[.string a, .string b, .bool c]) = .returned (.tuple #[.string a', .string b', .bool c']) := by rw [h1, h2, h3]

set_option maxHeartbeats 800000 in
theorem liteCut (l : List UInt8) (hl : l.length ≤ 281474976710656) (w : World) : Calls Tryz.prog 165 #[.string ⟨l.toArray⟩, .string ⟨#[46]⟩] w fun e w' => e = .returned (.tuple #[.string ⟨(l.take (cutAt l)).toArray⟩, .string ⟨(decF (unsig l)).toArray⟩, .bool (decP (unsig l))]) ∧ Below w.heap.size w w' := by
  have H := indexAt l w
  have hP := point_unsig l
  have hF := rest_unsig l
  have hle := cutAt_le l
  by_cases hc : cutAt l < l.length
  · rw [if_pos hc] at H
    rw [decide_eq_true hc] at hP
    generalize cutAt l = k at *
    have HP := Lib.hid hP
    have HF := Lib.hid hF
    have k0 : (0 : Int) ≤ (k : Int) := by omega
    have k1 : (k : Int) ≤ (l.length : Int) := by omega
    have k2 : IntKind.i64.wrap ((k : Int) + 1) = (k : Int) + 1 := by rw [IntKind.wrap_i64]; omega
    have k3 : (k : Int) + 1 ≤ (l.length : Int) := by omega
    have k4 : (0 : Int) ≤ (k : Int) + 1 := by omega
    clear hP hF
    go_enter Tryz.func165, Tryz.ntmps165
    go_wp2_with fail
    refine H.mono ?_
    rintro e w' ⟨rfl, rfl⟩
    go_wp2
    go_quiet (fail)
    go_wp2
    refine bodyPost_ret (v := .tuple #[.string ((⟨l.toArray⟩ : ByteArray).extract 0 k), .string ((⟨l.toArray⟩ : ByteArray).extract (k + 1) l.length), .bool true]) (by simp [results, Tryz.results165, go_sem]) rfl ?_
    refine ⟨ret_cut ?_ ?_ HP.out, below_drewN (Below.refl _ _) _⟩
    · rw [bytes_ext]; simp
    · rw [bytes_ext, ← HF.out, List.take_of_length_le (by simp)]
  · rw [if_neg hc] at H
    rw [decide_eq_false hc] at hP
    have HP := Lib.hid hP
    have HF := Lib.hid hF
    have HT : Hid (l.take (cutAt l) = l) := by show _ = _; exact List.take_of_length_le (by omega)
    have HF2 : Hid (decF (unsig l) = []) := by show _ = _; rw [← hF]; exact List.drop_eq_nil_of_le (by omega)
    clear hP hF
    go_enter Tryz.func165, Tryz.ntmps165
    go_wp2_with fail
    refine H.mono ?_
    rintro e w' ⟨rfl, rfl⟩
    go_wp2
    refine bodyPost_ret (v := .tuple #[.string ⟨l.toArray⟩, .string ⟨#[]⟩, .bool false]) (by simp [results, Tryz.results165, go_sem]) rfl ?_
    exact ⟨ret_cut (by rw [HT.out]) (by rw [HF2.out]) HP.out, Below.refl _ _⟩
set_option maxHeartbeats 800000 in
theorem libCut (l : List UInt8) (hl : l.length ≤ 281474976710656) (w : World) : Calls Tryz.prog 136 #[.string ⟨l.toArray⟩, .string ⟨#[46]⟩] w fun e w' => e = .returned (.tuple #[.string ⟨(l.take (cutAt l)).toArray⟩, .string ⟨(decF (unsig l)).toArray⟩, .bool (decP (unsig l))]) ∧ Below w.heap.size w w' := by
  have H := liteCut l hl w
  generalize l.take (cutAt l) = X at *
  generalize decF (unsig l) = Y at *
  generalize decP (unsig l) = Z at *
  go_enter Tryz.func136, Tryz.ntmps136
  go_wp2_with fail
  refine H.mono ?_
  rintro e w' ⟨rfl, hb⟩
  go_wp2
  refine bodyPost_ret (v := .tuple #[.string ⟨X.toArray⟩, .string ⟨Y.toArray⟩, .bool Z]) (by simp [results, Tryz.results136, go_sem]) rfl ?_
  exact ⟨rfl, hb⟩

/-- Is it a decimal that fits? What ParseDec answers. -/
def decOk (l : List UInt8) : Bool := !decBad (unsig l) && (decide ((decF (unsig l)).length ≤ 18) && decide (valD (decD (unsig l) ++ decF (unsig l)) ≤ 999999999999999999))
def dV (l : List UInt8) : Int := if decOk l = true then sv (valD (decD (unsig l) ++ decF (unsig l))) (negB l) else 0
def dS (l : List UInt8) : Int := if decOk l = true then ((decF (unsig l)).length : Int) else 0
def dE (l : List UInt8) : Int := if decBad (unsig l) = true then 12 else if decOk l = true then 0 else 10
theorem dec_bad {l : List UInt8} (h : decBad (unsig l) = true) : dV l = 0 ∧ dS l = 0 ∧ dE l = 12 := by
  have : decOk l = false := by simp [decOk, h]
  simp [dV, dS, dE, this, h]
theorem dec_far {l : List UInt8} (h : decBad (unsig l) = false) (h' : decOk l = false) : dV l = 0 ∧ dS l = 0 ∧ dE l = 10 := by
  simp [dV, dS, dE, h, h']
theorem dec_fit {l : List UInt8} (h : decBad (unsig l) = false) (h' : decOk l = true) : dV l = sv (valD (decD (unsig l) ++ decF (unsig l))) (negB l) ∧ dS l = ((decF (unsig l)).length : Int) ∧ dE l = 0 := by
  simp [dV, dS, dE, h, h']
theorem ret_dec {a a' b b' c c' : Int} (h1 : a = a') (h2 : b = b') (h3 : c = c') : Ending.returned (.tuple #[.int .i64 a', .int .i64 b', .int .i64 c']) = .returned (.tuple #[.int .i64 a, .int .i64 b, .int .i64 c]) := by rw [h1, h2, h3]

theorem allD (l : List UInt8) (b : Bool) (hd : digitsB l = b) (hl : l.length ≤ 9223372036854775807) (W : World) :
    Calls Tryz.prog 102 #[.string ⟨l.toArray⟩] W fun e w' => e = .returned (.bool b) ∧ W = w' := by
  have h := allDigits_any l hl W; rwa [hd] at h
/-- The reading of both parts, without the point. -/
theorem both_int (l : List UInt8) (hl : l.length ≤ 140737488355328) (hb : decBad (unsig l) = false) (W : World) (hV : VRange W) :
    Calls Tryz.prog 73 #[.string (⟨(l.take (cutAt l)).toArray⟩ ++ ⟨(decF (unsig l)).toArray⟩)] W fun e w' => e = .returned (.tuple #[.int .i64 (okOr (sv (valD (decD (unsig l) ++ decF (unsig l))) (negB l))), .int .i64 (errOr (sv (valD (decD (unsig l) ++ decF (unsig l))) (negB l)))]) ∧ Below W.heap.size W w' := by
  obtain ⟨hD, hF⟩ := parts_digits hb
  obtain ⟨e1, e2⟩ := both_unsig l hD
  have s1 := sized_F (unsig l)
  have s2 := sized_unsig l
  have h := parseInt_any (l.take (cutAt l) ++ decF (unsig l)) (by rw [List.length_append, List.length_take]; omega) W hV
  have hd := digits_app hD hF
  rw [bytes_app]
  unfold pI pE at h
  rw [e1, hd, if_pos rfl, if_pos rfl] at h
  have e3 := sv_numV (l.take (cutAt l) ++ decF (unsig l))
  rw [e1, e2] at e3
  rw [e3]
  exact h
theorem sv_fits (n : Nat) (b : Bool) : (n ≤ 999999999999999999 → In64 (sv n b) ∧ fitsB (sv n b) = true) ∧ (¬ n ≤ 999999999999999999 → fitsB (sv n b) = false) := by
  unfold In64 sv fitsB
  cases b <;> simp <;> omega

set_option maxHeartbeats 800000 in
theorem parseDec_d (l : List UInt8) (hl : l.length ≤ 140737488355328) (w : World) (hV : VRange w) (hd : digitsB (decD (unsig l)) = false) :
    Calls Tryz.prog 104 #[.string ⟨l.toArray⟩] w fun e w' => e = .returned (.tuple #[.int .i64 (dV l), .int .i64 (dS l), .int .i64 (dE l)]) ∧ Below w.heap.size w w' := by
  have s1 := sized_unsig l
  have s2 := sized_D (unsig l)
  have s3 := sized_F (unsig l)
  have s4 : (l.take (cutAt l)).length + (decF (unsig l)).length ≤ 9223372036854775807 := by rw [List.length_take]; omega
  have HC := libCut l (by omega) w
  have HM := fun W => cutMinus (l.take (cutAt l)) W
  have HW := whole_unsig l
  rw [HW] at HM
  obtain ⟨z1, z2, z3⟩ := dec_bad (l := l) (by simp [decBad, hd])
  have Z1 := Lib.hid z1
  have Z2 := Lib.hid z2
  have Z3 := Lib.hid z3
  have HA := allD (decD (unsig l)) false hd (by omega)
  clear z1 z2 z3 hd HW hV
  generalize l.take (cutAt l) = X at *
  generalize decD (unsig l) = D at *
  generalize decF (unsig l) = F at *
  generalize decP (unsig l) = P at *
  go_enter Tryz.func104, Tryz.ntmps104
  go_wp2_with fail
  refine HC.mono ?_
  rintro e w1 ⟨rfl, hb1⟩
  go_wp2_with fail
  refine (HM _).mono ?_
  rintro e w2 ⟨rfl, rfl⟩
  go_wp2_with fail
  refine (HA _).mono ?_
  rintro e w2 ⟨rfl, rfl⟩

  go_wp2
  refine bodyPost_ret (v := .tuple #[.int .i64 0, .int .i64 0, .int .i64 12]) (by simp [results, Tryz.results104, go_sem]) rfl ?_
  exact ⟨ret_dec Z1.out Z2.out Z3.out, hb1⟩

set_option maxHeartbeats 800000 in
theorem parseDec_f (l : List UInt8) (hl : l.length ≤ 140737488355328) (w : World) (hV : VRange w) (hd : digitsB (decD (unsig l)) = true) (hp : decP (unsig l) = true) (hf : digitsB (decF (unsig l)) = false) :
    Calls Tryz.prog 104 #[.string ⟨l.toArray⟩] w fun e w' => e = .returned (.tuple #[.int .i64 (dV l), .int .i64 (dS l), .int .i64 (dE l)]) ∧ Below w.heap.size w w' := by
  have s1 := sized_unsig l
  have s2 := sized_D (unsig l)
  have s3 := sized_F (unsig l)
  have s4 : (l.take (cutAt l)).length + (decF (unsig l)).length ≤ 9223372036854775807 := by rw [List.length_take]; omega
  have HC := libCut l (by omega) w
  have HM := fun W => cutMinus (l.take (cutAt l)) W
  have HW := whole_unsig l
  rw [HW] at HM
  obtain ⟨z1, z2, z3⟩ := dec_bad (l := l) (by simp [decBad, hd, hp, hf])
  have Z1 := Lib.hid z1
  have Z2 := Lib.hid z2
  have Z3 := Lib.hid z3
  have HA := allD (decD (unsig l)) true hd (by omega)
  have HB := allD (decF (unsig l)) false hf (by omega)
  rw [hp] at HC
  clear z1 z2 z3 hd HW hV hp hf
  generalize l.take (cutAt l) = X at *
  generalize decD (unsig l) = D at *
  generalize decF (unsig l) = F at *

  go_enter Tryz.func104, Tryz.ntmps104
  go_wp2_with fail
  refine HC.mono ?_
  rintro e w1 ⟨rfl, hb1⟩
  go_wp2_with fail
  refine (HM _).mono ?_
  rintro e w2 ⟨rfl, rfl⟩
  go_wp2_with fail
  refine (HA _).mono ?_
  rintro e w2 ⟨rfl, rfl⟩
  go_wp2_with fail
  refine (HB _).mono ?_
  rintro e w2 ⟨rfl, rfl⟩

  go_wp2
  refine bodyPost_ret (v := .tuple #[.int .i64 0, .int .i64 0, .int .i64 12]) (by simp [results, Tryz.results104, go_sem]) rfl ?_
  exact ⟨ret_dec Z1.out Z2.out Z3.out, hb1⟩

set_option maxHeartbeats 800000 in
theorem parseDec_lp (l : List UInt8) (hl : l.length ≤ 140737488355328) (w : World) (hV : VRange w) (hb : decBad (unsig l) = false) (hp : decP (unsig l) = true) (hn : 18 < (decF (unsig l)).length) :
    Calls Tryz.prog 104 #[.string ⟨l.toArray⟩] w fun e w' => e = .returned (.tuple #[.int .i64 (dV l), .int .i64 (dS l), .int .i64 (dE l)]) ∧ Below w.heap.size w w' := by
  have s1 := sized_unsig l
  have s2 := sized_D (unsig l)
  have s3 := sized_F (unsig l)
  have s4 : (l.take (cutAt l)).length + (decF (unsig l)).length ≤ 9223372036854775807 := by rw [List.length_take]; omega
  have HC := libCut l (by omega) w
  have HM := fun W => cutMinus (l.take (cutAt l)) W
  have HW := whole_unsig l
  rw [HW] at HM
  have hd := (parts_digits hb).1
  have HA := allD (decD (unsig l)) true hd (by omega)
  rw [hp] at HC
  have hf : digitsB (decF (unsig l)) = true := by simpa [decBad, hd, hp] using hb
  have HB := allD (decF (unsig l)) true hf (by omega)
  obtain ⟨z1, z2, z3⟩ := dec_far (l := l) hb (by simp [decOk]; omega)
  have Z1 := Lib.hid z1
  have Z2 := Lib.hid z2
  have Z3 := Lib.hid z3
  clear z1 z2 z3 hd HW hV hp hf hb
  generalize l.take (cutAt l) = X at *
  generalize decD (unsig l) = D at *
  generalize decF (unsig l) = F at *

  go_enter Tryz.func104, Tryz.ntmps104
  go_wp2_with fail
  refine HC.mono ?_
  rintro e w1 ⟨rfl, hb1⟩
  go_wp2_with fail
  refine (HM _).mono ?_
  rintro e w2 ⟨rfl, rfl⟩
  go_wp2_with fail
  refine (HA _).mono ?_
  rintro e w2 ⟨rfl, rfl⟩
  go_wp2_with fail
  refine (HB _).mono ?_
  rintro e w2 ⟨rfl, rfl⟩

  go_wp2
  refine bodyPost_ret (v := .tuple #[.int .i64 0, .int .i64 0, .int .i64 10]) (by simp [results, Tryz.results104, go_sem]) rfl ?_
  exact ⟨ret_dec Z1.out Z2.out Z3.out, hb1⟩

set_option maxHeartbeats 800000 in
theorem parseDec_op (l : List UInt8) (hl : l.length ≤ 140737488355328) (w : World) (hV : VRange w) (hb : decBad (unsig l) = false) (hp : decP (unsig l) = true) (hn : (decF (unsig l)).length ≤ 18) (hv : valD (decD (unsig l) ++ decF (unsig l)) ≤ 999999999999999999) :
    Calls Tryz.prog 104 #[.string ⟨l.toArray⟩] w fun e w' => e = .returned (.tuple #[.int .i64 (dV l), .int .i64 (dS l), .int .i64 (dE l)]) ∧ Below w.heap.size w w' := by
  have s1 := sized_unsig l
  have s2 := sized_D (unsig l)
  have s3 := sized_F (unsig l)
  have s4 : (l.take (cutAt l)).length + (decF (unsig l)).length ≤ 9223372036854775807 := by rw [List.length_take]; omega
  have HC := libCut l (by omega) w
  have HM := fun W => cutMinus (l.take (cutAt l)) W
  have HW := whole_unsig l
  rw [HW] at HM
  have hd := (parts_digits hb).1
  have HA := allD (decD (unsig l)) true hd (by omega)
  rw [hp] at HC
  have hf : digitsB (decF (unsig l)) = true := by simpa [decBad, hd, hp] using hb
  have HB := allD (decF (unsig l)) true hf (by omega)
  have HI := both_int l hl hb
  have hV := Lib.hid hV
  obtain ⟨i1, i2⟩ := (sv_fits (valD (decD (unsig l) ++ decF (unsig l))) (negB l)).1 hv
  rw [okOr_in i1, errOr_in i1] at HI
  have HF := fun W => fits_any (sv (valD (decD (unsig l) ++ decF (unsig l))) (negB l)) W
  rw [i2] at HF
  obtain ⟨z1, z2, z3⟩ := dec_fit (l := l) hb (by simp [decOk, hb, hn, hv])
  have Z1 := Lib.hid z1
  have Z2 := Lib.hid z2
  have Z3 := Lib.hid z3
  clear z1 z2 z3 hd HW hp hb hf
  clear i1 i2 hv
  generalize sv (valD (decD (unsig l) ++ decF (unsig l))) (negB l) = V at *
  generalize l.take (cutAt l) = X at *
  generalize decD (unsig l) = D at *
  generalize decF (unsig l) = F at *

  go_enter Tryz.func104, Tryz.ntmps104
  go_wp2_with fail
  refine HC.mono ?_
  rintro e w1 ⟨rfl, hb1⟩
  go_wp2_with fail
  refine (HM _).mono ?_
  rintro e w2 ⟨rfl, rfl⟩
  go_wp2_with fail
  refine (HA _).mono ?_
  rintro e w2 ⟨rfl, rfl⟩
  go_wp2_with fail
  refine (HB _).mono ?_
  rintro e w2 ⟨rfl, rfl⟩
  go_wp2_with fail
  refine (HI _ (hV.out.next hb1)).mono ?_
  rintro e w2 ⟨rfl, hb2⟩
  have hb3 := hb1.trans (hb2.mono hb1.size)
  clear hb2 hV
  go_wp2_with fail
  refine (HF _).mono ?_
  rintro e w3 ⟨rfl, rfl⟩

  go_wp2
  refine bodyPost_ret (v := .tuple #[.int .i64 V, .int .i64 F.length, .int .i64 0]) (by simp [results, Tryz.results104, go_sem]) rfl ?_
  exact ⟨ret_dec Z1.out Z2.out Z3.out, hb3⟩

set_option maxHeartbeats 800000 in
theorem parseDec_up (l : List UInt8) (hl : l.length ≤ 140737488355328) (w : World) (hV : VRange w) (hb : decBad (unsig l) = false) (hp : decP (unsig l) = true) (hn : (decF (unsig l)).length ≤ 18) (hv : ¬ valD (decD (unsig l) ++ decF (unsig l)) ≤ 999999999999999999) (hi : In64 (sv (valD (decD (unsig l) ++ decF (unsig l))) (negB l))) :
    Calls Tryz.prog 104 #[.string ⟨l.toArray⟩] w fun e w' => e = .returned (.tuple #[.int .i64 (dV l), .int .i64 (dS l), .int .i64 (dE l)]) ∧ Below w.heap.size w w' := by
  have s1 := sized_unsig l
  have s2 := sized_D (unsig l)
  have s3 := sized_F (unsig l)
  have s4 : (l.take (cutAt l)).length + (decF (unsig l)).length ≤ 9223372036854775807 := by rw [List.length_take]; omega
  have HC := libCut l (by omega) w
  have HM := fun W => cutMinus (l.take (cutAt l)) W
  have HW := whole_unsig l
  rw [HW] at HM
  have hd := (parts_digits hb).1
  have HA := allD (decD (unsig l)) true hd (by omega)
  rw [hp] at HC
  have hf : digitsB (decF (unsig l)) = true := by simpa [decBad, hd, hp] using hb
  have HB := allD (decF (unsig l)) true hf (by omega)
  have HI := both_int l hl hb
  have hV := Lib.hid hV
  have i2 := (sv_fits (valD (decD (unsig l) ++ decF (unsig l))) (negB l)).2 hv
  rw [okOr_in hi, errOr_in hi] at HI
  have HF := fun W => fits_any (sv (valD (decD (unsig l) ++ decF (unsig l))) (negB l)) W
  rw [i2] at HF
  obtain ⟨z1, z2, z3⟩ := dec_far (l := l) hb (by simp only [decOk, decide_eq_false hv, Bool.and_false])
  have Z1 := Lib.hid z1
  have Z2 := Lib.hid z2
  have Z3 := Lib.hid z3
  clear z1 z2 z3 hd HW hp hb hf
  clear hi i2 hv
  generalize sv (valD (decD (unsig l) ++ decF (unsig l))) (negB l) = V at *
  generalize l.take (cutAt l) = X at *
  generalize decD (unsig l) = D at *
  generalize decF (unsig l) = F at *

  go_enter Tryz.func104, Tryz.ntmps104
  go_wp2_with fail
  refine HC.mono ?_
  rintro e w1 ⟨rfl, hb1⟩
  go_wp2_with fail
  refine (HM _).mono ?_
  rintro e w2 ⟨rfl, rfl⟩
  go_wp2_with fail
  refine (HA _).mono ?_
  rintro e w2 ⟨rfl, rfl⟩
  go_wp2_with fail
  refine (HB _).mono ?_
  rintro e w2 ⟨rfl, rfl⟩
  go_wp2_with fail
  refine (HI _ (hV.out.next hb1)).mono ?_
  rintro e w2 ⟨rfl, hb2⟩
  have hb3 := hb1.trans (hb2.mono hb1.size)
  clear hb2 hV
  go_wp2_with fail
  refine (HF _).mono ?_
  rintro e w3 ⟨rfl, rfl⟩

  go_wp2
  refine bodyPost_ret (v := .tuple #[.int .i64 0, .int .i64 0, .int .i64 10]) (by simp [results, Tryz.results104, go_sem]) rfl ?_
  exact ⟨ret_dec Z1.out Z2.out Z3.out, hb3⟩

set_option maxHeartbeats 800000 in
theorem parseDec_vp (l : List UInt8) (hl : l.length ≤ 140737488355328) (w : World) (hV : VRange w) (hb : decBad (unsig l) = false) (hp : decP (unsig l) = true) (hn : (decF (unsig l)).length ≤ 18) (hv : ¬ valD (decD (unsig l) ++ decF (unsig l)) ≤ 999999999999999999) (hi : ¬ In64 (sv (valD (decD (unsig l) ++ decF (unsig l))) (negB l))) :
    Calls Tryz.prog 104 #[.string ⟨l.toArray⟩] w fun e w' => e = .returned (.tuple #[.int .i64 (dV l), .int .i64 (dS l), .int .i64 (dE l)]) ∧ Below w.heap.size w w' := by
  have s1 := sized_unsig l
  have s2 := sized_D (unsig l)
  have s3 := sized_F (unsig l)
  have s4 : (l.take (cutAt l)).length + (decF (unsig l)).length ≤ 9223372036854775807 := by rw [List.length_take]; omega
  have HC := libCut l (by omega) w
  have HM := fun W => cutMinus (l.take (cutAt l)) W
  have HW := whole_unsig l
  rw [HW] at HM
  have hd := (parts_digits hb).1
  have HA := allD (decD (unsig l)) true hd (by omega)
  rw [hp] at HC
  have hf : digitsB (decF (unsig l)) = true := by simpa [decBad, hd, hp] using hb
  have HB := allD (decF (unsig l)) true hf (by omega)
  have HI := both_int l hl hb
  have hV := Lib.hid hV
  rw [okOr_out hi, errOr_out hi] at HI
  obtain ⟨z1, z2, z3⟩ := dec_far (l := l) hb (by simp only [decOk, decide_eq_false hv, Bool.and_false])
  have Z1 := Lib.hid z1
  have Z2 := Lib.hid z2
  have Z3 := Lib.hid z3
  clear z1 z2 z3 hd HW hp hb hf
  clear hi hv
  generalize l.take (cutAt l) = X at *
  generalize decD (unsig l) = D at *
  generalize decF (unsig l) = F at *

  go_enter Tryz.func104, Tryz.ntmps104
  go_wp2_with fail
  refine HC.mono ?_
  rintro e w1 ⟨rfl, hb1⟩
  go_wp2_with fail
  refine (HM _).mono ?_
  rintro e w2 ⟨rfl, rfl⟩
  go_wp2_with fail
  refine (HA _).mono ?_
  rintro e w2 ⟨rfl, rfl⟩
  go_wp2_with fail
  refine (HB _).mono ?_
  rintro e w2 ⟨rfl, rfl⟩
  go_wp2_with fail
  refine (HI _ (hV.out.next hb1)).mono ?_
  rintro e w2 ⟨rfl, hb2⟩
  have hb3 := hb1.trans (hb2.mono hb1.size)
  clear hb2 hV

  go_wp2
  refine bodyPost_ret (v := .tuple #[.int .i64 0, .int .i64 0, .int .i64 10]) (by simp [results, Tryz.results104, go_sem]) rfl ?_
  exact ⟨ret_dec Z1.out Z2.out Z3.out, hb3⟩

set_option maxHeartbeats 800000 in
theorem parseDec_on (l : List UInt8) (hl : l.length ≤ 140737488355328) (w : World) (hV : VRange w) (hb : decBad (unsig l) = false) (hp : decP (unsig l) = false) (hn : (decF (unsig l)).length ≤ 18) (hv : valD (decD (unsig l) ++ decF (unsig l)) ≤ 999999999999999999) :
    Calls Tryz.prog 104 #[.string ⟨l.toArray⟩] w fun e w' => e = .returned (.tuple #[.int .i64 (dV l), .int .i64 (dS l), .int .i64 (dE l)]) ∧ Below w.heap.size w w' := by
  have s1 := sized_unsig l
  have s2 := sized_D (unsig l)
  have s3 := sized_F (unsig l)
  have s4 : (l.take (cutAt l)).length + (decF (unsig l)).length ≤ 9223372036854775807 := by rw [List.length_take]; omega
  have HC := libCut l (by omega) w
  have HM := fun W => cutMinus (l.take (cutAt l)) W
  have HW := whole_unsig l
  rw [HW] at HM
  have hd := (parts_digits hb).1
  have HA := allD (decD (unsig l)) true hd (by omega)
  rw [hp] at HC
  have HI := both_int l hl hb
  have hV := Lib.hid hV
  obtain ⟨i1, i2⟩ := (sv_fits (valD (decD (unsig l) ++ decF (unsig l))) (negB l)).1 hv
  rw [okOr_in i1, errOr_in i1] at HI
  have HF := fun W => fits_any (sv (valD (decD (unsig l) ++ decF (unsig l))) (negB l)) W
  rw [i2] at HF
  obtain ⟨z1, z2, z3⟩ := dec_fit (l := l) hb (by simp [decOk, hb, hn, hv])
  have Z1 := Lib.hid z1
  have Z2 := Lib.hid z2
  have Z3 := Lib.hid z3
  clear z1 z2 z3 hd HW hp hb
  clear i1 i2 hv
  generalize sv (valD (decD (unsig l) ++ decF (unsig l))) (negB l) = V at *
  generalize l.take (cutAt l) = X at *
  generalize decD (unsig l) = D at *
  generalize decF (unsig l) = F at *

  go_enter Tryz.func104, Tryz.ntmps104
  go_wp2_with fail
  refine HC.mono ?_
  rintro e w1 ⟨rfl, hb1⟩
  go_wp2_with fail
  refine (HM _).mono ?_
  rintro e w2 ⟨rfl, rfl⟩
  go_wp2_with fail
  refine (HA _).mono ?_
  rintro e w2 ⟨rfl, rfl⟩
  go_wp2_with fail
  refine (HI _ (hV.out.next hb1)).mono ?_
  rintro e w2 ⟨rfl, hb2⟩
  have hb3 := hb1.trans (hb2.mono hb1.size)
  clear hb2 hV
  go_wp2_with fail
  refine (HF _).mono ?_
  rintro e w3 ⟨rfl, rfl⟩

  go_wp2
  refine bodyPost_ret (v := .tuple #[.int .i64 V, .int .i64 F.length, .int .i64 0]) (by simp [results, Tryz.results104, go_sem]) rfl ?_
  exact ⟨ret_dec Z1.out Z2.out Z3.out, hb3⟩

set_option maxHeartbeats 800000 in
theorem parseDec_un (l : List UInt8) (hl : l.length ≤ 140737488355328) (w : World) (hV : VRange w) (hb : decBad (unsig l) = false) (hp : decP (unsig l) = false) (hn : (decF (unsig l)).length ≤ 18) (hv : ¬ valD (decD (unsig l) ++ decF (unsig l)) ≤ 999999999999999999) (hi : In64 (sv (valD (decD (unsig l) ++ decF (unsig l))) (negB l))) :
    Calls Tryz.prog 104 #[.string ⟨l.toArray⟩] w fun e w' => e = .returned (.tuple #[.int .i64 (dV l), .int .i64 (dS l), .int .i64 (dE l)]) ∧ Below w.heap.size w w' := by
  have s1 := sized_unsig l
  have s2 := sized_D (unsig l)
  have s3 := sized_F (unsig l)
  have s4 : (l.take (cutAt l)).length + (decF (unsig l)).length ≤ 9223372036854775807 := by rw [List.length_take]; omega
  have HC := libCut l (by omega) w
  have HM := fun W => cutMinus (l.take (cutAt l)) W
  have HW := whole_unsig l
  rw [HW] at HM
  have hd := (parts_digits hb).1
  have HA := allD (decD (unsig l)) true hd (by omega)
  rw [hp] at HC
  have HI := both_int l hl hb
  have hV := Lib.hid hV
  have i2 := (sv_fits (valD (decD (unsig l) ++ decF (unsig l))) (negB l)).2 hv
  rw [okOr_in hi, errOr_in hi] at HI
  have HF := fun W => fits_any (sv (valD (decD (unsig l) ++ decF (unsig l))) (negB l)) W
  rw [i2] at HF
  obtain ⟨z1, z2, z3⟩ := dec_far (l := l) hb (by simp only [decOk, decide_eq_false hv, Bool.and_false])
  have Z1 := Lib.hid z1
  have Z2 := Lib.hid z2
  have Z3 := Lib.hid z3
  clear z1 z2 z3 hd HW hp hb
  clear hi i2 hv
  generalize sv (valD (decD (unsig l) ++ decF (unsig l))) (negB l) = V at *
  generalize l.take (cutAt l) = X at *
  generalize decD (unsig l) = D at *
  generalize decF (unsig l) = F at *

  go_enter Tryz.func104, Tryz.ntmps104
  go_wp2_with fail
  refine HC.mono ?_
  rintro e w1 ⟨rfl, hb1⟩
  go_wp2_with fail
  refine (HM _).mono ?_
  rintro e w2 ⟨rfl, rfl⟩
  go_wp2_with fail
  refine (HA _).mono ?_
  rintro e w2 ⟨rfl, rfl⟩
  go_wp2_with fail
  refine (HI _ (hV.out.next hb1)).mono ?_
  rintro e w2 ⟨rfl, hb2⟩
  have hb3 := hb1.trans (hb2.mono hb1.size)
  clear hb2 hV
  go_wp2_with fail
  refine (HF _).mono ?_
  rintro e w3 ⟨rfl, rfl⟩

  go_wp2
  refine bodyPost_ret (v := .tuple #[.int .i64 0, .int .i64 0, .int .i64 10]) (by simp [results, Tryz.results104, go_sem]) rfl ?_
  exact ⟨ret_dec Z1.out Z2.out Z3.out, hb3⟩

set_option maxHeartbeats 800000 in
theorem parseDec_vn (l : List UInt8) (hl : l.length ≤ 140737488355328) (w : World) (hV : VRange w) (hb : decBad (unsig l) = false) (hp : decP (unsig l) = false) (hn : (decF (unsig l)).length ≤ 18) (hv : ¬ valD (decD (unsig l) ++ decF (unsig l)) ≤ 999999999999999999) (hi : ¬ In64 (sv (valD (decD (unsig l) ++ decF (unsig l))) (negB l))) :
    Calls Tryz.prog 104 #[.string ⟨l.toArray⟩] w fun e w' => e = .returned (.tuple #[.int .i64 (dV l), .int .i64 (dS l), .int .i64 (dE l)]) ∧ Below w.heap.size w w' := by
  have s1 := sized_unsig l
  have s2 := sized_D (unsig l)
  have s3 := sized_F (unsig l)
  have s4 : (l.take (cutAt l)).length + (decF (unsig l)).length ≤ 9223372036854775807 := by rw [List.length_take]; omega
  have HC := libCut l (by omega) w
  have HM := fun W => cutMinus (l.take (cutAt l)) W
  have HW := whole_unsig l
  rw [HW] at HM
  have hd := (parts_digits hb).1
  have HA := allD (decD (unsig l)) true hd (by omega)
  rw [hp] at HC
  have HI := both_int l hl hb
  have hV := Lib.hid hV
  rw [okOr_out hi, errOr_out hi] at HI
  obtain ⟨z1, z2, z3⟩ := dec_far (l := l) hb (by simp only [decOk, decide_eq_false hv, Bool.and_false])
  have Z1 := Lib.hid z1
  have Z2 := Lib.hid z2
  have Z3 := Lib.hid z3
  clear z1 z2 z3 hd HW hp hb
  clear hi hv
  generalize l.take (cutAt l) = X at *
  generalize decD (unsig l) = D at *
  generalize decF (unsig l) = F at *

  go_enter Tryz.func104, Tryz.ntmps104
  go_wp2_with fail
  refine HC.mono ?_
  rintro e w1 ⟨rfl, hb1⟩
  go_wp2_with fail
  refine (HM _).mono ?_
  rintro e w2 ⟨rfl, rfl⟩
  go_wp2_with fail
  refine (HA _).mono ?_
  rintro e w2 ⟨rfl, rfl⟩
  go_wp2_with fail
  refine (HI _ (hV.out.next hb1)).mono ?_
  rintro e w2 ⟨rfl, hb2⟩
  have hb3 := hb1.trans (hb2.mono hb1.size)
  clear hb2 hV

  go_wp2
  refine bodyPost_ret (v := .tuple #[.int .i64 0, .int .i64 0, .int .i64 10]) (by simp [results, Tryz.results104, go_sem]) rfl ?_
  exact ⟨ret_dec Z1.out Z2.out Z3.out, hb3⟩

theorem parseDec_any (l : List UInt8) (hl : l.length ≤ 140737488355328) (w : World) (hV : VRange w) :
    Calls Tryz.prog 104 #[.string ⟨l.toArray⟩] w fun e w' => e = .returned (.tuple #[.int .i64 (dV l), .int .i64 (dS l), .int .i64 (dE l)]) ∧ Below w.heap.size w w' := by
  cases hd : digitsB (decD (unsig l))
  · exact parseDec_d l hl w hV hd
  · cases hb : decBad (unsig l)
    · cases hp : decP (unsig l)
      · have hn : (decF (unsig l)).length ≤ 18 := by rw [decF_none hp]; simp
        by_cases hv : valD (decD (unsig l) ++ decF (unsig l)) ≤ 999999999999999999
        · exact parseDec_on l hl w hV hb hp hn hv
        · by_cases hi : In64 (sv (valD (decD (unsig l) ++ decF (unsig l))) (negB l))
          · exact parseDec_un l hl w hV hb hp hn hv hi
          · exact parseDec_vn l hl w hV hb hp hn hv hi
      · by_cases hn : (decF (unsig l)).length ≤ 18
        · by_cases hv : valD (decD (unsig l) ++ decF (unsig l)) ≤ 999999999999999999
          · exact parseDec_op l hl w hV hb hp hn hv
          · by_cases hi : In64 (sv (valD (decD (unsig l) ++ decF (unsig l))) (negB l))
            · exact parseDec_up l hl w hV hb hp hn hv hi
            · exact parseDec_vp l hl w hV hb hp hn hv hi
        · exact parseDec_lp l hl w hV hb hp (by omega)
    · have h : decP (unsig l) = true ∧ digitsB (decF (unsig l)) = false := by simpa [decBad, hd] using hb
      exact parseDec_f l hl w hV hd h.1 h.2
end Go.Proofs.YtogdkhnakenbcaaGreatDoor
