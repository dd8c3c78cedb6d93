/-
  Contracts of ParseInt: the program's and the document's answer.
-/
import Derived.Test.YtogdkhnakenbcaaGreatDoorRead
import Derived.Test.YtogdkhnakenbcaaGreatDoorText
import Derived.Lib.AtoiErrMem
namespace Go.Proofs.YtogdkhnakenbcaaGreatDoor
open Go.ChangeShapes Go.WideShapes Go.ChangeAt Go.RowKit
set_option linter.unusedVariables false

theorem sized_unsig (l : List UInt8) : (unsig l).length ≤ l.length := by unfold unsig; split <;> simp
/-- strconv.ErrRange holds an error. -/
def VRange (w : World) : Prop := ∃ tp p, w.var? Tryz.prog "strconv.ErrRange" = some #[.iface tp p]
theorem gErr : Tryz.prog.globalNamed "strconv.ErrRange" = some 6 := by kernel_rfl
theorem VRange.next {w w' : World} (h : VRange w) (hb : Below w.heap.size w w') : VRange w' := by
  obtain ⟨tp, p, h⟩ := h
  refine ⟨tp, p, ?_⟩
  have hlt : 6 < w.heap.size := by
    rcases Nat.lt_or_ge 6 w.heap.size with h' | h'
    · exact h'
    · simp [World.var?, gErr, Array.getElem?_eq_none h'] at h
  have hs := hb.block _ hlt
  unfold World.var? at h ⊢
  rw [gErr] at h ⊢
  simp only [Option.bind_some] at h ⊢
  rw [hs]
  exact h

theorem cutMinus (l : List UInt8) (w : World) : Calls Tryz.prog 101 #[.string ⟨l.toArray⟩, .string ⟨#[45]⟩] w fun e w' => e = .returned (.tuple #[.string ⟨(unsig l).toArray⟩, .bool (negB l)]) ∧ w = w' := by
  refine (Tryz.strings_CutPrefix ⟨l.toArray⟩ ⟨#[45]⟩ w).mono ?_
  rintro e w' ⟨rfl, rfl⟩
  have t := trim_unsig l
  refine ⟨?_, rfl⟩
  show Ending.returned (.tuple #[.string ⟨(Lib.trimPrefix l [45]).toArray⟩, .bool (Lib.hasPrefix l [45])]) = _
  rw [t.1, t.2]

theorem libInt_ok (l : List UInt8) (hl : l.length ≤ 281474976710656) (hd : digitsB (unsig l) = true) (hr : In64 (numV l)) (w : World) :
    Calls Tryz.prog 103 #[.string ⟨l.toArray⟩, .int .i64 10, .int .i64 64] w fun e w' => e = .returned (.tuple #[.int .i64 (numV l), .nilIface]) ∧ Below w.heap.size w w' := by
  refine (Tryz.strconv_ParseInt_10_at64_ok ⟨l.toArray⟩ (by rw [bytes_size]; omega) (numV l) ((parse64 l hd).1 hr) w).mono ?_
  rintro e w' ⟨rfl, h⟩
  refine ⟨rfl, ?_⟩
  rcases h with rfl | ⟨t, rfl⟩
  · exact Below.refl _ _
  · exact Lib.bytesWorld_below _ _ _

theorem libInt_far (l : List UInt8) (hl : l.length ≤ 281474976710656) (hd : digitsB (unsig l) = true) (hr : ¬ In64 (numV l)) (w : World) (hV : VRange w) :
    Calls Tryz.prog 103 #[.string ⟨l.toArray⟩, .int .i64 10, .int .i64 64] w fun e w' => (∃ v t p, e = .returned (.tuple #[.int .i64 v, .iface t p])) ∧ Below w.heap.size w w' := by
  obtain ⟨tp, p, hv⟩ := hV
  refine (Tryz.strconv_ParseInt_10_at64_range_var ⟨l.toArray⟩ (by rw [bytes_size]; omega) ((parse64 l hd).2 hr) tp p w hv).mono ?_
  rintro e w' ⟨N, rfl, _, _, hb⟩
  exact ⟨⟨_, _, _, rfl⟩, hb⟩

/-- What ParseInt answers. -/
def pI (l : List UInt8) : Int := if digitsB (unsig l) = true then okOr (numV l) else 0
def pE (l : List UInt8) : Int := if digitsB (unsig l) = true then errOr (numV l) else 12

set_option maxHeartbeats 800000 in
theorem parseInt_any (l : List UInt8) (hl : l.length ≤ 281474976710656) (w : World) (hV : VRange w) :
    Calls Tryz.prog 73 #[.string ⟨l.toArray⟩] w fun e w' => e = .returned (.tuple #[.int .i64 (pI l), .int .i64 (pE l)]) ∧ Below w.heap.size w w' := by
  have hu : (unsig l).length ≤ 9223372036854775807 := by have := sized_unsig l; omega
  cases hd : digitsB (unsig l)
  · have H1 : Hid (pI l = 0) := by show _ = _; unfold pI; rw [hd]; rfl
    have H2 : Hid (pE l = 12) := by show _ = _; unfold pE; rw [hd]; rfl
    have HA : ∀ W, Calls Tryz.prog 102 #[.string ⟨(unsig l).toArray⟩] W fun e w' => e = .returned (.bool false) ∧ W = w' := fun W => by
      have h := allDigits_any (unsig l) hu W; rwa [hd] at h
    go_enter Tryz.func73, Tryz.ntmps73
    go_wp2_with (go_at_call 101; refine (cutMinus l _).mono ?_; rintro e w' ⟨rfl, rfl⟩)
    go_wp2_with (go_at_call 102; refine (HA _).mono ?_; rintro e w' ⟨rfl, rfl⟩)
    go_ret2
    exact ⟨ret_pair H1.out.symm H2.out.symm, Below.refl _ _⟩
  · have HA : ∀ W, Calls Tryz.prog 102 #[.string ⟨(unsig l).toArray⟩] W fun e w' => e = .returned (.bool true) ∧ W = w' := fun W => by
      have h := allDigits_any (unsig l) hu W; rwa [hd] at h
    by_cases hr : In64 (numV l)
    · have H1 : Hid (pI l = numV l) := by show _ = _; unfold pI; rw [hd, okOr_in hr]; rfl
      have H2 : Hid (pE l = 0) := by show _ = _; unfold pE; rw [hd, errOr_in hr]; rfl
      have HL := libInt_ok l hl hd hr w
      clear hr hd
      go_enter Tryz.func73, Tryz.ntmps73
      go_wp2_with fail
      refine (cutMinus l _).mono ?_
      rintro e w' ⟨rfl, rfl⟩
      go_wp2_with fail
      refine (HA _).mono ?_
      rintro e w' ⟨rfl, rfl⟩
      go_wp2_with fail
      refine HL.mono ?_
      rintro e w' ⟨rfl, hb⟩
      go_wp2
      go_ret2
      exact ⟨ret_pair H1.out.symm H2.out.symm, hb⟩
    · have H1 : Hid (pI l = 0) := by show _ = _; unfold pI; rw [hd, okOr_out hr]; rfl
      have H2 : Hid (pE l = 10) := by show _ = _; unfold pE; rw [hd, errOr_out hr]; rfl
      have HL := libInt_far l hl hd hr w hV
      clear hr hd hV
      go_enter Tryz.func73, Tryz.ntmps73
      go_wp2_with fail
      refine (cutMinus l _).mono ?_
      rintro e w' ⟨rfl, rfl⟩
      go_wp2_with fail
      refine (HA _).mono ?_
      rintro e w' ⟨rfl, rfl⟩
      go_wp2_with fail
      refine HL.mono ?_
      rintro e w' ⟨⟨v, t, p, rfl⟩, hb⟩
      go_wp2
      go_ret2
      exact ⟨ret_pair H1.out.symm H2.out.symm, hb⟩

theorem sv_numV (l : List UInt8) : sv (valD (unsig l)) (negB l) = numV l := by
  unfold sv
  cases h : negB l
  · rw [numV_pos h]; simp
  · rw [numV_neg h]; simp

theorem head_neg {l : List UInt8} (h : negB l = true) : 0 < l.length ∧ ∃ hs : 0 < (⟨l.toArray⟩ : ByteArray).size, ((⟨l.toArray⟩ : ByteArray)[0].toNat : Int) = 45 := by
  match l with
  | [] => simp [negB] at h
  | c :: r =>
    have hc : c = 45 := by simpa [negB] using h
    subst hc
    exact ⟨by simp, by rw [bytes_size]; simp, rfl⟩
theorem head_pos {l : List UInt8} (h : negB l = false) (h0 : 0 < l.length) : ∃ hs : 0 < (⟨l.toArray⟩ : ByteArray).size, ¬ ((⟨l.toArray⟩ : ByteArray)[0].toNat : Int) = 45 := by
  match l with
  | [] => simp at h0
  | c :: r =>
    have hc : ¬ c = 45 := by simpa [negB] using h
    refine ⟨by rw [bytes_size]; simp, fun e => hc ?_⟩
    have e' : (c.toNat : Int) = 45 := e
    have e2 : c.toNat = 45 := by omega
    exact UInt8.toNat_inj.1 e2
theorem unsig_ext {l : List UInt8} (h : negB l = true) : (⟨l.toArray⟩ : ByteArray).extract 1 l.length = ⟨(unsig l).toArray⟩ := by
  rw [bytes_ext]
  match l with
  | [] => simp [negB] at h
  | c :: r =>
    have hc : c = 45 := by simpa [negB] using h
    subst hc
    simp [unsig]
theorem unsig_pos {l : List UInt8} (h : negB l = false) : unsig l = l := by
  have h' : ¬ l.head? = some 45 := by simpa [negB] using h
  simp [unsig, h']

theorem refDig (l : List UInt8) (b : Bool) (hd : digitsB l = b) (hl : l.length ≤ 9223372036854775807) (W : World) :
    Calls Tryz.prog 77 #[.string ⟨l.toArray⟩] W fun e w' => e = .returned (.bool b) ∧ W = w' := by
  have h := refDigits_any l hl W; rwa [hd] at h
theorem signed_of (l : List UInt8) (hv : valD (unsig l) ≤ 9223372036854775808) (b : Bool) (hb : negB l = b) (W : World) :
    Calls Tryz.prog 56 #[.int .u64 (valD (unsig l)), .bool b] W fun e w' => e = .returned (.tuple #[.int .i64 (okOr (numV l)), .int .i64 (errOr (numV l))]) ∧ W = w' := by
  have h := signed_any (valD (unsig l)) (negB l) (by omega) W
  rw [sv_numV, hb] at h
  exact h
theorem far_of {l : List UInt8} (h : ¬ valD (unsig l) ≤ 9223372036854775808) : ¬ In64 (numV l) := by
  unfold In64
  cases hn : negB l
  · rw [numV_pos hn]; omega
  · rw [numV_neg hn]; omega

set_option maxHeartbeats 800000 in
theorem refParseInt_neg (l : List UInt8) (hl : l.length ≤ 281474976710656) (w : World) (hn : negB l = true) :
    Calls Tryz.prog 49 #[.string ⟨l.toArray⟩] w fun e w' => e = .returned (.tuple #[.int .i64 (pI l), .int .i64 (pE l)]) ∧ w = w' := by
  have hu : (unsig l).length ≤ 9223372036854775807 := by have := sized_unsig l; omega
  obtain ⟨h0, hs, hc⟩ := head_neg hn
  have hE := unsig_ext hn
  cases hd : digitsB (unsig l)
  · have H1 : Hid (pI l = 0) := by show _ = _; unfold pI; rw [hd]; rfl
    have H2 : Hid (pE l = 12) := by show _ = _; unfold pE; rw [hd]; rfl
    have HA := refDig (unsig l) false hd hu w
    clear hd
    go_enter Tryz.func49, Tryz.ntmps49
    go_wp2_with fail
    refine HA.mono ?_
    rintro e w' ⟨rfl, rfl⟩
    go_wp2
    go_ret2
    exact ⟨ret_pair H1.out.symm H2.out.symm, rfl⟩
  · have HA := refDig (unsig l) true hd hu w
    have hdd := (digits_all hd).2
    by_cases hv : valD (unsig l) ≤ 9223372036854775808
    · have H1 : Hid (pI l = okOr (numV l)) := by show _ = _; unfold pI; rw [hd]; rfl
      have H2 : Hid (pE l = errOr (numV l)) := by show _ = _; unfold pE; rw [hd]; rfl
      have HR := read_yes (unsig l) 9223372036854775808 hdd hu (by omega) (by omega) hv w
      have HS := signed_of l hv true hn w
      clear hd hdd hv
      go_enter Tryz.func49, Tryz.ntmps49
      go_wp2_with fail
      refine HA.mono ?_
      rintro e w' ⟨rfl, rfl⟩
      go_wp2_with fail
      refine HR.mono ?_
      rintro e w' ⟨rfl, rfl⟩
      go_wp2_with fail
      refine HS.mono ?_
      rintro e w' ⟨rfl, rfl⟩
      go_wp2
      go_ret2
      exact ⟨ret_pair H1.out.symm H2.out.symm, rfl⟩
    · have hr := far_of hv
      have H1 : Hid (pI l = 0) := by show _ = _; unfold pI; rw [hd, okOr_out hr]; rfl
      have H2 : Hid (pE l = 10) := by show _ = _; unfold pE; rw [hd, errOr_out hr]; rfl
      have HR := read_no (unsig l) 9223372036854775808 hdd hu (by omega) (by omega) hv w
      clear hd hdd hv hr
      go_enter Tryz.func49, Tryz.ntmps49
      go_wp2_with fail
      refine HA.mono ?_
      rintro e w' ⟨rfl, rfl⟩
      go_wp2_with fail
      refine HR.mono ?_
      rintro e w' ⟨rfl, rfl⟩
      go_wp2
      go_ret2
      exact ⟨ret_pair H1.out.symm H2.out.symm, rfl⟩

set_option maxHeartbeats 800000 in
theorem refParseInt_pos (l : List UInt8) (hl : l.length ≤ 281474976710656) (w : World) (hn : negB l = false) (h0 : 0 < l.length) :
    Calls Tryz.prog 49 #[.string ⟨l.toArray⟩] w fun e w' => e = .returned (.tuple #[.int .i64 (pI l), .int .i64 (pE l)]) ∧ w = w' := by
  have hu : (unsig l).length ≤ 9223372036854775807 := by have := sized_unsig l; omega
  obtain ⟨hs, hc⟩ := head_pos hn h0
  have hE := unsig_pos hn
  cases hd : digitsB (unsig l)
  · have H1 : Hid (pI l = 0) := by show _ = _; unfold pI; rw [hd]; rfl
    have H2 : Hid (pE l = 12) := by show _ = _; unfold pE; rw [hd]; rfl
    have HA := refDig (unsig l) false hd hu w
    rw [hE] at HA
    clear hd
    go_enter Tryz.func49, Tryz.ntmps49
    go_wp2_with fail
    refine HA.mono ?_
    rintro e w' ⟨rfl, rfl⟩
    go_wp2
    go_ret2
    exact ⟨ret_pair H1.out.symm H2.out.symm, rfl⟩
  · have HA := refDig (unsig l) true hd hu w
    have hdd := (digits_all hd).2
    by_cases hv : valD (unsig l) ≤ 9223372036854775808
    · have H1 : Hid (pI l = okOr (numV l)) := by show _ = _; unfold pI; rw [hd]; rfl
      have H2 : Hid (pE l = errOr (numV l)) := by show _ = _; unfold pE; rw [hd]; rfl
      have HR := read_yes (unsig l) 9223372036854775808 hdd hu (by omega) (by omega) hv w
      have HS := signed_of l hv false hn w
      rw [hE] at HA HR HS
      clear hd hdd hv
      go_enter Tryz.func49, Tryz.ntmps49
      go_wp2_with fail
      refine HA.mono ?_
      rintro e w' ⟨rfl, rfl⟩
      go_wp2_with fail
      refine HR.mono ?_
      rintro e w' ⟨rfl, rfl⟩
      go_wp2_with fail
      refine HS.mono ?_
      rintro e w' ⟨rfl, rfl⟩
      go_wp2
      go_ret2
      exact ⟨ret_pair H1.out.symm H2.out.symm, rfl⟩
    · have hr := far_of hv
      have H1 : Hid (pI l = 0) := by show _ = _; unfold pI; rw [hd, okOr_out hr]; rfl
      have H2 : Hid (pE l = 10) := by show _ = _; unfold pE; rw [hd, errOr_out hr]; rfl
      have HR := read_no (unsig l) 9223372036854775808 hdd hu (by omega) (by omega) hv w
      rw [hE] at HA HR
      clear hd hdd hv hr
      go_enter Tryz.func49, Tryz.ntmps49
      go_wp2_with fail
      refine HA.mono ?_
      rintro e w' ⟨rfl, rfl⟩
      go_wp2_with fail
      refine HR.mono ?_
      rintro e w' ⟨rfl, rfl⟩
      go_wp2
      go_ret2
      exact ⟨ret_pair H1.out.symm H2.out.symm, rfl⟩

theorem refParseInt_any (l : List UInt8) (hl : l.length ≤ 281474976710656) (w : World) :
    Calls Tryz.prog 49 #[.string ⟨l.toArray⟩] w fun e w' => e = .returned (.tuple #[.int .i64 (pI l), .int .i64 (pE l)]) ∧ w = w' := by
  cases hn : negB l
  · rcases Nat.eq_zero_or_pos l.length with h0 | h0
    · obtain rfl := List.length_eq_zero_iff.1 h0
      have HA := refDig [] false rfl (by simp) w
      go_enter Tryz.func49, Tryz.ntmps49
      go_wp2_with fail
      refine HA.mono ?_
      rintro e w' ⟨rfl, rfl⟩
      go_wp2
      go_ret2
      exact ⟨rfl, rfl⟩
    · exact refParseInt_pos l hl w hn h0
  · exact refParseInt_neg l hl w hn
end Go.Proofs.YtogdkhnakenbcaaGreatDoor
