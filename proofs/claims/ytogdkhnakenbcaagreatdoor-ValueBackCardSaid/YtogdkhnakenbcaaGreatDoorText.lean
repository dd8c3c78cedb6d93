/-
  Contracts of the written numbers: strconv.FormatUint at base 10, num.magnitude, padded, FormatDec.
-/
import Derived.Test.YtogdkhnakenbcaaGreatDoorSums
import Derived.Test.YtogdkhnakenbcaaGreatDoorShelf
import Derived.Lib.ItoaMem
import Derived.Lib.AppendIntMem
import Derived.Lib.Repeat
import Derived.Deep.Draws
import Derived.Deep.QuietTactic
import Derived.BigQuiet
import Derived.WalkSpells
namespace Go.Proofs.YtogdkhnakenbcaaGreatDoor
open Go.ChangeShapes Go.WideShapes Go.ChangeAt Go.RowKit Go.Sort
set_option linter.unusedVariables false

def PowLaid (w : World) : Prop := Lib.TabIs Tryz.prog w "internal/strconv.uint64pow10" .u64 Lib.pow10Tab
theorem PowLaid.below {w w' : World} (h : PowLaid w) (hb : Below w.heap.size w w') : PowLaid w' := by
  unfold PowLaid Lib.TabIs World.var? at *
  cases hg : Tryz.prog.globalNamed "internal/strconv.uint64pow10" with
  | none => simp [hg] at h
  | some g =>
    simp only [hg, Option.bind_some] at h ⊢
    have hlt : g < w.heap.size := by
      rcases Nat.lt_or_ge g w.heap.size with h' | h'
      · exact h'
      · rw [Array.getElem?_eq_none h'] at h; simp at h
    rw [hb.block g hlt]
    exact h

set_option maxHeartbeats 1600000 in
set_option maxRecDepth 100000 in
theorem uintBig (u : Nat) (hu : 100 ≤ u) (hu64 : u < 18446744073709551616) (w : World) (htab : PowLaid w) :
    Calls Tryz.prog 148 #[.int .u64 u, .int .i64 10] w fun e w' => e = .returned (.string ⟨(Lib.decDigits u).toArray⟩) ∧ Below w.heap.size w w' := by
  have hu1 : 1 ≤ u := by omega
  have hnd20 : Lib.nDigits u ≤ 20 := by have := Lib.numDigits_eq u hu1 hu64; split at this <;> omega
  have hal : Tryz.prog.arrayLen 126 = 24 := by kernel_rfl
  have hsl : ∀ W, (Instr.sliceAt 126 (.pointer (some ⟨w.heap.size, 0, none⟩)) none (some (.int .i64 (Lib.nDigits u : Int))) none).run Tryz.prog W = .ok (.slice (some ⟨w.heap.size, 0, none⟩) (Lib.nDigits u) 24) W := fun W => by
    rw [run_sliceAt_array_h W 126 ⟨w.heap.size, 0, none⟩ (by simp [Program.arrayLen, Program.elem, Tryz.underlying126]) .i64 (Lib.nDigits u : Int) (by omega) (by rw [hal]; omega)]
    go_simp
  have hH0 := Lib.holds_zero0 w 126 (Lib.nDigits u) (by omega)
  have hfmt := Tryz.internal_strconv_formatBase10 w.heap.size 0 24 u (Array.replicate (Lib.nDigits u) 0) (w.alloc (.cells Lib.zeros24 126)) hH0 (by rw [Array.size_replicate]; exact Lib.lt_pow_nDigits u) hu64 (by rw [Array.size_replicate]; omega)
  rw [Array.size_replicate] at hfmt
  have HH0 := Lib.hid hH0
  have iu : (100 : Int) ≤ (u : Int) := by omega
  clear hH0 hal
  go_enter Tryz.func148, Tryz.ntmps148
  go_wp2_with (go_at_call 117; refine (Tryz.internal_strconv_numDigits u hu1 hu64 _ (Lib.tabIs_alloc htab _)).mono ?_; rintro e w' ⟨rfl, rfl⟩)
  go_at_call 118
  refine hfmt.mono ?_
  rintro e w' ⟨rfl, k, v', dk, rfl, hF⟩
  have hcv : (convert 61 9 (.slice (some ⟨w.heap.size, 0, none⟩) (Lib.nDigits u) 24)).run Tryz.prog ((putRow (fun (b : UInt8) => Value.int .u8 (b.toNat : Int)) (w.alloc (.cells Lib.zeros24 126)) w.heap.size 0 dk).drewN k) = .ok (.string ⟨(Lib.decDigits u).toArray⟩) ((putRow (fun (b : UInt8) => Value.int .u8 (b.toNat : Int)) (w.alloc (.cells Lib.zeros24 126)) w.heap.size 0 dk).drewN k) := by
    have h := run_convert_bytes_back (P := Tryz.prog) ((putRow (fun (b : UInt8) => Value.int .u8 (b.toNat : Int)) (w.alloc (.cells Lib.zeros24 126)) w.heap.size 0 dk).drewN k) 61 9 5 ⟨w.heap.size, 0, none⟩ 24 (Lib.decDigits u) Tryz.underlying61 Tryz.underlying5 Tryz.underlying9 (fun j hj => by
      rw [Lib.row_is_numeral hF j hj, Lib.add_plain, World.cell?_drewN]
      exact cell?_putRow (fun (b : UInt8) => Value.int .u8 (b.toNat : Int)) _ w.heap.size 0 _ dk HH0.out (by rw [hF.size, Array.size_replicate]) j (by rw [hF.size]; rw [Lib.decDigits_length] at hj; exact hj))
    rw [Lib.decDigits_length] at h
    exact h
  go_wp2
  go_ret
  obtain ⟨os, eo⟩ := Lib.fin_at w (.cells Lib.zeros24 126) dk k 0
  refine ⟨rfl, ?_⟩
  rw [eo]
  exact Lib.below_grow w.heap.size w (Nat.le_refl _) k os

theorem uintSmall (u : Nat) (hu : u < 100) (w : World) :
    Calls Tryz.prog 148 #[.int .u64 u, .int .i64 10] w fun e w' => e = .returned (.string ⟨(Lib.decDigits u).toArray⟩) ∧ w = w' := by
  go_enter Tryz.func148, Tryz.ntmps148
  go_wp2_with (go_at_call 116; refine (Tryz.internal_strconv_small u hu _).mono ?_; rintro e w' ⟨rfl, rfl⟩)
  go_ret
  exact ⟨rfl, rfl⟩

theorem formatUint_any (u : Nat) (hu64 : u < 18446744073709551616) (w : World) (htab : PowLaid w) :
    Calls Tryz.prog 120 #[.int .u64 u, .int .i64 10] w fun e w' => e = .returned (.string ⟨(Lib.decDigits u).toArray⟩) ∧ Below w.heap.size w w' := by
  have H : Calls Tryz.prog 148 #[.int .u64 u, .int .i64 10] w fun e w' => e = .returned (.string ⟨(Lib.decDigits u).toArray⟩) ∧ Below w.heap.size w w' := by
    by_cases h : u < 100
    · exact (uintSmall u h w).mono fun e w' ⟨a, b⟩ => ⟨a, by subst b; exact Below.refl _ _⟩
    · exact uintBig u (by omega) hu64 w htab
  have HH := Lib.hid H
  clear H
  go_enter Tryz.func120, Tryz.ntmps120
  go_wp2_with (go_at_call 148; refine HH.out.mono ?_; rintro e w' ⟨rfl, hb⟩)
  go_ret
  exact ⟨rfl, hb⟩

theorem bytes_app (a b : List UInt8) : (⟨a.toArray⟩ : ByteArray) ++ ⟨b.toArray⟩ = ⟨(a ++ b).toArray⟩ := by
  apply ByteArray.ext; simp
theorem bytes_ext (l : List UInt8) (i j : Nat) : (⟨l.toArray⟩ : ByteArray).extract i j = ⟨((l.drop i).take (j - i)).toArray⟩ := by
  apply ByteArray.ext; simp [ByteArray.data_extract, List.take_drop]
theorem bytes_size (l : List UInt8) : (⟨l.toArray⟩ : ByteArray).size = l.length := by simp [ByteArray.size]

/-- The digits of u, with noughts ahead of them: at least n. -/
def padL (u n : Nat) : List UInt8 := Lib.repeatL [48] (n - (Lib.decDigits u).length) ++ Lib.decDigits u

theorem digits_len (u : Nat) (hu : u < 18446744073709551616) : 1 ≤ (Lib.decDigits u).length ∧ (Lib.decDigits u).length ≤ 20 := by
  rw [Lib.decDigits_length]
  by_cases h : u = 0
  · subst h; rw [Lib.nDigits_small (by omega)]; omega
  · have := Lib.numDigits_eq u (by omega) hu
    have h1 : 1 ≤ Lib.nDigits u := by
      by_cases h10 : u < 10
      · rw [Lib.nDigits_small h10]; omega
      · rw [Lib.nDigits_big (by omega)]; omega
    split at this <;> omega

theorem ret_str {a b : List UInt8} (h : a = b) : Ending.returned (.string ⟨a.toArray⟩) = .returned (.string ⟨b.toArray⟩) := by rw [h]

set_option maxHeartbeats 800000 in
theorem padded_any (u n : Nat) (hu64 : u < 18446744073709551616) (hn : n ≤ 100) (w : World) (htab : PowLaid w) :
    Calls Tryz.prog 88 #[.int .u64 u, .int .i64 n] w fun e w' => e = .returned (.string ⟨(padL u n).toArray⟩) ∧ Below w.heap.size w w' := by
  have hl := digits_len u hu64
  have HM : Hid (max 0 ((n : Int) - ((Lib.decDigits u).length : Int)) = ((n - (Lib.decDigits u).length : Nat) : Int)) := by show _ = _; omega
  have hrl : (Lib.repeatL [48] (n - (Lib.decDigits u).length)).length ≤ 100 := by rw [Lib.repeatL_length]; simp; omega
  go_enter Tryz.func88, Tryz.ntmps88
  go_wp2_with (go_at_call 120; refine (formatUint_any u hu64 _ htab).mono ?_; rintro e w' ⟨rfl, hb⟩)
  rw [HM.out]
  refine (Tryz.strings_Repeat ⟨#[48]⟩ (n - (Lib.decDigits u).length) _ (by omega) (by show 1 * _ ≤ _; omega)).mono ?_
  rintro e w2 ⟨rfl, hb2⟩
  go_wp2
  go_ret
  exact ⟨by rw [bytes_app]; rfl, hb.trans (hb2.mono hb.size)⟩

theorem padL_len (u n : Nat) (hu64 : u < 18446744073709551616) (h1 : 1 ≤ n) (hn : n ≤ 100) : n ≤ (padL u n).length ∧ (padL u n).length ≤ 120 := by
  have hl := digits_len u hu64
  unfold padL
  rw [List.length_append, Lib.repeatL_length]
  simp
  omega

theorem mag_any (v : Int) (w : World) (hv : In64 v) :
    Calls Tryz.prog 89 #[.int .i64 v] w fun e w' => e = .returned (.int .u64 (v.natAbs : Int)) ∧ w = w' := by
  unfold In64 at hv
  by_cases h : v < 0
  · have H : Hid (IntKind.u64.wrap (-IntKind.u64.wrap v) = (v.natAbs : Int)) := by show _ = _; rw [IntKind.wrap_u64, IntKind.wrap_u64]; omega
    go_enter Tryz.func89, Tryz.ntmps89
    go_wp2
    go_ret
    refine ⟨?_, rfl⟩
    first | (rw [← H.out]; rfl) | (simp; omega)
  · go_enter Tryz.func89, Tryz.ntmps89
    go_wp2
    go_ret
    refine ⟨?_, rfl⟩
    first | rfl | (simp; omega)

def isScaleB (k : Int) : Bool := decide (0 ≤ k ∧ k ≤ 18)
theorem isScale_any (k : Int) (w : World) :
    Calls Tryz.prog 87 #[.int .i64 k] w fun e w' => e = .returned (.bool (isScaleB k)) ∧ w = w' := by
  by_cases h0 : 0 ≤ k
  · by_cases h1 : k ≤ 18
    · have H : Hid (isScaleB k = true) := by show _ = _; simp [isScaleB, h0, h1]
      go_enter Tryz.func87, Tryz.ntmps87
      go_wp2
      go_ret
      exact ⟨ret_bool H.out.symm, rfl⟩
    · have H : Hid (isScaleB k = false) := by show _ = _; simp [isScaleB, h1]
      have hd : decide (k ≤ 18) = false := by simpa using h1
      go_enter Tryz.func87, Tryz.ntmps87
      go_wp2
      go_ret
      exact ⟨ret_bool H.out.symm, rfl⟩
  · have H : Hid (isScaleB k = false) := by show _ = _; simp [isScaleB, h0]
    have hd : decide (0 ≤ k) = false := by simpa using h0
    go_enter Tryz.func87, Tryz.ntmps87
    go_wp2
    go_ret
    exact ⟨ret_bool H.out.symm, rfl⟩

/-- A decimal's digits with the point laid in, k of them behind it. -/
def ptL (s : List UInt8) (k : Nat) : List UInt8 := if k = 0 then s else s.take (s.length - k) ++ [46] ++ s.drop (s.length - k)
def decL (v : Int) (k : Nat) : List UInt8 := if v < 0 then 45 :: ptL (padL v.natAbs (k + 1)) k else ptL (padL v.natAbs (k + 1)) k
theorem ret_strE {a b : List UInt8} {n : Int} (h : a = b) : Ending.returned (.tuple #[.string ⟨a.toArray⟩, .int .i64 n]) = .returned (.tuple #[.string ⟨b.toArray⟩, .int .i64 n]) := by rw [h]

theorem formatDec_no (v k : Int) (w : World) (h : isScaleB k = false) :
    Calls Tryz.prog 64 #[.int .i64 v, .int .i64 k] w fun e w' => e = .returned (.tuple #[.string ⟨#[]⟩, .int .i64 1]) ∧ w = w' := by
  go_enter Tryz.func64, Tryz.ntmps64
  go_wp2_with (go_at_call 87; refine (isScale_any _ _).mono ?_; rintro e w' ⟨rfl, rfl⟩)
  go_ret2
  exact ⟨rfl, rfl⟩

theorem below_drewN {B : Nat} {a w : World} (h : Below B a w) (n : Nat) : Below B a (w.drewN n) := ⟨h.os, h.tape, h.output, h.size, h.block⟩
theorem ret_bytesE {a b : ByteArray} {n : Int} (h : a = b) : Ending.returned (.tuple #[.string a, .int .i64 n]) = .returned (.tuple #[.string b, .int .i64 n]) := by rw [h]
theorem dec_mid (S : List UInt8) (k : Nat) : (⟨S.toArray⟩ : ByteArray).extract 0 (S.length - k) ++ ⟨#[46]⟩ ++ (⟨S.toArray⟩ : ByteArray).extract (S.length - k) S.length = ⟨(S.take (S.length - k) ++ [46] ++ S.drop (S.length - k)).toArray⟩ := by
  rw [bytes_ext, bytes_ext]
  apply ByteArray.ext
  simp
  rw [List.take_of_length_le (by simp)]
theorem dec_neg (l : List UInt8) : (⟨#[45]⟩ : ByteArray) ++ ⟨l.toArray⟩ = ⟨(45 :: l).toArray⟩ := bytes_app [45] l

set_option maxHeartbeats 1600000 in
theorem formatDec_yes (v : Int) (k : Nat) (hv : In64 v) (hk : k ≤ 18) (w : World) (htab : PowLaid w) :
    Calls Tryz.prog 64 #[.int .i64 v, .int .i64 k] w fun e w' => e = .returned (.tuple #[.string ⟨(decL v k).toArray⟩, .int .i64 0]) ∧ Below w.heap.size w w' := by
  have hS : isScaleB (k : Int) = true := by simp [isScaleB]; omega
  have hu : v.natAbs < 18446744073709551616 := by unfold In64 at hv; omega
  have hL := padL_len v.natAbs (k + 1) hu (by omega) (by omega)
  obtain ⟨S, eS⟩ : ∃ S, S = padL v.natAbs (k + 1) := ⟨_, rfl⟩
  have HS := Lib.hid eS
  rw [← eS] at hL
  clear eS
  have HK : Hid ((k : Int) + 1 = ((k + 1 : Nat) : Int)) := by show _ = _; omega
  by_cases h0 : k = 0
  · subst h0
    by_cases hneg : v < 0
    · have HR : Hid (decL v 0 = 45 :: S) := by show _ = _; rw [decL, if_pos hneg, ptL, if_pos rfl, ← HS.out]
      go_enter Tryz.func64, Tryz.ntmps64
      go_wp2_with (first | (go_at_call 87; refine (isScale_any _ _).mono ?_; rintro e w' ⟨rfl, rfl⟩) | (go_at_call 89; refine (mag_any _ _ hv).mono ?_; rintro e w' ⟨rfl, rfl⟩) | (go_at_call 88; refine (padded_any _ (0 + 1) hu (by omega) _ htab).mono ?_; rw [← HS.out]; rintro e w' ⟨rfl, hb⟩))
      go_ret2
      exact ⟨ret_bytesE (by rw [dec_neg, HR.out]), hb⟩
    · have HR : Hid (decL v 0 = S) := by show _ = _; rw [decL, if_neg hneg, ptL, if_pos rfl, ← HS.out]
      go_enter Tryz.func64, Tryz.ntmps64
      go_wp2_with (first | (go_at_call 87; refine (isScale_any _ _).mono ?_; rintro e w' ⟨rfl, rfl⟩) | (go_at_call 89; refine (mag_any _ _ hv).mono ?_; rintro e w' ⟨rfl, rfl⟩) | (go_at_call 88; refine (padded_any _ (0 + 1) hu (by omega) _ htab).mono ?_; rw [← HS.out]; rintro e w' ⟨rfl, hb⟩))
      go_ret2
      exact ⟨ret_bytesE (by rw [HR.out]), hb⟩
  · have hk0 : (0 : Int) < (k : Int) := by omega
    by_cases hneg : v < 0
    · have HR : Hid (decL v k = 45 :: (S.take (S.length - k) ++ [46] ++ S.drop (S.length - k))) := by show _ = _; rw [decL, if_pos hneg, ptL, if_neg h0, ← HS.out]
      clear h0
      go_enter Tryz.func64, Tryz.ntmps64
      go_wp2_with (first | (go_at_call 87; refine (isScale_any _ _).mono ?_; rintro e w' ⟨rfl, rfl⟩) | (go_at_call 89; refine (mag_any _ _ hv).mono ?_; rintro e w' ⟨rfl, rfl⟩) | (go_at_call 88; rw [HK.out]; refine (padded_any _ _ hu (by omega) _ htab).mono ?_; rw [← HS.out]; rintro e w' ⟨rfl, hb⟩))
      go_quiet (fail)
      go_wp2
      go_ret2
      exact ⟨ret_bytesE (by rw [dec_mid, dec_neg, HR.out]), below_drewN hb _⟩
    · have HR : Hid (decL v k = S.take (S.length - k) ++ [46] ++ S.drop (S.length - k)) := by show _ = _; rw [decL, if_neg hneg, ptL, if_neg h0, ← HS.out]
      clear h0
      go_enter Tryz.func64, Tryz.ntmps64
      go_wp2_with (first | (go_at_call 87; refine (isScale_any _ _).mono ?_; rintro e w' ⟨rfl, rfl⟩) | (go_at_call 89; refine (mag_any _ _ hv).mono ?_; rintro e w' ⟨rfl, rfl⟩) | (go_at_call 88; rw [HK.out]; refine (padded_any _ _ hu (by omega) _ htab).mono ?_; rw [← HS.out]; rintro e w' ⟨rfl, hb⟩))
      go_quiet (fail)
      go_wp2
      go_ret2
      exact ⟨ret_bytesE (by rw [dec_mid, HR.out]), below_drewN hb _⟩
end Go.Proofs.YtogdkhnakenbcaaGreatDoor
