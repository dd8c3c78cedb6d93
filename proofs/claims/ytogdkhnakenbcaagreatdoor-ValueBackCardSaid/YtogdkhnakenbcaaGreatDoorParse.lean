/-
  Contracts of the read texts, first part: allDigits, smallNumber and the document's digits and read.
-/
import Derived.Test.YtogdkhnakenbcaaGreatDoorProd
import Derived.Test.YtogdkhnakenbcaaGreatDoorDigits
namespace Go.Proofs.YtogdkhnakenbcaaGreatDoor
open Go.ChangeShapes Go.WideShapes Go.ChangeAt Go.RowKit
set_option linter.unusedVariables false

theorem take_snoc (l : List UInt8) (k : Nat) (h : k < l.length) : l.take (k + 1) = l.take k ++ [l[k]] := by
  rw [List.take_succ_eq_append_getElem h]
/-- The bytes ahead of place k are digits. -/
def dTo (l : List UInt8) (k : Nat) : Prop := ∀ c ∈ l.take k, isD c = true
theorem dTo_zero (l : List UInt8) : dTo l 0 := by intro c hc; simp at hc
theorem dTo_succ {l : List UInt8} {k : Nat} (h : dTo l k) (hk : k < l.length) (h0 : ¬ (l[k].toNat : Int) < 48) (h1 : ¬ 57 < (l[k].toNat : Int)) : dTo l (k + 1) := by
  intro c hc
  rw [take_snoc l k hk] at hc
  rcases List.mem_append.1 hc with hc | hc
  · exact h c hc
  · obtain rfl : c = l[k] := by simpa using hc
    simp [isD]; omega
theorem dTo_all {l : List UInt8} {k : Nat} (h : dTo l k) (hk : l.length ≤ k) : ∀ c ∈ l, isD c = true := by
  intro c hc; exact h c (by rw [List.take_of_length_le hk]; exact hc)
theorem not_digits {l : List UInt8} {k : Nat} (hk : k < l.length) (h : (l[k].toNat : Int) < 48 ∨ 57 < (l[k].toNat : Int)) : digitsB l = false := by
  cases hd : digitsB l
  · rfl
  · exfalso
    have := isD_bd ((digits_all hd).2 l[k] (List.getElem_mem hk))
    omega

theorem end_digits {l : List UInt8} (h : ∀ c ∈ l, isD c = true) : digitsB l = !l.isEmpty := by
  unfold digitsB
  rw [List.all_eq_true.2 h, Bool.and_true]
theorem empty_len (l : List UInt8) : (!l.isEmpty) = decide (0 < l.length) := by cases l <;> simp

set_option maxHeartbeats 800000 in
theorem allDigits_any (l : List UInt8) (hl : l.length ≤ 9223372036854775807) (w : World) :
    Calls Tryz.prog 102 #[.string ⟨l.toArray⟩] w fun e w' => e = .returned (.bool (digitsB l)) ∧ w = w' := by
  go_enter Tryz.func102, Tryz.ntmps102
  go_wp2
  go_loop [6] (fun i => ∃ k : Nat, k ≤ l.length ∧ i = .int .i64 k ∧ dTo l k) (fun i => l.length - (intOf i).toNat)
  case atStart => exact ⟨0, Nat.zero_le _, rfl, dTo_zero l⟩
  case round =>
    obtain ⟨k, hk, rfl, hd⟩ := hrel
    by_cases hlt : k < l.length
    · have hs : k < (⟨l.toArray⟩ : ByteArray).size := by simpa [ByteArray.size] using hlt
      by_cases c0 : ((⟨l.toArray⟩ : ByteArray)[k].toNat : Int) < 48
      · have HN := Lib.hid (not_digits hlt (.inl c0))
        go_wp2
        go_ret
        exact ⟨ret_bool HN.out.symm, rfl⟩
      · by_cases c1 : 57 < ((⟨l.toArray⟩ : ByteArray)[k].toNat : Int)
        · have HN := Lib.hid (not_digits hlt (.inr c1))
          go_wp2
          go_ret
          exact ⟨ret_bool HN.out.symm, rfl⟩
        · have HN := Lib.hid (dTo_succ hd hlt c0 c1)
          go_wp2
          go_round
          case rel => exact ⟨k + 1, by omega, by go_num, HN.out⟩
          case measure => simp [intOf]; omega
    · have HA := Lib.hid (end_digits (dTo_all hd (by omega)))
      go_wp2
      go_ret
      exact ⟨ret_bool HA.out.symm, rfl⟩

set_option maxHeartbeats 800000 in
theorem refDigits_any (l : List UInt8) (hl : l.length ≤ 9223372036854775807) (w : World) :
    Calls Tryz.prog 77 #[.string ⟨l.toArray⟩] w fun e w' => e = .returned (.bool (digitsB l)) ∧ w = w' := by
  go_enter Tryz.func77, Tryz.ntmps77
  go_wp2
  go_loop [3] (fun i => ∃ k : Nat, k ≤ l.length ∧ i = .int .i64 k ∧ dTo l k) (fun i => l.length - (intOf i).toNat)
  case atStart => exact ⟨0, Nat.zero_le _, rfl, dTo_zero l⟩
  case round =>
    obtain ⟨k, hk, rfl, hd⟩ := hrel
    by_cases hlt : k < l.length
    · have hs : k < (⟨l.toArray⟩ : ByteArray).size := by simpa [ByteArray.size] using hlt
      by_cases c0 : ((⟨l.toArray⟩ : ByteArray)[k].toNat : Int) < 48
      · have HN := Lib.hid (not_digits hlt (.inl c0))
        go_wp2
        go_ret
        exact ⟨ret_bool HN.out.symm, rfl⟩
      · by_cases c1 : 57 < ((⟨l.toArray⟩ : ByteArray)[k].toNat : Int)
        · have HN := Lib.hid (not_digits hlt (.inr c1))
          go_wp2
          go_ret
          exact ⟨ret_bool HN.out.symm, rfl⟩
        · have HN := Lib.hid (dTo_succ hd hlt c0 c1)
          go_wp2
          go_round
          case rel => exact ⟨k + 1, by omega, by go_num, HN.out⟩
          case measure => simp [intOf]; omega
    · have HA := Lib.hid (end_digits (dTo_all hd (by omega)))
      go_wp2
      go_ret
      exact ⟨ret_bool (HA.out.trans (empty_len l)).symm, rfl⟩
end Go.Proofs.YtogdkhnakenbcaaGreatDoor
