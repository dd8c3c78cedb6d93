/-
  Contracts of the read texts, second part: smallNumber and the document's read.
-/
import Derived.Test.YtogdkhnakenbcaaGreatDoorParse
namespace Go.Proofs.YtogdkhnakenbcaaGreatDoor
open Go.ChangeShapes Go.WideShapes Go.ChangeAt Go.RowKit
set_option linter.unusedVariables false

theorem valD_take (l : List UInt8) (k : Nat) (h : k < l.length) : valD (l.take (k + 1)) = 10 * valD (l.take k) + (l[k].toNat - 48) := by
  rw [take_snoc l k h, valD_snoc]
theorem valD_all (l : List UInt8) : valD (l.take l.length) = valD l := by rw [List.take_length]
theorem valD_lt (l : List UInt8) (hd : ∀ c ∈ l, isD c = true) (n : Nat) (hn : l.length ≤ n) : valD l < 10 ^ n := by
  have h := valF_lt l.length 0 l rfl hd
  have h2 : (10 : Nat) ^ l.length ≤ 10 ^ n := Nat.pow_le_pow_right (by omega) hn
  unfold valD
  omega
theorem valD_le (l : List UInt8) (k : Nat) : valD (l.take k) ≤ valD l := by
  have h : valF 0 l = valF (valF 0 (l.take k)) (l.drop k) := by rw [← valF_app, List.take_append_drop]
  unfold valD
  rw [h]
  exact valF_ge _ _
theorem take_digits {l : List UInt8} (hd : ∀ c ∈ l, isD c = true) (k : Nat) : ∀ c ∈ l.take k, isD c = true := fun c hc => hd c (List.mem_of_mem_take hc)

set_option maxHeartbeats 800000 in
theorem smallNumber_any (l : List UInt8) (hd : ∀ c ∈ l, isD c = true) (hl : l.length ≤ 4) (w : World) :
    Calls Tryz.prog 106 #[.string ⟨l.toArray⟩] w fun e w' => e = .returned (.int .i64 (valD l)) ∧ w = w' := by
  go_enter Tryz.func106, Tryz.ntmps106
  go_wp2
  go_loop [3, 7] (fun n i => ∃ k : Nat, k ≤ l.length ∧ i = .int .i64 k ∧ n = .int .i64 (valD (l.take k))) (fun _ i => l.length - (intOf i).toNat)
  case atStart => exact ⟨0, Nat.zero_le _, rfl, rfl⟩
  case round =>
    obtain ⟨k, hk, rfl, rfl⟩ := hrel
    by_cases hlt : k < l.length
    · have hs : k < (⟨l.toArray⟩ : ByteArray).size := by simpa [ByteArray.size] using hlt
      have c0 := isD_bd (hd l[k] (List.getElem_mem hlt))
      have b0 := valD_lt (l.take k) (take_digits hd k) 4 (by rw [List.length_take]; omega)
      have E1 := Lib.hid (valD_take l k hlt)
      have c1 : 48 ≤ ((⟨l.toArray⟩ : ByteArray)[k].toNat : Int) := by have := c0.1; show (48 : Int) ≤ (l[k].toNat : Int); omega
      have c2 : ((⟨l.toArray⟩ : ByteArray)[k].toNat : Int) ≤ 57 := by have := c0.2; show (l[k].toNat : Int) ≤ 57; omega
      go_wp2
      go_round
      case rel =>
        refine ⟨k + 1, by omega, by go_num, ?_⟩
        rw [E1.out]
        have e : ((⟨l.toArray⟩ : ByteArray)[k].toNat : Int) = (l[k].toNat : Int) := rfl
        congr 1
        go_num
      case measure => simp [intOf]; omega
    · obtain rfl : k = l.length := by omega
      go_wp2
      go_ret
      exact ⟨rfl, rfl⟩

set_option maxHeartbeats 800000 in
theorem read_yes (l : List UInt8) (M : Nat) (hd : ∀ c ∈ l, isD c = true) (hl : l.length ≤ 9223372036854775807) (h9 : 9 ≤ M) (hM : M ≤ 18446744073709551615) (hv : valD l ≤ M) (w : World) :
    Calls Tryz.prog 78 #[.string ⟨l.toArray⟩, .int .u64 M] w fun e w' => e = .returned (.tuple #[.int .u64 (valD l), .bool true]) ∧ w = w' := by
  go_enter Tryz.func78, Tryz.ntmps78
  go_wp2
  go_loop [6, 7] (fun n i => ∃ k : Nat, k ≤ l.length ∧ i = .int .i64 k ∧ n = .int .u64 (valD (l.take k)) ∧ valD (l.take k) ≤ M) (fun _ i => l.length - (intOf i).toNat)
  case atStart => exact ⟨0, Nat.zero_le _, rfl, rfl, by simp [valD, valF]⟩
  case round =>
    obtain ⟨k, hk, rfl, rfl, hn⟩ := hrel
    by_cases hlt : k < l.length
    · have hs : k < (⟨l.toArray⟩ : ByteArray).size := by simpa [ByteArray.size] using hlt
      have c0 := isD_bd (hd l[k] (List.getElem_mem hlt))
      have E1 := Lib.hid (valD_take l k hlt)
      have E2 := Lib.hid (valD_le l (k + 1))
      have c1 : 48 ≤ ((⟨l.toArray⟩ : ByteArray)[k].toNat : Int) := by have := c0.1; show (48 : Int) ≤ (l[k].toNat : Int); omega
      have c2 : ((⟨l.toArray⟩ : ByteArray)[k].toNat : Int) ≤ 57 := by have := c0.2; show (l[k].toNat : Int) ≤ 57; omega
      have e : ((⟨l.toArray⟩ : ByteArray)[k].toNat : Int) = (l[k].toNat : Int) := rfl
      have hq : ((M : Int) - (((⟨l.toArray⟩ : ByteArray)[k].toNat : Int) - 48)) / 10 < (valD (l.take k) : Int) ↔ M < valD (l.take (k + 1)) := by
        rw [e, E1.out]
        omega
      have hq' : ¬ M < valD (l.take (k + 1)) := by have := E2.out; omega
      have hc := Lib.hid (mt hq.1 hq')
      have hc' : ((M : Int) - (((⟨l.toArray⟩ : ByteArray)[k].toNat : Int) - 48)) / 10 < (valD (l.take k) : Int) ↔ False := ⟨fun h => hc.out h, False.elim⟩
      clear hq
      go_wp2
      go_round
      case rel =>
        refine ⟨k + 1, by omega, by go_num, ?_, by have := hq'; omega⟩
        rw [E1.out]
        congr 1
        go_num
      case measure => simp [intOf]; omega
    · obtain rfl : k = l.length := by omega
      go_wp2
      go_ret2
      exact ⟨rfl, rfl⟩

set_option maxHeartbeats 800000 in
theorem read_no (l : List UInt8) (M : Nat) (hd : ∀ c ∈ l, isD c = true) (hl : l.length ≤ 9223372036854775807) (h9 : 9 ≤ M) (hM : M ≤ 18446744073709551615) (hv : ¬ valD l ≤ M) (w : World) :
    Calls Tryz.prog 78 #[.string ⟨l.toArray⟩, .int .u64 M] w fun e w' => e = .returned (.tuple #[.int .u64 0, .bool false]) ∧ w = w' := by
  go_enter Tryz.func78, Tryz.ntmps78
  go_wp2
  go_loop [6, 7] (fun n i => ∃ k : Nat, k ≤ l.length ∧ i = .int .i64 k ∧ n = .int .u64 (valD (l.take k)) ∧ valD (l.take k) ≤ M) (fun _ i => l.length - (intOf i).toNat)
  case atStart => exact ⟨0, Nat.zero_le _, rfl, rfl, by simp [valD, valF]⟩
  case round =>
    obtain ⟨k, hk, rfl, rfl, hn⟩ := hrel
    by_cases hlt : k < l.length
    · have hs : k < (⟨l.toArray⟩ : ByteArray).size := by simpa [ByteArray.size] using hlt
      have c0 := isD_bd (hd l[k] (List.getElem_mem hlt))
      have E1 := Lib.hid (valD_take l k hlt)
      have E2 := Lib.hid (valD_le l (k + 1))
      have c1 : 48 ≤ ((⟨l.toArray⟩ : ByteArray)[k].toNat : Int) := by have := c0.1; show (48 : Int) ≤ (l[k].toNat : Int); omega
      have c2 : ((⟨l.toArray⟩ : ByteArray)[k].toNat : Int) ≤ 57 := by have := c0.2; show (l[k].toNat : Int) ≤ 57; omega
      have e : ((⟨l.toArray⟩ : ByteArray)[k].toNat : Int) = (l[k].toNat : Int) := rfl
      have hq : ((M : Int) - (((⟨l.toArray⟩ : ByteArray)[k].toNat : Int) - 48)) / 10 < (valD (l.take k) : Int) ↔ M < valD (l.take (k + 1)) := by
        rw [e, E1.out]
        omega
      by_cases hc : ((M : Int) - (((⟨l.toArray⟩ : ByteArray)[k].toNat : Int) - 48)) / 10 < (valD (l.take k) : Int)
      · clear hq
        go_wp2
        go_ret2
        exact ⟨rfl, rfl⟩
      · have hq' : ¬ M < valD (l.take (k + 1)) := mt hq.2 hc
        clear hq
        go_wp2
        go_round
        case rel =>
          refine ⟨k + 1, by omega, by go_num, ?_, by have := hq'; omega⟩
          rw [E1.out]
          congr 1
          go_num
        case measure => simp [intOf]; omega
    · exfalso
      obtain rfl : k = l.length := by omega
      rw [valD_all] at hn
      exact hv hn
end Go.Proofs.YtogdkhnakenbcaaGreatDoor
