/-
  Contracts of codec's ints: mirror, beyond, width, Size.
-/
import Derived.Test.YtellmmgiabfacaaCBase
import Derived.Test.YtellmmgiabfacaaCMath2
import Derived.Laws.ShiftsVarLaws
import Derived.Laws.BitsAllLaws
namespace Go.Proofs.Ytellmmgiabfacaa
open Go.ChangeShapes Go.WideShapes Go.ChangeAt Go.RowKit
set_option linter.unusedVariables false

theorem not_any (n : Int) (h : In8 n) : bits .xor .i64 (-1) n = -n - 1 := by
  unfold In8 at h
  show IntKind.i64.wrap ((BitVec.ofInt 64 (-1) ^^^ BitVec.ofInt 64 n).toNat : Int) = _
  have h1 : BitVec.ofInt 64 (-1) = BitVec.allOnes 64 := by decide
  rw [h1, BitVec.allOnes_xor, BitVec.toNat_not, BitVec.toNat_ofInt]
  simp [IntKind.wrap, IntKind.bits, IntKind.signed]
  omega
theorem xor255 (z : Int) (h0 : 0 ≤ z) (h1 : z ≤ 255) : bits .xor .u8 z 255 = 255 - z := by
  rw [u8_xor z 255 h0 (by omega) (by decide) (by decide)]
  have h : ∀ k : Fin 256, k.val ^^^ 255 = 255 - k.val := by decide +kernel
  have := h ⟨z.toNat, by omega⟩
  simp only at this
  rw [show (255 : Int).toNat = 255 from rfl, this]
  omega
theorem xor0 (z : Int) (h0 : 0 ≤ z) (h1 : z ≤ 255) : bits .xor .u8 z 0 = z := by
  rw [u8_xor z 0 h0 (by omega) (by decide) (by decide)]
  simp
  omega
theorem mirror_any (n : Int) (w : World) (h : In8 n) :
    Calls Try.prog 133 #[.int .i64 n] w fun e w' => e = .returned (.int .i64 (-n - 1)) ∧ w = w' := by
  have H := Lib.hid h
  clear h
  go_enter Try.func133, Try.ntmps133
  go_wp2
  go_ret
  exact ⟨ret_int (not_any n H.out), rfl⟩
theorem beyond_any (n : Int) (w : World) (h0 : 120 ≤ n) (h1 : n ≤ 9223372036854775807) :
    Calls Try.prog 134 #[.int .i64 n] w fun e w' => e = .returned (.int .u64 (n - 120)) ∧ w = w' := by
  go_enter Try.func134, Try.ntmps134
  go_wp2
  go_ret
  exact ⟨ret_int (by omega), rfl⟩
set_option maxHeartbeats 1600000 in
theorem width_any (m : Nat) (w : World) (h : m < 18446744073709551616) :
    Calls Try.prog 135 #[.int .u64 m] w fun e w' => e = .returned (.int .i64 ((leF m).length : Int)) ∧ w = w' := by
  go_enter Try.func135, Try.ntmps135
  go_wp2
  go_loop [4] (fun i => ∃ k : Nat, k ≤ 8 ∧ i = .int .i64 k ∧ (0 < k → 256 ^ (k - 1) ≤ m)) (fun i => 8 - (intOf i).toNat)
  case atStart => exact ⟨0, by omega, rfl, fun h => by omega⟩
  case round =>
    obtain ⟨k, hk, rfl, hm⟩ := hrel
    by_cases hk8 : k < 8
    · rcases eight_of k hk8 with rfl | rfl | rfl | rfl | rfl | rfl | rfl | rfl
      · by_cases hz : m = 0
        · subst hz
          have E := Lib.hid (leF_is (m := 0) (k := 1) (by decide) (by decide) (fun h => by omega))
          go_wp2
          go_ret
          exact ⟨ret_int (by rw [E.out]; rfl), rfl⟩
        · have e : ((m : Int) == 0) = false := by simp; omega
          go_wp2
          exact ⟨⟨1, by omega, rfl, fun _ => by omega⟩, by simp [intOf]⟩
      · by_cases hz : m < 256
        · have e : (m : Int) / 256 = 0 := by omega
          have E := Lib.hid (leF_is (m := m) (k := 1) (by decide) hz (fun h => hm (by decide)))
          clear hm
          go_wp2
          go_ret
          exact ⟨ret_int (by rw [E.out]; rfl), rfl⟩
        · have e : ((m : Int) / 256 == 0) = false := by simp; omega
          go_wp2
          exact ⟨⟨2, by omega, rfl, fun _ => by omega⟩, by simp [intOf]⟩
      · by_cases hz : m < 65536
        · have e : (m : Int) / 65536 = 0 := by omega
          have E := Lib.hid (leF_is (m := m) (k := 2) (by decide) hz (fun h => hm (by decide)))
          clear hm
          go_wp2
          go_ret
          exact ⟨ret_int (by rw [E.out]; rfl), rfl⟩
        · have e : ((m : Int) / 65536 == 0) = false := by simp; omega
          go_wp2
          exact ⟨⟨3, by omega, rfl, fun _ => by omega⟩, by simp [intOf]⟩
      · by_cases hz : m < 16777216
        · have e : (m : Int) / 16777216 = 0 := by omega
          have E := Lib.hid (leF_is (m := m) (k := 3) (by decide) hz (fun h => hm (by decide)))
          clear hm
          go_wp2
          go_ret
          exact ⟨ret_int (by rw [E.out]; rfl), rfl⟩
        · have e : ((m : Int) / 16777216 == 0) = false := by simp; omega
          go_wp2
          exact ⟨⟨4, by omega, rfl, fun _ => by omega⟩, by simp [intOf]⟩
      · by_cases hz : m < 4294967296
        · have e : (m : Int) / 4294967296 = 0 := by omega
          have E := Lib.hid (leF_is (m := m) (k := 4) (by decide) hz (fun h => hm (by decide)))
          clear hm
          go_wp2
          go_ret
          exact ⟨ret_int (by rw [E.out]; rfl), rfl⟩
        · have e : ((m : Int) / 4294967296 == 0) = false := by simp; omega
          go_wp2
          exact ⟨⟨5, by omega, rfl, fun _ => by omega⟩, by simp [intOf]⟩
      · by_cases hz : m < 1099511627776
        · have e : (m : Int) / 1099511627776 = 0 := by omega
          have E := Lib.hid (leF_is (m := m) (k := 5) (by decide) hz (fun h => hm (by decide)))
          clear hm
          go_wp2
          go_ret
          exact ⟨ret_int (by rw [E.out]; rfl), rfl⟩
        · have e : ((m : Int) / 1099511627776 == 0) = false := by simp; omega
          go_wp2
          exact ⟨⟨6, by omega, rfl, fun _ => by omega⟩, by simp [intOf]⟩
      · by_cases hz : m < 281474976710656
        · have e : (m : Int) / 281474976710656 = 0 := by omega
          have E := Lib.hid (leF_is (m := m) (k := 6) (by decide) hz (fun h => hm (by decide)))
          clear hm
          go_wp2
          go_ret
          exact ⟨ret_int (by rw [E.out]; rfl), rfl⟩
        · have e : ((m : Int) / 281474976710656 == 0) = false := by simp; omega
          go_wp2
          exact ⟨⟨7, by omega, rfl, fun _ => by omega⟩, by simp [intOf]⟩
      · by_cases hz : m < 72057594037927936
        · have e : (m : Int) / 72057594037927936 = 0 := by omega
          have E := Lib.hid (leF_is (m := m) (k := 7) (by decide) hz (fun h => hm (by decide)))
          clear hm
          go_wp2
          go_ret
          exact ⟨ret_int (by rw [E.out]; rfl), rfl⟩
        · have e : ((m : Int) / 72057594037927936 == 0) = false := by simp; omega
          go_wp2
          exact ⟨⟨8, by omega, rfl, fun _ => by omega⟩, by simp [intOf]⟩
    · obtain rfl : k = 8 := by omega
      go_wp2
      go_ret
      exact ⟨ret_int (by rw [leF_is (k := 8) (by decide) (by omega) (fun _ => hm (by decide))]; rfl), rfl⟩
theorem width_int (x : Int) (w : World) (h0 : 0 ≤ x) (h : x < 18446744073709551616) :
    Calls Try.prog 135 #[.int .u64 x] w fun e w' => e = .returned (.int .i64 ((leF x.toNat).length : Int)) ∧ w = w' := by
  have := width_any x.toNat w (by omega)
  rwa [show ((x.toNat : Nat) : Int) = x by omega] at this
theorem size_any (n : Int) (w : World) (h : In8 n) :
    Calls Try.prog 146 #[.int .i64 n] w fun e w' => e = .returned (.int .i64 ((encI n).length : Int)) ∧ w = w' := by
  have hl := enc_len n
  by_cases h0 : n < 0
  · rw [if_pos h0] at hl
    by_cases h1 : -n - 1 ≤ 119
    · have HL : Hid ((encI n).length = 1) := by show _ = _; rw [hl, up_small (by omega)]; rfl
      unfold In8 at h
      clear hl
      go_enter Try.func146, Try.ntmps146
      go_wp2_with (go_at_call 133; refine (mirror_any n _ (by unfold In8; omega)).mono ?_; rintro e w' ⟨rfl, rfl⟩)
      go_ret
      exact ⟨ret_int (by rw [HL.out]; rfl), rfl⟩
    · unfold In8 at h
      have HL : Hid ((encI n).length = 1 + (leF (-n - 1 - 120).toNat).length) := by
        show _ = _
        rw [hl, up_big (by omega), List.length_cons, List.length_reverse, Nat.add_comm, show (-(n + 1)).toNat - 120 = (-n - 1 - 120).toNat by omega]
      have h8 : (leF (-n - 1 - 120).toNat).length ≤ 8 := leF_le (by decide) (by omega)
      clear hl
      go_enter Try.func146, Try.ntmps146
      go_wp2_with (first | (go_at_call 133; refine (mirror_any n _ (by unfold In8; omega)).mono ?_; rintro e w' ⟨rfl, rfl⟩) | (go_at_call 134; refine (beyond_any _ _ (by omega) (by omega)).mono ?_; rintro e w' ⟨rfl, rfl⟩) | (go_at_call 135; refine (width_int _ _ (by omega) (by omega)).mono ?_; rintro e w' ⟨rfl, rfl⟩))
      go_ret
      exact ⟨ret_int (by rw [HL.out]; omega), rfl⟩
  · rw [if_neg h0] at hl
    by_cases h1 : n ≤ 119
    · have HL : Hid ((encI n).length = 1) := by show _ = _; rw [hl, up_small (by omega)]; rfl
      unfold In8 at h
      clear hl
      go_enter Try.func146, Try.ntmps146
      go_wp2_with fail
      go_ret
      exact ⟨ret_int (by rw [HL.out]; rfl), rfl⟩
    · unfold In8 at h
      have HL : Hid ((encI n).length = 1 + (leF (n - 120).toNat).length) := by
        show _ = _
        rw [hl, up_big (by omega), List.length_cons, List.length_reverse, Nat.add_comm, show n.toNat - 120 = (n - 120).toNat by omega]
      have h8 : (leF (n - 120).toNat).length ≤ 8 := leF_le (by decide) (by omega)
      clear hl
      go_enter Try.func146, Try.ntmps146
      go_wp2_with (first | (go_at_call 134; refine (beyond_any _ _ (by omega) (by omega)).mono ?_; rintro e w' ⟨rfl, rfl⟩) | (go_at_call 135; refine (width_int _ _ (by omega) (by omega)).mono ?_; rintro e w' ⟨rfl, rfl⟩))
      go_ret
      exact ⟨ret_int (by rw [HL.out]; omega), rfl⟩
end Go.Proofs.Ytellmmgiabfacaa
