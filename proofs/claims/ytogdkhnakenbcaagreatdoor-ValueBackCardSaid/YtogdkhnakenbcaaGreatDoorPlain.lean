/-
  Contracts of the document's own written numbers: amount, plain, FormatInt, FormatDec.
-/
import Derived.Test.YtogdkhnakenbcaaGreatDoorText
import Derived.LoopTactic
namespace Go.Proofs.YtogdkhnakenbcaaGreatDoor
open Go.ChangeShapes Go.WideShapes Go.ChangeAt Go.RowKit Go.Sort
set_option linter.unusedVariables false

/-- u's digits with noughts ahead of them, at least k in all; nothing of 0 itself. -/
def pad0 (n k : Nat) : List UInt8 := if n = 0 then Lib.repeatL [48] k else Lib.repeatL [48] (k - Lib.nDigits n) ++ Lib.decDigits n
theorem rep_snoc (k : Nat) : Lib.repeatL [48] (k + 1) = Lib.repeatL [48] k ++ [48] := by rw [Lib.repeatL_add, Lib.repeatL_one]
theorem pad0_step (n k : Nat) (h : 0 < n ∨ 0 < k) : pad0 n k = pad0 (n / 10) (k - 1) ++ [UInt8.ofNat (48 + n % 10)] := by
  by_cases h0 : n = 0
  · subst h0
    obtain ⟨j, rfl⟩ : ∃ j, k = j + 1 := ⟨k - 1, by omega⟩
    simp only [pad0, if_pos]
    exact rep_snoc j
  · by_cases h1 : n < 10
    · have e : n / 10 = 0 := by omega
      have e2 : n % 10 = n := by omega
      rw [pad0, if_neg h0, pad0, if_pos e, Lib.nDigits_small h1, Lib.decDigits_one h1, e2]
    · have e : ¬ n / 10 = 0 := by omega
      rw [pad0, if_neg h0, pad0, if_neg e, Lib.nDigits_big h1, Lib.decDigits, dif_neg h1, Nat.add_comm (Lib.nDigits (n / 10)) 1, Nat.sub_sub k 1]
      simp
theorem pad0_eq (u n : Nat) (h : 1 ≤ n) : pad0 u n = padL u n := by
  unfold pad0 padL
  by_cases h0 : u = 0
  · subst h0
    rw [if_pos rfl, Lib.decDigits_one (by omega)]
    obtain ⟨j, rfl⟩ : ∃ j, n = j + 1 := ⟨n - 1, by omega⟩
    rw [rep_snoc]; rfl
  · rw [if_neg h0, Lib.decDigits_length]

def strLen : Value → Nat
  | .string b => b.size
  | _ => 0

theorem amount_any (v : Int) (w : World) (hv : In64 v) :
    Calls Tryz.prog 55 #[.int .i64 v] w fun e w' => e = .returned (.int .u64 (v.natAbs : Int)) ∧ w = w' := by
  unfold In64 at hv
  by_cases h : v < 0
  · have H : Hid (IntKind.u64.wrap (-IntKind.u64.wrap v) = (v.natAbs : Int)) := by show _ = _; rw [IntKind.wrap_u64, IntKind.wrap_u64]; omega
    go_enter Tryz.func55, Tryz.ntmps55
    go_wp2
    go_ret
    refine ⟨?_, rfl⟩
    first | (rw [← H.out]; rfl) | (simp; omega)
  · go_enter Tryz.func55, Tryz.ntmps55
    go_wp2
    go_ret
    refine ⟨?_, rfl⟩
    first | rfl | (simp; omega)

theorem bytes_cons (c : UInt8) (l : List UInt8) : (⟨(c :: l).toArray⟩ : ByteArray) = ⟨#[c]⟩ ++ ⟨l.toArray⟩ := (bytes_app [c] l).symm
theorem byte_str (w : World) (k : Nat) : (convert 61 9 (.slice (some ⟨w.heap.size, 0, none⟩) 1 1)).run Tryz.prog (w.alloc (.cells #[.int .u8 (48 + (k : Int) % 10)] 5)) = .ok (.string ⟨#[UInt8.ofNat (48 + k % 10)]⟩) (w.alloc (.cells #[.int .u8 (48 + (k : Int) % 10)] 5)) := by
  have h := run_convert_bytes_back (P := Tryz.prog) (w.alloc (.cells #[.int .u8 (48 + (k : Int) % 10)] 5)) 61 9 5 ⟨w.heap.size, 0, none⟩ 1 [UInt8.ofNat (48 + k % 10)] Tryz.underlying61 Tryz.underlying5 Tryz.underlying9 (fun j hj => by
    obtain rfl : j = 0 := by simpa using hj
    rw [Lib.add_plain, World.cell?_alloc_new]
    simp
    omega)
  exact h

theorem byte_str0 (w : World) : (convert 61 9 (.slice (some ⟨w.heap.size, 0, none⟩) 1 1)).run Tryz.prog (w.alloc (.cells #[.int .u8 48] 5)) = .ok (.string ⟨#[48]⟩) (w.alloc (.cells #[.int .u8 48] 5)) := byte_str w 0

set_option maxHeartbeats 1600000 in
set_option maxRecDepth 100000 in
theorem plain_any (u n : Nat) (hu64 : u < 18446744073709551616) (h1 : 1 ≤ n) (hn : n ≤ 100) (w : World) :
    Calls Tryz.prog 67 #[.int .u64 u, .int .i64 n] w fun e w' => e = .returned (.string ⟨(padL u n).toArray⟩) ∧ Below w.heap.size w w' := by
  have hL := padL_len u n hu64 h1 hn
  obtain ⟨R, eR⟩ : ∃ R, R = padL u n := ⟨_, rfl⟩
  rw [← eR] at hL ⊢
  have HR : Hid (R = pad0 u n) := by show _ = _; rw [eR, pad0_eq u n h1]
  clear eR
  go_enter Tryz.func67, Tryz.ntmps67
  go_wp2
  go_loopw [0, 5] (fun m s wr => ∃ (k : Nat) (l : List UInt8), m = .int .u64 k ∧ s = .string ⟨l.toArray⟩ ∧ k ≤ u ∧ l.length ≤ 120 ∧ Hid (R = pad0 k (n - l.length) ++ l) ∧ Below w.heap.size w wr) (fun m s _ => (intOf m).toNat + (n - strLen s))
  case atStart => exact ⟨u, [], rfl, rfl, Nat.le_refl _, by simp, by have := HR.out; simpa [Hid] using this, Below.refl _ _⟩
  case round =>
    obtain ⟨k, l, rfl, rfl, hk, hl, HI, hb⟩ := hrel
    by_cases c : 0 < k ∨ l.length < n
    · have HI2 : Hid (R = pad0 (k / 10) (n - (l.length + 1)) ++ (UInt8.ofNat (48 + k % 10) :: l)) := by
        show _ = _
        rw [HI.out, pad0_step k (n - l.length) (by omega), List.append_assoc, Nat.sub_sub]
        rfl
      have hl2 : l.length + 1 ≤ 120 := by
        have := congrArg List.length HI2.out
        simp at this
        omega
      have hkI : (k : Int) < 18446744073709551616 := by omega
      have hcv := byte_str wr k
      clear hu64 HI
      by_cases c0 : 0 < k
      · clear c
        have hk0 : (0 : Int) < (k : Int) := by omega
        go_wp2
        go_roundw
        case rel => exact ⟨k / 10, UInt8.ofNat (48 + k % 10) :: l, by go_num, by congr 1; apply ByteArray.ext; simp, by omega, hl2, by simpa using HI2, hb.alloc hb.size _⟩
        case measure => simp [intOf, strLen, ByteArray.size]; omega
      · obtain rfl : k = 0 := by omega
        have hlt : l.length < n := by omega
        have hcv0 := byte_str0 wr
        clear c c0 hcv
        go_wp2
        go_roundw
        case rel => exact ⟨0, 48 :: l, by go_num, by first | rfl | (congr 1; apply ByteArray.ext; simp), by omega, hl2, HI2, hb.alloc hb.size _⟩
        case measure => simp [intOf, strLen, ByteArray.size]; omega
    · obtain rfl : k = 0 := by omega
      have hlt : n ≤ l.length := by omega
      have HR2 : Hid (R = l) := by
        show _ = _
        rw [HI.out, show n - l.length = 0 by omega]; rfl
      clear c HI hu64
      go_wp2
      go_ret
      exact ⟨ret_str HR2.out.symm, hb⟩
end Go.Proofs.YtogdkhnakenbcaaGreatDoor
