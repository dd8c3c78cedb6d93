/-
  Contracts of the checksums: the program's and the document's.
-/
import Derived.Test.YtellmmgiabfacaaDLib
import Derived.Laws.BitsAllLaws
namespace Go.Proofs.Ytellmmgiabfacaa
open Go.ChangeShapes Go.WideShapes Go.ChangeAt Go.RowKit
set_option linter.unusedVariables false

def crcR (s : Int) : Int := if s % 2 = 1 then bits .xor .u32 (s / 2) 2197175160 else s / 2
def crcN : Nat → Int → Int
  | 0, s => s
  | k + 1, s => crcR (crcN k s)
def crcB (s : Int) (c : UInt8) : Int := crcN 8 (bits .xor .u32 s (c.toNat : Int))
def crcL (s : Int) (l : List UInt8) : Int := l.foldl crcB s
def In32 (s : Int) : Prop := 0 ≤ s ∧ s ≤ 4294967295
theorem wrap32_in (z : Int) : In32 (IntKind.u32.wrap z) := by
  rw [IntKind.wrap_u32]
  unfold In32
  omega
theorem xor32_in (a b : Int) : In32 (bits .xor .u32 a b) := wrap32_in _
theorem crcR_in {s : Int} (h : In32 s) : In32 (crcR s) := by
  unfold crcR
  split
  · exact xor32_in _ _
  · unfold In32 at *; omega
theorem crcN_in {s : Int} (h : In32 s) : ∀ k, In32 (crcN k s)
  | 0 => h
  | k + 1 => crcR_in (crcN_in h k)
theorem crcB_in (s : Int) (c : UInt8) : In32 (crcB s c) := crcN_in (xor32_in _ _) 8
theorem crcL_in {s : Int} (h : In32 s) : ∀ l, In32 (crcL s l)
  | [] => h
  | c :: l => crcL_in (crcB_in s c) l
theorem crcL_take (s : Int) (l : List UInt8) (k : Nat) (h : k < l.length) : crcL s (l.take (k + 1)) = crcB (crcL s (l.take k)) l[k] := by
  unfold crcL
  rw [List.take_succ_eq_append_getElem h, List.foldl_append]
  rfl
theorem crcL_app (s : Int) (a b : List UInt8) : crcL s (a ++ b) = crcL (crcL s a) b := List.foldl_append
theorem and32_one (s : Int) (h : In32 s) : bits .and .u32 s 1 = s % 2 := by
  unfold In32 at h
  rw [u32_and s 1 h.1 (by omega) (by decide) (by decide)]
  simp [Nat.and_one_is_mod]
  omega

set_option maxHeartbeats 1600000 in
theorem sumByte_any (s : Int) (c : UInt8) (w : World) :
    Calls Try.prog 121 #[.int .u32 s, .int .u8 (c.toNat : Int)] w fun e w' => e = .returned (.int .u32 (crcB s c)) ∧ w = w' := by
  have hc := c.toNat_lt
  have hw : IntKind.u32.wrap (c.toNat : Int) = (c.toNat : Int) := by rw [IntKind.wrap_u32]; omega
  have HB : Hid (crcB s c = crcN 8 (bits .xor .u32 s (c.toNat : Int))) := rfl
  have hi := xor32_in s (c.toNat : Int)
  generalize (c.toNat : Int) = ci at *
  generalize hS : bits .xor .u32 s ci = S at *
  go_enter Try.func121, Try.ntmps121
  go_wp2_with fail
  clear hS hw
  go_loop [0, 10] (fun x i => ∃ k : Nat, k ≤ 8 ∧ i = .int .i64 k ∧ x = .int .u32 (crcN k S)) (fun _ i => 8 - (intOf i).toNat)
  case atStart => exact ⟨0, by omega, rfl, rfl⟩
  case round =>
    obtain ⟨k, hk, rfl, rfl⟩ := hrel
    by_cases hk8 : k < 8
    · have hin := crcN_in hi k
      have HN : Hid (crcN (k + 1) S = crcR (crcN k S)) := rfl
      have ha := and32_one _ hin
      have k0 : (k : Int) < 8 := by omega
      obtain ⟨i1, i2⟩ := hin
      generalize crcN k S = X at *
      by_cases ho : X % 2 = 1
      · have HR : Hid (crcR X = bits .xor .u32 (X / 2) 2197175160) := if_pos ho
        rw [ho] at ha
        clear ho
        go_wp2_with fail
        go_round
        case rel => exact ⟨k + 1, by omega, by go_num, by rw [HN.out, HR.out]⟩
        case measure => simp [intOf]; omega
      · have HR : Hid (crcR X = X / 2) := if_neg ho
        have ho2 : X % 2 = 0 := by omega
        rw [ho2] at ha
        clear ho ho2
        go_wp2_with fail
        go_round
        case rel => exact ⟨k + 1, by omega, by go_num, by rw [HN.out, HR.out]⟩
        case measure => simp [intOf]; omega
    · obtain rfl : k = 8 := by omega
      go_wp2_with fail
      go_ret
      exact ⟨ret_int HB.out.symm, rfl⟩

/-- A slice of slices of bytes. -/
structure Piece3 where
  a : Option Addr
  c : Nat
  l : List UInt8
def SlRd (w : World) (g off : Nat) (es : List Piece3) : Prop := ∀ i (h : i < es.length), w.cell? ⟨g, off + i, none⟩ = some (.slice es[i].a es[i].l.length es[i].c) ∧ BRd w es[i].a es[i].l ∧ es[i].l.length ≤ 140737488355328
def crcE (es : List Piece3) : Int := crcL 4294967295 (es.flatMap Piece3.l)
theorem crcE_take (es : List Piece3) (k : Nat) (h : k < es.length) : crcE (es.take (k + 1)) = crcL (crcE (es.take k)) es[k].l := by
  unfold crcE
  rw [List.take_succ_eq_append_getElem h, List.flatMap_append, crcL_app]
  simp
set_option maxHeartbeats 1600000 in
theorem sum_any (g off c : Nat) (es : List Piece3) (w : World) (h : SlRd w g off es) (hl : es.length ≤ 1000) :
    Calls Try.prog 88 #[.slice (some ⟨g, off, none⟩) es.length c] w fun e w' => e = .returned (.int .u32 (bits .xor .u32 4294967295 (crcE es))) ∧ w = w' := by
  have HH := Lib.hid h
  clear h
  have HI0 : Hid (In32 4294967295) := by show In32 _; unfold In32; decide
  go_enter Try.func88, Try.ntmps88
  go_wp2_with fail
  go_loop [3, 10] (fun x i => ∃ k : Nat, k ≤ es.length ∧ i = .int .i64 k ∧ x = .int .u32 (crcE (es.take k))) (fun _ i => es.length - (intOf i).toNat)
  case atStart => exact ⟨0, by omega, rfl, rfl⟩
  case round =>
    obtain ⟨k, hk, rfl, rfl⟩ := hrel
    by_cases hke : k < es.length
    · obtain ⟨c0, hb, hl2⟩ := HH.out k hke
      have HB := Lib.hid hb
      have HT := Lib.hid (crcE_take es k hke)
      clear hb
      have x0 : (0 : Int) ≤ (k : Int) := by omega
      have x1 : (k : Int) < (es.length : Int) := by omega
      generalize es[k] = el at *
      obtain ⟨ea, ec, l⟩ := el
      simp only at c0 HB HT hl2
      generalize crcE (es.take k) = s0 at *
      go_wp2_with fail
      go_loop [3, 16] (fun x i => ∃ j : Nat, j ≤ l.length ∧ i = .int .i64 j ∧ x = .int .u32 (crcL s0 (l.take j))) (fun _ i => l.length - (intOf i).toNat)
      case atStart => exact ⟨0, by omega, rfl, rfl⟩
      case round =>
        obtain ⟨j, hj, rfl, rfl⟩ := hrel
        by_cases hjl : j < l.length
        · obtain ⟨bg, bo, rfl, hgl, hc⟩ := HB.out (by omega)
          have d0 := hc j hjl
          clear hc
          have HS := Lib.hid (crcL_take s0 l j hjl)
          have y0 : (0 : Int) ≤ (j : Int) := by omega
          have y1 : (j : Int) < (l.length : Int) := by omega
          generalize l[j] = ch at *
          generalize crcL s0 (l.take j) = s1 at *
          have HC := Lib.hid (fun W => sumByte_any s1 ch W)
          go_wp2_with (go_at_call 121; refine (HC.out _).mono ?_; rintro e w' ⟨rfl, rfl⟩)
          go_round
          case rel => exact ⟨j + 1, by omega, by go_num, by rw [HS.out]⟩
          case measure => simp [intOf]; omega
        · obtain rfl : j = l.length := by omega
          have hjI : ¬ ((l.length : Int) < (l.length : Int)) := by omega
          rw [List.take_length]
          go_wp2_with fail
          go_round
          case rel => exact ⟨k + 1, by omega, by go_num, by rw [HT.out]⟩
          case measure => simp [intOf]; omega
    · obtain rfl : k = es.length := by omega
      have hkI : ¬ ((es.length : Int) < (es.length : Int)) := by omega
      rw [List.take_length]
      go_wp2_with fail
      go_ret
      exact ⟨rfl, rfl⟩
set_option maxHeartbeats 3200000 in
theorem refSum_any (A : Option Addr) (c : Nat) (l : List UInt8) (w : World) (hA : BRd w A l) (hl : l.length ≤ 140737488355328) :
    Calls Try.prog 91 #[.slice A l.length c] w fun e w' => e = .returned (.int .u32 (bits .xor .u32 4294967295 (crcL 4294967295 l))) ∧ w = w' := by
  have HA := Lib.hid hA
  clear hA
  go_enter Try.func91, Try.ntmps91
  go_wp2_with fail
  go_loop [3, 4] (fun x i => ∃ j : Nat, j ≤ l.length ∧ i = .int .i64 j ∧ x = .int .u32 (crcL 4294967295 (l.take j))) (fun _ i => l.length - (intOf i).toNat)
  case atStart => exact ⟨0, by omega, rfl, rfl⟩
  case round =>
    obtain ⟨j, hj, rfl, rfl⟩ := hrel
    by_cases hjl : j < l.length
    · obtain ⟨bg, bo, rfl, hgl, hc⟩ := HA.out (by omega)
      have d0 := hc j hjl
      clear hc
      have HS := Lib.hid (crcL_take 4294967295 l j hjl)
      have y0 : (0 : Int) ≤ (j : Int) := by omega
      have y1 : (j : Int) < (l.length : Int) := by omega
      have hcl := l[j].toNat_lt
      have hw : IntKind.u32.wrap (l[j].toNat : Int) = (l[j].toNat : Int) := by rw [IntKind.wrap_u32]; omega
      have HB : Hid (∀ s, crcB s l[j] = crcN 8 (bits .xor .u32 s (l[j].toNat : Int))) := fun _ => rfl
      generalize l[j] = ch at *
      generalize crcL 4294967295 (l.take j) = s1 at *
      generalize (ch.toNat : Int) = ci at *
      have hi := xor32_in s1 ci
      generalize hX : bits .xor .u32 s1 ci = S at *
      have HX := Lib.hid hX
      go_wp2_with fail
      clear hX hw
      go_loop [3, 5] (fun x i => ∃ k : Nat, k ≤ 8 ∧ i = .int .i64 k ∧ x = .int .u32 (crcN k S)) (fun _ i => 8 - (intOf i).toNat)
      case atStart => exact ⟨0, by omega, rfl, rfl⟩
      case round =>
        obtain ⟨k, hk, rfl, rfl⟩ := hrel
        by_cases hk8 : k < 8
        · have hin := crcN_in hi k
          have HN : Hid (crcN (k + 1) S = crcR (crcN k S)) := rfl
          have k0 : (k : Int) < 8 := by omega
          obtain ⟨i1, i2⟩ := hin
          generalize crcN k S = X at *
          by_cases ho : X % 2 = 1
          · have HR : Hid (crcR X = bits .xor .u32 (X / 2) 2197175160) := if_pos ho
            go_wp2_with fail
            go_round
            case rel => exact ⟨k + 1, by omega, by go_num, by rw [HN.out, HR.out]⟩
            case measure => simp [intOf]; omega
          · have HR : Hid (crcR X = X / 2) := if_neg ho
            have ho2 : X % 2 = 0 := by omega
            clear ho
            go_wp2_with fail
            go_round
            case rel => exact ⟨k + 1, by omega, by go_num, by rw [HN.out, HR.out]⟩
            case measure => simp [intOf]; omega
        · obtain rfl : k = 8 := by omega
          go_wp2_with fail
          go_round
          case rel => exact ⟨j + 1, by omega, by go_num, by rw [HS.out, HB.out, HX.out]⟩
          case measure => simp [intOf]; omega
    · obtain rfl : j = l.length := by omega
      have hjI : ¬ ((l.length : Int) < (l.length : Int)) := by omega
      rw [List.take_length]
      go_wp2_with fail
      go_ret
      exact ⟨rfl, rfl⟩
end Go.Proofs.Ytellmmgiabfacaa
