/-
  Of bits: All: the places that are set, one after the other.
-/
import Derived.Test.YtpdffcopigajgaaKNot
import Derived.RangeFuncNested
import Derived.RangeFuncBound
import Derived.RangeFuncCalls
import Derived.RangeFuncLeaves
import Derived.RangeFuncBox
import Derived.Shelf.Abstract
import Derived.Shelf.RegionOpen
import Derived.OwnWalkIn
import Derived.TacticsInMore
import Derived.LoopNIn
import Derived.LoopIn
import Derived.BigRegionIn
namespace Go.Proofs.Ytpdffcopigajgaa
open Go.ChangeShapes Go.WideShapes Go.ChangeAt Go.RowKit Go.Shelf
set_option linter.unusedVariables false
attribute [local go_sem] Oper.semAt_some

/-- The places below i that are set. -/
def whereU (l : List UInt8) (i : Nat) : List Nat := (List.range i).filter fun x => bitL l x
def whereL (l : List UInt8) : List Nat := whereU l (8 * l.length)
theorem whereU_zero (l : List UInt8) : whereU l 0 = [] := rfl
theorem whereU_snoc (l : List UInt8) (i : Nat) (h : bitL l i = true) : whereU l i ++ [i] = whereU l (i + 1) := by
  unfold whereU
  rw [List.range_succ, List.filter_append]
  simp [h]
theorem whereU_skip (l : List UInt8) (i : Nat) (h : bitL l i = false) : whereU l i = whereU l (i + 1) := by
  unfold whereU
  rw [List.range_succ, List.filter_append]
  simp [h]
theorem whereU_to (l : List UInt8) (i m : Nat) (h : ∀ x, i ≤ x → x < i + m → bitL l x = false) : whereU l i = whereU l (i + m) := by
  induction m with
  | zero => rfl
  | succ m ih => rw [ih fun x h1 h2 => h x h1 (by omega), whereU_skip l (i + m) (h _ (by omega) (by omega))]; rfl
theorem whereU_le (l : List UInt8) (i j : Nat) (h : i ≤ j) : (whereU l i).length ≤ (whereU l j).length := by
  unfold whereU
  obtain ⟨m, rfl⟩ := Nat.exists_eq_add_of_le h
  rw [List.range_add, List.filter_append, List.length_append]
  omega
theorem whereU_far (l : List UInt8) (i : Nat) (h : 8 * l.length ≤ i) : whereU l i = whereL l := by
  obtain ⟨m, rfl⟩ := Nat.exists_eq_add_of_le h
  exact (whereU_to l (8 * l.length) m fun x h1 _ => bitL_far h1).symm
theorem whereU_lt (l : List UInt8) (i : Nat) (h : bitL l i = true) : (whereU l i).length < (whereL l).length := by
  have h1 : i < 8 * l.length := by
    rcases Nat.lt_or_ge i (8 * l.length) with h' | h'
    · exact h'
    · rw [bitL_far h'] at h; cases h
  have h2 := whereU_le l (i + 1) (8 * l.length) h1
  rw [← whereU_snoc l i h, List.length_append, List.length_singleton] at h2
  exact h2
theorem shift_zero (c : UInt8) (j x : Nat) (h : c.toNat / 2 ^ j = 0) (hx : j ≤ x) : bitB c x = false := by
  unfold bitB
  refine Nat.testBit_lt_two_pow ?_
  have : c.toNat < 2 ^ j := (Nat.div_eq_zero_iff_lt (Nat.two_pow_pos j)).1 h
  exact Nat.lt_of_lt_of_le this (Nat.pow_le_pow_right (by decide) hx)
theorem shift_half (n j : Nat) : n / 2 ^ j / 2 = n / 2 ^ (j + 1) := by
  rw [Nat.div_div_eq_div_mul, Nat.pow_succ]
theorem shift_bit (c : UInt8) (j : Nat) : bits .and .u8 ((c.toNat / 2 ^ j : Nat) : Int) 1 = ((bitB c j).toNat : Int) := by
  have := bit_div c j
  rw [Int.natCast_ediv, Int.natCast_pow]
  exact this
theorem shift_end (c : UInt8) (j : Nat) (h : 8 ≤ j) : c.toNat / 2 ^ j = 0 := by
  refine Nat.div_eq_of_lt ?_
  exact Nat.lt_of_lt_of_le c.toNat_lt (Nat.pow_le_pow_right (by decide) h)

set_option maxRecDepth 100000 in
set_option maxHeartbeats 16000000 in
/-- The iterator: it yields the places that are set, one after the other, or is left early. -/
theorem all1_in (n : Nat) (hn : 1 ≤ n) (lp Bs : Nat) (N : Int) (A : Option Addr) (cap : Nat) (l : List UInt8) (Kp : World → World → Prop) (hlen : l.length ≤ 140737488355328) (J Jx : List Nat → World → Prop)
    (hY : ∀ pre (x : Nat) W, J pre W → pre.length < (whereL l).length → YieldAt Fence.wide (n - 1) Try.prog lp #[.int .i64 (x : Int)] W fun e W' =>
      (e = .returned (.bool true) ∧ J (pre ++ [x]) W' ∧ Kp W W') ∨ (e = .returned (.bool false) ∧ Jx (pre ++ [x]) W'))
    (hk : ∀ {A B C : World}, Kp A B → Kp B C → Kp A C) (hr : ∀ A : World, Kp A A)
    (W : World) (hc : ∀ W', Kp W W' → (W'.cell? ⟨Bs, 0, none⟩ = some (.int .i64 N) ∧ W'.cell? ⟨Bs, 1, none⟩ = some (.slice A l.length cap)) ∧ BRd W' A l) (h0 : J [] W) :
    CallsIn Fence.wide n Try.prog 59 #[.func (.yield lp) #[] #[], .pointer (some ⟨Bs, 0, none⟩)] W fun e W' => (∃ v, e = .returned v) ∧
      ((∃ ys, ys = whereL l ∧ J ys W') ∨ (∃ pre, (∃ k, pre = whereU l k) ∧ Jx pre W')) := by
  refine callsIn_of_wp Try.func59 rfl trivial ?_ rfl
  simp only [Try.ntmps59, List.size_toArray, List.length_cons, List.length_nil, Nat.reduceAdd, Nat.reduceSub, Array.replicate_succ, Array.replicate_zero, List.push_toArray, List.append_toArray, List.nil_append, List.cons_append]
  obtain ⟨c0, c1⟩ := (hc W (hr W)).1
  obtain ⟨p, hp⟩ : ∃ p, p = l.length := ⟨_, rfl⟩
  rw [← hp] at c1
  have HP := Lib.hid hp
  have hpB : p ≤ 140737488355328 := by omega
  clear hp
  gi_wp2
  gi_loopw [9] (fun i wr => ∃ k : Nat, k ≤ p ∧ i = .int .i64 (k : Int) ∧ J (whereU l (8 * k)) wr ∧ Kp W wr) (fun i _ => p - (intOf i).toNat)
  case atStart => exact ⟨0, Nat.zero_le _, rfl, h0, hr _⟩
  case round =>
    obtain ⟨wo, rfl⟩ : ∃ wo : World, wo = wr := ⟨_, rfl⟩
    obtain ⟨k, hkp, rfl, hJs, hnx⟩ := hrel
    by_cases hlt : k < p
    · have hkl : k < l.length := by rw [← HP.out]; exact hlt
      obtain ⟨g, off, hAe, _, hcell⟩ := (hc wo hnx).2 (by omega)
      have c2 := hcell k hkl
      have kI : (k : Int) < (p : Int) := by omega
      have HAE := Lib.hid hAe
      subst hAe
      have HJ := Lib.hid hJs
      have HX := Lib.hid hnx
      clear hcell hJs hnx
      have HBIT : Hid (∀ j, j < 8 → bitL l (8 * k + j) = bitB l[k] j) := fun j hj => bitL_at hkl hj
      generalize l[k] = ch at *
      clear hkl
      gi_wp2
      gi_loopw [4, 5] (fun cv iv wr => ∃ j i m : Nat, j ≤ 8 ∧ i = 8 * k + j ∧ m = ch.toNat / 2 ^ j ∧ iv = .int .i64 (i : Int) ∧ cv = .int .u8 (m : Int) ∧ J (whereU l i) wr ∧ Kp W wr) (fun _ iv _ => 8 * k + 8 - (intOf iv).toNat)
      case atStart => exact ⟨0, 8 * k, ch.toNat, by omega, rfl, by simp, by go_num, rfl, HJ.out, HX.out⟩
      case round =>
        clear HJ HX
        obtain ⟨j, i, m, hj, hi, hm, rfl, rfl, hJs, hnx⟩ := hrel
        have HJ := Lib.hid hJs
        have HX := Lib.hid hnx
        have HI := Lib.hid hi
        have HM := Lib.hid hm
        have hiB : i ≤ 2000000000000000 := by omega
        have hmB : m < 256 := by have := ch.toNat_lt; have := Nat.div_le_self ch.toNat (2 ^ j); omega
        clear hJs hnx
        by_cases hz : m = 0
        · have hzI : ((m : Int) != 0) = false := by simpa using hz
          have HE : Hid (J (whereU l (8 * (k + 1))) wr) := by
            have h := HJ.out
            rw [whereU_to l i (8 - j) fun x h1 h2 => by
              have h3 := HBIT.out (x - 8 * k) (by omega)
              rw [show 8 * k + (x - 8 * k) = x by omega] at h3
              rw [h3]
              exact shift_zero ch j _ (hm ▸ hz) (by omega)] at h
            rw [show i + (8 - j) = 8 * (k + 1) by omega] at h
            exact h
          clear hz hi hm hj
          gi_wp2
          go_roundw
          case rel => exact ⟨k + 1, by omega, by go_num, HE.out, HX.out⟩
          case measure => simp [intOf]; omega
        · have hzI : ((m : Int) != 0) = true := by simpa using hz
          have hj8 : j < 8 := by
            rcases Nat.lt_or_ge j 8 with h | h
            · exact h
            · exact absurd (shift_end ch j h) (hm ▸ hz)
          have HB := Lib.hid (HBIT.out j hj8)
          have HS : Hid (bits .and .u8 (m : Int) 1 = ((bitB ch j).toNat : Int)) := by
            show _ = _
            have := shift_bit ch j
            rw [← hm] at this
            exact this
          have HH : Hid (m / 2 = ch.toNat / 2 ^ (j + 1)) := by
            show _ = _
            have := shift_half ch.toNat j
            rw [← hm] at this
            exact this
          have HJ8 := Lib.hid hj8
          clear hz hi hm hj hj8
          cases hbit : bitB ch j with
          | false =>
            have hb1 : (bits .and .u8 (m : Int) 1 == 1) = false := by rw [HS.out, hbit]; rfl
            have HE : Hid (J (whereU l (i + 1)) wr) := by
              have h := HJ.out
              rw [whereU_skip l i (by rw [HI.out, HB.out, hbit])] at h
              exact h
            clear hbit
            gi_wp2
            refine ⟨fun f hf => by (cases hf), ?_⟩
            apply_assumption
            gi_wp2
            go_roundw
            case rel => exact ⟨j + 1, i + 1, m / 2, by have := HJ8.out; omega, by have := HI.out; omega, HH.out, by go_num, by go_num, HE.out, HX.out⟩
            case measure => have := HI.out; have := HJ8.out; simp [intOf]; omega
          | true =>
            have hb1 : (bits .and .u8 (m : Int) 1 == 1) = true := by rw [HS.out, hbit]; rfl
            have hbl : bitL l i = true := by rw [HI.out, HB.out, hbit]
            obtain ⟨fn, tmps, assign, body, hy, hR⟩ := hY _ i wr HJ.out (whereU_lt l i hbl)
            have HW := Lib.hid (whereU_snoc l i hbl)
            clear hbit hbl
            gi_wp2
            refine hR.mono ?_
            rintro e1 W3 (⟨rfl, hJ3, hk3⟩ | ⟨rfl, hJx3⟩)
            · rw [HW.out] at hJ3
              have HE := Lib.hid hJ3
              have HX3 := Lib.hid (hk HX.out hk3)
              clear hJ3 hk3
              gi_wp2
              go_roundw
              case rel => exact ⟨j + 1, i + 1, m / 2, by have := HJ8.out; omega, by have := HI.out; omega, HH.out, by go_num, by go_num, HE.out, HX3.out⟩
              case measure => have := HI.out; have := HJ8.out; simp [intOf]; omega
            · rw [HW.out] at hJx3
              have HE := Lib.hid hJx3
              clear hJx3
              gi_wp2
              refine bodyPost_ret (results_none rfl _ _ _) rfl ?_
              exact ⟨⟨_, rfl⟩, .inr ⟨_, ⟨_, rfl⟩, HE.out⟩⟩
    · obtain rfl : k = p := by omega
      have kI : ¬ ((k : Int) < (k : Int)) := by omega
      have HJ : Hid (J (whereL l) wo) := by
        have h := hJs
        rw [whereU_far l (8 * k) (by rw [HP.out]; exact Nat.le_refl _)] at h
        exact h
      gi_wp2
      go_end0
      first | exact ⟨⟨_, rfl⟩, .inl ⟨_, rfl, HJ.out⟩⟩ | exact ⟨⟨_, rfl⟩, .inl HJ.out⟩
end Go.Proofs.Ytpdffcopigajgaa
