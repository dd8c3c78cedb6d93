/-
  Contracts of the document's answers: Bytes, ParseBytes, Row.
-/
import Derived.Test.YtdjppchcnbfcoaaCRef1
import Derived.Test.YtdjppchcnbfcoaaCTakeB
namespace Go.Proofs.Ytdjppchcnbfcoaa
open Go.ChangeShapes Go.WideShapes Go.ChangeAt Go.RowKit
set_option linter.unusedVariables false

set_option maxHeartbeats 1600000 in
set_option maxRecDepth 100000 in
theorem refBytes_any (A : Option Addr) (c : Nat) (s : List UInt8) (w : World) (hA : BRd w A s) (hlim : (encB s).length ≤ 140737488355328) :
    Calls Try.prog 41 #[.slice A s.length c] w (Fresh (encB s) w) := by
  have HA := Lib.hid hA
  have hsl : s.length + 2 ≤ (encB s).length := by have := encB_len s; omega
  have HE := Lib.hid (encB_esc s)
  have HEL : Hid ((escL s).length + 2 = (encB s).length) := by show _ = _; rw [encB_esc]; simp
  have lim2 : s.length + 2 ≤ 140737488355328 := by omega
  have HLM := Lib.hid hlim
  clear hA hsl hlim
  go_enter Try.func41, Try.ntmps41
  go_wp2_with fail
  go_loopw [3, 4] (fun b idx wr => ∃ k : Nat, k ≤ s.length ∧ idx = .int .i64 k ∧ OwnB wr w.heap.size b (escL (s.take k)) ∧ Below w.heap.size w wr) (fun _ idx _ => s.length - (intOf idx).toNat)
  case atStart => exact ⟨0, by omega, rfl, OwnB.nil _ _, Below.refl _ _⟩
  case round =>
    obtain ⟨k, hk, rfl, hown2, hg2⟩ := hrel
    have hO2 := Lib.hid hown2
    have hG2 := Lib.hid hg2
    have hBr : w.heap.size ≤ wr.heap.size := hg2.size
    clear hown2 hg2
    by_cases hik : k < s.length
    · obtain ⟨g, off, rfl, hgl, hc⟩ := (HA.out.below hG2.out) (by omega)
      have c0 := hc k hik
      have HC := Lib.hid hc
      have HT := Lib.hid (escL_take s k hik)
      have HTL : Hid ((escL (s.take k)).length + (escB s[k]).length + 2 ≤ 140737488355328) := by
        show _ ≤ _
        have h1 := escL_take_le s (k + 1)
        rw [escL_take s k hik, List.length_append] at h1
        have h2 := HEL.out
        have h3 := HLM.out
        omega
      clear hc
      have HCA := Lib.hid (fun (W : World) (hW : Below w.heap.size w W) => (HA.out.below hW).at k hik)
      have x0 : (0 : Int) ≤ (k : Int) := by omega
      have x1 : (k : Int) < (s.length : Int) := by omega
      have x2 : 0 < s.length := by omega
      generalize s[k] = ch at *
      by_cases hz : ch = 0
      · have HEZ := Lib.hid (escB_zero hz)
        have hzn : (ch.toNat : Int) = 0 := by rw [hz]; rfl
        rw [hzn] at c0 HCA
        have HZ := Lib.hid hzn.symm
        clear hz hzn
        go_wp2_with (at_builtin; go_loud (refine wpList_byte rfl _ _ rfl w.heap.size u3 _ ch HZ.out rfl rfl hO2.out hBr (by have := HTL.out; omega) ?_); intro v2 w2 hown2 hg2; refine Hid.out ?_)
        refine Lib.hid ?_
        have hO3 := Lib.hid hown2
        have hG3 := Lib.hid (below_tr hG2.out (hg2.below hO2.out hBr))
        have hBr3 : w.heap.size ≤ w2.heap.size := Nat.le_trans hBr hg2.by_.size
        have c1 := HCA.out _ hG3.out
        clear hown2 hg2
        go_wp2_with (at_builtin; go_loud (refine wpList_byte rfl _ _ rfl w.heap.size v2 _ 1 rfl rfl rfl hO3.out hBr3 (by have := HTL.out; have h5 := HEZ.out; rw [h5] at this; simp at this ⊢; omega) ?_); intro v3 w3 hown3 hg3; refine Hid.out ?_)
        refine Lib.hid ?_
        have hO4 : Hid (OwnB w3 w.heap.size v3 (escL (s.take (k + 1)))) := by
          show OwnB _ _ _ _
          rw [HT.out, HEZ.out, ← List.append_assoc]
          exact hown3
        have hG4 := Lib.hid (below_tr hG3.out (hg3.below hO3.out hBr3))
        clear hown3 hg3
        go_wp2_with fail
        go_roundw
        case rel => exact ⟨k + 1, by omega, by go_num, hO4.out, hG4.out⟩
        case measure => simp [intOf]; omega
      · have HEZ := Lib.hid (escB_other hz)
        have hzn : ((ch.toNat : Int) == 0) = false := by
          have : ch.toNat ≠ 0 := fun h => hz (UInt8.toNat_inj.1 h)
          simp; omega
        clear hz
        go_wp2_with (at_builtin; go_loud (refine wpList_byte rfl _ _ rfl w.heap.size u3 _ ch rfl rfl rfl hO2.out hBr (by have := HTL.out; omega) ?_); intro v2 w2 hown2 hg2; refine Hid.out ?_)
        refine Lib.hid ?_
        have hO4 : Hid (OwnB w2 w.heap.size v2 (escL (s.take (k + 1)))) := by
          show OwnB _ _ _ _
          rw [HT.out, HEZ.out]
          exact hown2
        have hG4 := Lib.hid (below_tr hG2.out (hg2.below hO2.out hBr))
        have c1 := HCA.out _ hG4.out
        clear hown2 hg2
        go_wp2_with fail
        go_roundw
        case rel => exact ⟨k + 1, by omega, by go_num, hO4.out, hG4.out⟩
        case measure => simp [intOf]; omega
    · obtain rfl : k = s.length := by omega
      have hikI : ¬ ((s.length : Int) < (s.length : Int)) := by omega
      have hO3 : Hid (OwnB wr w.heap.size u3 (escL s)) := by
        show OwnB _ _ _ _
        have := hO2.out
        rwa [List.take_length] at this
      go_wp2_with (at_builtin; go_loud (refine wpList_app rfl _ _ rfl w.heap.size u3 (escL s) (some ⟨wr.heap.size, 0, none⟩) 2 [0, 0] rfl rfl (hO3.out.alloc _) (brd_two wr _ 0 0) (by decide) (by simp; omega) (by have h2 := HEL.out; have h3 := HLM.out; show _ + 2 ≤ _; omega) ?_); intro v2 w2 hown2 hg2; refine Hid.out ?_)
      refine Lib.hid ?_
      have hO4 : Hid (OwnB w2 w.heap.size v2 (encB s)) := by
        show OwnB _ _ _ _
        rw [HE.out]
        exact hown2
      have hG4 := Lib.hid (below_tr hG2.out ((Grw.alloc hg2).below hO3.out hBr))
      clear hown2 hg2
      go_wp2_with fail
      go_ret
      exact ⟨_, rfl, hO4.out, hG4.out⟩
set_option maxHeartbeats 3200000 in
set_option maxRecDepth 100000 in
theorem refParseBytes_any (A : Option Addr) (c : Nat) (b : List UInt8) (w : World) (hA : BRd w A b) (hl : b.length ≤ 140737488355328) :
    Calls Try.prog 47 #[.slice A b.length c] w (TakeB b w) := by
  have HA := Lib.hid hA
  clear hA
  go_enter Try.func47, Try.ntmps47
  go_wp2_with fail
  go_loopw [5, 6] (fun s idx wr => ∃ (k : Nat) (acc : List UInt8), k ≤ b.length ∧ acc.length ≤ k ∧ idx = .int .i64 k ∧ OwnB wr w.heap.size s acc ∧ Below w.heap.size w wr ∧ Rd8 b k acc) (fun _ idx _ => b.length - (intOf idx).toNat)
  case atStart => exact ⟨0, [], by omega, by simp, rfl, OwnB.nil _ _, Below.refl _ _, Rd8.start b⟩
  case round =>
    obtain ⟨k, acc, hk, hal, rfl, hown2, hb2, hrd⟩ := hrel
    have hO2 := Lib.hid hown2
    have hB2 := Lib.hid hb2
    have hR := Lib.hid hrd
    have hBr : w.heap.size ≤ wr.heap.size := hb2.size
    clear hown2 hb2 hrd
    by_cases hik : k < b.length
    · obtain ⟨g, off, rfl, hgl, hc⟩ := (HA.out.below hB2.out) (by omega)
      have c0 := hc k hik
      have HC := Lib.hid hc
      clear hc
      have x0 : (0 : Int) ≤ (k : Int) := by omega
      have x1 : (k : Int) < (b.length : Int) := by omega
      have x2 : 0 < b.length := by omega
      by_cases hz : b[k] = 0
      · have HZ := Lib.hid hz
        have hzn : (b[k].toNat : Int) = 0 := by rw [hz]; rfl
        rw [hzn] at c0
        clear hz hzn
        by_cases hlast : k + 1 = b.length
        · have HL := Lib.hid hlast
          have e1 : ((k : Int) + 1 == (b.length : Int)) = true := by simp; omega
          clear hlast
          go_wp2_with fail
          go_ret3
          exact TakeB.mk (hR.out.end1 hik HZ.out (by rw [HL.out]; exact Nat.le_refl _)) rfl rfl (OwnB.nil _ _) hB2.out
        · have hik2 : k + 1 < b.length := by omega
          have e1 : ((k : Int) + 1 == (b.length : Int)) = false := by simp; omega
          have c1 := HC.out (k + 1) hik2
          have y1 : (k : Int) + 1 < (b.length : Int) := by omega
          clear hlast
          by_cases hd0 : b[k + 1] = 0
          · have HD := Lib.hid hd0
            have hdn : (b[k + 1].toNat : Int) = 0 := by rw [hd0]; rfl
            rw [hdn] at c1
            clear hd0 hdn
            go_wp2_with fail
            go_ret3
            exact TakeB.mk (hR.out.done hik2 HZ.out HD.out) (by omega) rfl hO2.out hB2.out
          · by_cases hd1 : b[k + 1] = 1
            · have HD := Lib.hid hd1
              have hdn : (b[k + 1].toNat : Int) = 1 := by rw [hd1]; rfl
              rw [hdn] at c1
              clear hd1 hdn hd0
              go_wp2_with (at_builtin; go_loud (refine wpList_byte rfl _ _ rfl w.heap.size u5 acc 0 rfl rfl rfl hO2.out hBr (by omega) ?_); intro v2 w2 hown2 hg2; refine Hid.out ?_)
              refine Lib.hid ?_
              have hO4 := Lib.hid hown2
              have hB4 := Lib.hid (below_tr hB2.out (hg2.below hO2.out hBr))
              clear hown2 hg2
              go_wp2_with fail
              go_roundw
              case rel => exact ⟨k + 2, acc ++ [0], by omega, by simp; omega, by go_num, hO4.out, hB4.out, hR.out.zero hik2 HZ.out HD.out⟩
              case measure => simp [intOf]; omega
            · have HD0 := Lib.hid hd0
              have HD1 := Lib.hid hd1
              have n0 : ((b[k + 1].toNat : Int) == 0) = false := by
                have : b[k + 1].toNat ≠ 0 := fun h => hd0 (UInt8.toNat_inj.1 h)
                simp; omega
              have n1 : ((b[k + 1].toNat : Int) == 1) = false := by
                have : b[k + 1].toNat ≠ 1 := fun h => hd1 (UInt8.toNat_inj.1 h)
                simp; omega
              clear hd0 hd1
              generalize (b[k + 1].toNat : Int) = d at *
              go_wp2_with fail
              go_ret3
              exact TakeB.mk (hR.out.bad hik2 HZ.out HD0.out HD1.out) rfl rfl (OwnB.nil _ _) hB2.out
      · have HZ := Lib.hid hz
        have hzn : ((b[k].toNat : Int) == 0) = false := by
          have : b[k].toNat ≠ 0 := fun h => hz (UInt8.toNat_inj.1 h)
          simp; omega
        clear hz
        go_wp2_with (at_builtin; go_loud (refine wpList_byte rfl _ _ rfl w.heap.size u5 acc b[k] rfl rfl rfl hO2.out hBr (by omega) ?_); intro v2 w2 hown2 hg2; refine Hid.out ?_)
        refine Lib.hid ?_
        have hO4 := Lib.hid hown2
        have hB4 := Lib.hid (below_tr hB2.out (hg2.below hO2.out hBr))
        clear hown2 hg2
        go_wp2_with fail
        go_roundw
        case rel => exact ⟨k + 1, acc ++ [b[k]], by omega, by simp; omega, by go_num, hO4.out, hB4.out, hR.out.other hik HZ.out⟩
        case measure => simp [intOf]; omega
    · obtain rfl : k = b.length := by omega
      have hikI : ¬ ((b.length : Int) < (b.length : Int)) := by omega
      go_wp2_with fail
      go_ret3
      exact TakeB.mk (hR.out.over (Nat.le_refl _)) rfl rfl (OwnB.nil _ _) hB2.out
end Go.Proofs.Ytdjppchcnbfcoaa
