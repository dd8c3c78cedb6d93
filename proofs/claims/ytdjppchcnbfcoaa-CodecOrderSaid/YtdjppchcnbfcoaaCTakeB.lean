/-
  Contract of codec.takeBytes.
-/
import Derived.Test.YtdjppchcnbfcoaaCBytes
namespace Go.Proofs.Ytdjppchcnbfcoaa
open Go.ChangeShapes Go.WideShapes Go.ChangeAt Go.RowKit
set_option linter.unusedVariables false

def TakeB (b : List UInt8) (w : World) (e : Ending) (w' : World) : Prop := ∃ v', e = .returned (.tuple #[v', .int .i64 ((rdB b).2.1 : Int), .int .i64 (rdB b).2.2]) ∧ OwnB w' w.heap.size v' (rdB b).1 ∧ Below w.heap.size w w'
theorem TakeB.mk {b l : List UInt8} {k : Nat} {er z : Int} {w w' : World} {v' : Value} {e : Ending} (h : rdB b = (l, k, er)) (hz : z = (k : Int)) (he : e = .returned (.tuple #[v', .int .i64 z, .int .i64 er])) (ho : OwnB w' w.heap.size v' l) (hb : Below w.heap.size w w') : TakeB b w e w' := by
  unfold TakeB
  rw [h]
  subst hz
  exact ⟨v', he, ho, hb⟩

set_option maxHeartbeats 3200000 in
set_option maxRecDepth 100000 in
theorem takeBytes_any (A : Option Addr) (c : Nat) (b : List UInt8) (w : World) (hA : BRd w A b) (hl : b.length ≤ 140737488355328) :
    Calls Try.prog 62 #[.slice A b.length c] w (TakeB b w) := by
  have HA := Lib.hid hA
  clear hA
  go_enter Try.func62, Try.ntmps62
  go_wp2_with fail
  go_loopw [5, 6] (fun s idx wr => ∃ (k : Nat) (acc : List UInt8), k ≤ b.length ∧ acc.length ≤ k ∧ idx = .int .i64 k ∧ OwnB wr w.heap.size s acc ∧ Below w.heap.size w wr ∧ Rd8 b k acc) (fun _ idx _ => b.length - (intOf idx).toNat)
  case atStart => exact ⟨0, [], by omega, by simp, rfl, OwnB.nil _ _, Below.refl _ _, Rd8.start b⟩
  case round =>
    obtain ⟨k, acc, hk, hal, rfl, hown2, hb2, hrd⟩ := hrel
    have hO2 := Lib.hid hown2
    have hB2 := Lib.hid hb2
    have hR := Lib.hid hrd
    have hBr : w.heap.size ≤ wr.heap.size := hb2.size
    clear hown2 hb2 hrd
    by_cases hik : k < b.length
    · obtain ⟨g, off, rfl, hgl, hc⟩ := (HA.out.below hB2.out) (by omega)
      have c0 := hc k hik
      have HC := Lib.hid hc
      clear hc
      have x0 : (0 : Int) ≤ (k : Int) := by omega
      have x1 : (k : Int) < (b.length : Int) := by omega
      have x2 : 0 < b.length := by omega
      by_cases hz : b[k] = 0
      · have HZ := Lib.hid hz
        have hzn : (b[k].toNat : Int) = 0 := by rw [hz]; rfl
        rw [hzn] at c0
        clear hz hzn
        by_cases hlast : k + 1 = b.length
        · have HL := Lib.hid hlast
          have e1 : ((k : Int) + 1 == (b.length : Int)) = true := by simp; omega
          clear hlast
          go_wp2_with fail
          go_ret3
          exact TakeB.mk (hR.out.end1 hik HZ.out (by rw [HL.out]; exact Nat.le_refl _)) rfl rfl (OwnB.nil _ _) hB2.out
        · have hik2 : k + 1 < b.length := by omega
          have e1 : ((k : Int) + 1 == (b.length : Int)) = false := by simp; omega
          have c1 := HC.out (k + 1) hik2
          have y1 : (k : Int) + 1 < (b.length : Int) := by omega
          clear hlast
          by_cases hd0 : b[k + 1] = 0
          · have HD := Lib.hid hd0
            have hdn : (b[k + 1].toNat : Int) = 0 := by rw [hd0]; rfl
            rw [hdn] at c1
            clear hd0 hdn
            go_wp2_with fail
            go_ret3
            exact TakeB.mk (hR.out.done hik2 HZ.out HD.out) (by omega) rfl hO2.out hB2.out
          · by_cases hd1 : b[k + 1] = 1
            · have HD := Lib.hid hd1
              have hdn : (b[k + 1].toNat : Int) = 1 := by rw [hd1]; rfl
              rw [hdn] at c1
              clear hd1 hdn hd0
              go_wp2_with (at_builtin; go_loud (refine wpList_byte rfl _ _ rfl w.heap.size u5 acc 0 rfl rfl rfl hO2.out hBr (by omega) ?_); intro v2 w2 hown2 hg2; refine Hid.out ?_)
              refine Lib.hid ?_
              have hO4 := Lib.hid hown2
              have hB4 := Lib.hid (below_tr hB2.out (hg2.below hO2.out hBr))
              clear hown2 hg2
              go_wp2_with fail
              go_roundw
              case rel => exact ⟨k + 2, acc ++ [0], by omega, by simp; omega, by go_num, hO4.out, hB4.out, hR.out.zero hik2 HZ.out HD.out⟩
              case measure => simp [intOf]; omega
            · have HD0 := Lib.hid hd0
              have HD1 := Lib.hid hd1
              have n0 : ((b[k + 1].toNat : Int) == 0) = false := by
                have : b[k + 1].toNat ≠ 0 := fun h => hd0 (UInt8.toNat_inj.1 h)
                simp; omega
              have n1 : ((b[k + 1].toNat : Int) == 1) = false := by
                have : b[k + 1].toNat ≠ 1 := fun h => hd1 (UInt8.toNat_inj.1 h)
                simp; omega
              clear hd0 hd1
              generalize (b[k + 1].toNat : Int) = d at *
              go_wp2_with fail
              go_ret3
              exact TakeB.mk (hR.out.bad hik2 HZ.out HD0.out HD1.out) rfl rfl (OwnB.nil _ _) hB2.out
      · have HZ := Lib.hid hz
        have hzn : ((b[k].toNat : Int) == 0) = false := by
          have : b[k].toNat ≠ 0 := fun h => hz (UInt8.toNat_inj.1 h)
          simp; omega
        clear hz
        go_wp2_with (at_builtin; go_loud (refine wpList_byte rfl _ _ rfl w.heap.size u5 acc b[k] rfl rfl rfl hO2.out hBr (by omega) ?_); intro v2 w2 hown2 hg2; refine Hid.out ?_)
        refine Lib.hid ?_
        have hO4 := Lib.hid hown2
        have hB4 := Lib.hid (below_tr hB2.out (hg2.below hO2.out hBr))
        clear hown2 hg2
        go_wp2_with fail
        go_roundw
        case rel => exact ⟨k + 1, acc ++ [b[k]], by omega, by simp; omega, by go_num, hO4.out, hB4.out, hR.out.other hik HZ.out⟩
        case measure => simp [intOf]; omega
    · obtain rfl : k = b.length := by omega
      have hikI : ¬ ((b.length : Int) < (b.length : Int)) := by omega
      go_wp2_with fail
      go_ret3
      exact TakeB.mk (hR.out.over (Nat.le_refl _)) rfl rfl (OwnB.nil _ _) hB2.out
end Go.Proofs.Ytdjppchcnbfcoaa
