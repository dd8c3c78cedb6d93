/-
  Contracts of codec's byte strings: sizeBytes, appendBytes.
-/
import Derived.Test.YtdjppchcnbfcoaaCLib
import Derived.Test.YtdjppchcnbfcoaaCMath3
namespace Go.Proofs.Ytdjppchcnbfcoaa
open Go.ChangeShapes Go.WideShapes Go.ChangeAt Go.RowKit
set_option linter.unusedVariables false

set_option maxHeartbeats 1000000 in
theorem sizeBytes_any (A : Option Addr) (c : Nat) (l : List UInt8) (w : World) (hA : BRd w A l) (hN : A = none → c = 0) (hl : l.length ≤ 140737488355328) :
    Calls Try.prog 60 #[.slice A l.length c] w fun e w' => e = .returned (.int .i64 ((encB l).length : Int)) ∧ Below w.heap.size w w' := by
  have HL := Lib.hid (encB_len l)
  have HC : Hid (∀ T, Calls Try.prog 66 #[.slice A l.length c, .slice (some ⟨w.heap.size, 0, none⟩) 1 1] (w.alloc (.cells #[.int .u8 0] T)) fun e w' => e = .returned (.int .i64 (l.count 0 : Nat)) ∧ w.alloc (.cells #[.int .u8 0] T) = w') := by
    intro T
    exact count_any A c l w.heap.size 1 _ (hA.alloc _) hN (World.cell?_alloc_at _ _ _ _ rfl)
  have hcl : l.count 0 ≤ l.length := List.count_le_length
  clear hA hN
  generalize l.count 0 = z at *
  go_enter Try.func60, Try.ntmps60
  go_wp2_with fail
  refine (HC.out _).mono ?_
  rintro e w' ⟨rfl, rfl⟩
  go_wp2_with fail
  go_ret
  exact ⟨ret_int (by rw [HL.out]; omega), alloc_below _ _⟩

set_option maxHeartbeats 1600000 in
set_option maxRecDepth 100000 in
theorem appendBytes_any (B : Nat) (v : Value) (l : List UInt8) (A : Option Addr) (c : Nat) (s : List UInt8) (w : World) (hA : BRd w A s) (hd : Apart A v) (hown : OwnB w B v l) (hB : B ≤ w.heap.size) (hlim : l.length + (encB s).length ≤ 140737488355328) :
    Calls Try.prog 61 #[v, .slice A s.length c] w (AppPost B v l (encB s) w) := by
  have HO := Lib.hid hown
  have HA := Lib.hid hA
  have HD := Lib.hid hd
  have hsl : s.length + 2 ≤ (encB s).length := by have := encB_len s; omega
  have HE := Lib.hid (encB_esc s)
  have HEL : Hid ((escL s).length + 2 = (encB s).length) := by show _ = _; rw [encB_esc]; simp
  have lim2 : l.length + s.length + 2 ≤ 140737488355328 := by omega
  have HLM := Lib.hid hlim
  clear hown hA hd hsl hlim
  go_enter Try.func61, Try.ntmps61
  go_wp2_with fail
  go_loopw [0, 9] (fun b idx wr => ∃ k : Nat, k ≤ s.length ∧ idx = .int .i64 k ∧ OwnB wr B b (l ++ escL (s.take k)) ∧ Grw w wr v b) (fun _ idx _ => s.length - (intOf idx).toNat)
  case atStart => exact ⟨0, by omega, rfl, by simpa [escL] using HO.out, Grw.refl _ _⟩
  case round =>
    obtain ⟨k, hk, rfl, hown2, hg2⟩ := hrel
    have hO2 := Lib.hid hown2
    have hG2 := Lib.hid hg2
    have hBr : B ≤ wr.heap.size := Nat.le_trans hB hg2.by_.size
    clear hown2 hg2
    by_cases hik : k < s.length
    · obtain ⟨g, off, rfl, hgl, hc⟩ := (HA.out.grw hG2.out HD.out) (by omega)
      have c0 := hc k hik
      have HC := Lib.hid hc
      have HT := Lib.hid (escL_take s k hik)
      have HTL : Hid ((l ++ escL (s.take k)).length + (escB s[k]).length + 2 ≤ 140737488355328) := by
        show _ ≤ _
        have h1 := escL_take_le s (k + 1)
        rw [escL_take s k hik, List.length_append] at h1
        have h2 := HEL.out
        have h3 := HLM.out
        rw [List.length_append]; omega
      clear hc
      have x0 : (0 : Int) ≤ (k : Int) := by omega
      have x1 : (k : Int) < (s.length : Int) := by omega
      have x2 : 0 < s.length := by omega
      generalize s[k] = ch at *
      by_cases hz : ch = 0
      · have HEZ := Lib.hid (escB_zero hz)
        have hzn : (ch.toNat : Int) = 0 := by rw [hz]; rfl
        rw [hzn] at c0
        have HZ := Lib.hid hzn.symm
        clear hz hzn
        go_wp2_with (at_builtin; go_loud (refine wpList_byte rfl _ _ rfl B u0 _ ch HZ.out rfl rfl hO2.out hBr (by have := HTL.out; omega) ?_); intro v2 w2 hown2 hg2; refine Hid.out ?_)
        refine Lib.hid ?_
        have hO3 := Lib.hid hown2
        have hG3 := Lib.hid (Grw.trans hG2.out hg2)
        have hBr3 : B ≤ w2.heap.size := Nat.le_trans hBr hg2.by_.size
        clear hown2 hg2
        go_wp2_with (at_builtin; go_loud (refine wpList_byte rfl _ _ rfl B v2 _ 1 rfl rfl rfl hO3.out hBr3 (by have := HTL.out; have h5 := HEZ.out; rw [h5] at this; simp at this ⊢; omega) ?_); intro v3 w3 hown3 hg3; refine Hid.out ?_)
        refine Lib.hid ?_
        have hO4 : Hid (OwnB w3 B v3 (l ++ escL (s.take (k + 1)))) := by
          show OwnB _ _ _ _
          rw [HT.out, HEZ.out, ← List.append_assoc, ← List.append_assoc]
          exact hown3
        have hG4 := Lib.hid (Grw.trans hG3.out hg3)
        clear hown3 hg3
        go_wp2_with fail
        go_roundw
        case rel => exact ⟨k + 1, by omega, by go_num, hO4.out, hG4.out⟩
        case measure => simp [intOf]; omega
      · have HEZ := Lib.hid (escB_other hz)
        have hzn : ((ch.toNat : Int) == 0) = false := by
          have : ch.toNat ≠ 0 := fun h => hz (UInt8.toNat_inj.1 h)
          simp; omega
        clear hz
        go_wp2_with (at_builtin; go_loud (refine wpList_byte rfl _ _ rfl B u0 _ ch rfl rfl rfl hO2.out hBr (by have := HTL.out; omega) ?_); intro v2 w2 hown2 hg2; refine Hid.out ?_)
        refine Lib.hid ?_
        have hO4 : Hid (OwnB w2 B v2 (l ++ escL (s.take (k + 1)))) := by
          show OwnB _ _ _ _
          rw [HT.out, HEZ.out, ← List.append_assoc]
          exact hown2
        have hG4 := Lib.hid (Grw.trans hG2.out hg2)
        clear hown2 hg2
        go_wp2_with fail
        go_roundw
        case rel => exact ⟨k + 1, by omega, by go_num, hO4.out, hG4.out⟩
        case measure => simp [intOf]; omega
    · obtain rfl : k = s.length := by omega
      have hikI : ¬ ((s.length : Int) < (s.length : Int)) := by omega
      have hO3 : Hid (OwnB wr B u0 (l ++ escL s)) := by
        show OwnB _ _ _ _
        have := hO2.out
        rwa [List.take_length] at this
      go_wp2_with (at_builtin; go_loud (refine wpList_app rfl _ _ rfl B u0 (l ++ escL s) (some ⟨wr.heap.size, 0, none⟩) 2 [0, 0] rfl rfl (hO3.out.alloc _) (brd_two wr _ 0 0) (by decide) (by simp; omega) (by have h2 := HEL.out; have h3 := HLM.out; rw [List.length_append]; show _ + 2 ≤ _; omega) ?_); intro v2 w2 hown2 hg2; refine Hid.out ?_)
      refine Lib.hid ?_
      have hO4 : Hid (OwnB w2 B v2 (l ++ encB s)) := by
        show OwnB _ _ _ _
        rw [HE.out, ← List.append_assoc]
        exact hown2
      have hG4 := Lib.hid (Grw.trans hG2.out (Grw.alloc hg2))
      clear hown2 hg2
      go_wp2_with fail
      go_ret
      exact ⟨_, rfl, hO4.out, hG4.out⟩
end Go.Proofs.Ytdjppchcnbfcoaa
