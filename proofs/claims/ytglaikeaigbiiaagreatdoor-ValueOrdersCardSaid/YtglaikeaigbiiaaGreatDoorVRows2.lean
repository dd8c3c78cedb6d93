/-
  Contract of OrderRows: slices.CompareFunc at Order.
-/
import Derived.Test.YtglaikeaigbiiaaGreatDoorVRows
namespace Go.Proofs.YtglaikeaigbiiaaGreatDoor
open Go.ChangeShapes Go.WideShapes Go.ChangeAt Go.RowKit
set_option linter.unusedVariables false

set_option maxHeartbeats 3200000 in
set_option maxRecDepth 100000 in
theorem compareFunc_any (A B : Option Addr) (ca cb : Nat) (xs ys : List VR) (w : World) (hA : VRd w A xs) (hB : VRd w B ys) (ox : ∀ x ∈ xs, x.Ok) (oy : ∀ y ∈ ys, y.Ok) (lx : xs.length ≤ maxLen) (ly : ys.length ≤ maxLen) :
    Calls Tryz.prog 47 #[.slice A xs.length ca, .slice B ys.length cb, .func (.func 24) #[] #[]] w fun e w' => e = .returned (.int .i64 (ordRows xs ys)) ∧ Below w.heap.size w w' := by
  unfold maxLen at lx ly
  go_enter Tryz.func47, Tryz.ntmps47
  go_wp2
  go_loopw [13] (fun i wr => ∃ k : Nat, k ≤ xs.length ∧ k ≤ ys.length ∧ i = .int .i64 k ∧ Below w.heap.size w wr ∧ VRd wr A xs ∧ VRd wr B ys ∧ Hid (ordRows (xs.drop k) (ys.drop k) = ordRows xs ys)) (fun i _ => xs.length - (intOf i).toNat)
  case atStart => exact ⟨0, Nat.zero_le _, Nat.zero_le _, rfl, Below.refl _ _, hA, hB, Lib.hid rfl⟩
  case round =>
    clear hA hB
    obtain ⟨k, kx, ky, rfl, hw, hA, hB, HK⟩ := hrel
    by_cases hx : k < xs.length
    · by_cases hy : k < ys.length
      · skip
        obtain ⟨g, off, rfl, hg, hW⟩ := hA (by omega)
        obtain ⟨g', off', rfl, hg', hW'⟩ := hB (by omega)
        obtain ⟨a0, a1, a2, a3, a4⟩ := hW k hx
        obtain ⟨b0, b1', b2', b3, b4⟩ := hW' k hy
        have ha := (ox _ (List.getElem_mem hx)).n
        have hb := (oy _ (List.getElem_mem hy)).n
        obtain ⟨c, hc⟩ : ∃ c, ordV xs[k] ys[k] = c := ⟨_, rfl⟩
        have HA := Lib.hid hA
        have HB := Lib.hid hB
        have hst := ordRows_step xs ys k hx hy
        rw [hc] at hst
        have HS := Lib.hid hst
        have x0 : (0 : Int) ≤ (k : Int) := by omega
        have x1 : (k : Int) < (xs.length : Int) := by omega
        have y1 : (k : Int) < (ys.length : Int) := by omega
        have x2 : 0 < xs.length := by omega
        have y2 : 0 < ys.length := by omega
        clear hA hB hW hW' hst
        generalize xs[k] = vx at *
        generalize ys[k] = vy at *
        obtain ⟨ak, as_, anl, an, at_⟩ := vx
        obtain ⟨bk, bs_, bnl, bn, bt_⟩ := vy
        simp only at a0 a1 a2 a3 a4 b0 b1' b2' b3 b4 ha hb hc
        have HC := Lib.hid hc
        clear hc

        by_cases hz : c = 0
        · subst hz
          go_wp2_with (first | (go_at_call 24; refine (orderE _ _ _ _ _ _ _ _ _ _ _ ha hb HC).mono ?_; rintro e w1 ⟨rfl, hb1⟩; have hwr := b2 hb1; clear hb1))
          go_roundw
          case rel => exact ⟨k + 1, by omega, by omega, by go_num, bt hw hwr, HA.out.below hwr, HB.out.below hwr, Lib.hid (by rw [← HK.out, HS.out]; rfl)⟩
          case measure => simp [intOf]; omega
        · have hz1 : (c != 0) = true := by simpa using hz
          have HZ := Lib.hid hz
          clear hz
          go_wp2_with (first | (go_at_call 24; refine (orderE _ _ _ _ _ _ _ _ _ _ _ ha hb HC).mono ?_; rintro e w1 ⟨rfl, hb1⟩; have hwr := b2 hb1; clear hb1))
          go_ret
          exact ⟨ret_int (by rw [← HK.out, HS.out, if_neg HZ.out]), bt hw hwr⟩
      · have E1 := Lib.hid (ordRows_left xs ys k hx (by omega))
        obtain ⟨g, off, rfl, hg, hW⟩ := hA (by omega)
        obtain ⟨a0, a1, a2, a3, a4⟩ := hW k hx
        have x0 : (0 : Int) ≤ (k : Int) := by omega
        have x1 : (k : Int) < (xs.length : Int) := by omega
        have yI : (ys.length : Int) ≤ (k : Int) := by omega
        have x2 : 0 < xs.length := by omega
        clear hA hB hW
        generalize xs[k] = vx at *
        obtain ⟨ak, as_, anl, an, at_⟩ := vx
        simp only at a0 a1 a2 a3 a4
        go_wp2
        go_ret
        exact ⟨ret_int (by rw [← HK.out, E1.out]), bt hw (alloc_below _ _)⟩
    · have hxI : ¬ (k : Int) < (xs.length : Int) := by omega
      by_cases hy : k < ys.length
      · have E1 := Lib.hid (ordRows_right xs ys k (by omega) hy)
        have d1 : decide (xs.length < ys.length) = true := decide_eq_true (by omega)
        go_wp2
        go_ret
        exact ⟨ret_int (by rw [← HK.out, E1.out]), hw⟩
      · have E1 := Lib.hid (ordRows_both xs ys k (by omega) (by omega))
        have d1 : decide (xs.length < ys.length) = false := decide_eq_false (by omega)
        go_wp2
        go_ret
        exact ⟨ret_int (by rw [← HK.out, E1.out]), hw⟩

theorem orderRows_any (A B : Option Addr) (ca cb : Nat) (xs ys : List VR) (w : World) (hA : VRd w A xs) (hB : VRd w B ys) (ox : ∀ x ∈ xs, x.Ok) (oy : ∀ y ∈ ys, y.Ok) (lx : xs.length ≤ maxLen) (ly : ys.length ≤ maxLen) :
    Calls Tryz.prog 26 #[.slice A xs.length ca, .slice B ys.length cb] w fun e w' => e = .returned (.int .i64 (ordRows xs ys)) ∧ Below w.heap.size w w' := by
  have HC := Lib.hid (fun W hA hB => compareFunc_any A B ca cb xs ys W hA hB ox oy lx ly)
  go_enter Tryz.func26, Tryz.ntmps26
  go_wp2_with fail
  refine (HC.out _ hA hB).mono ?_
  rintro e w1 ⟨rfl, hb1⟩
  go_wp2
  go_ret
  exact ⟨rfl, hb1⟩
end Go.Proofs.YtglaikeaigbiiaaGreatDoor
