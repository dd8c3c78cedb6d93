/-
  Contracts of OrderRows and the document's.
-/
import Derived.Test.YtglaikeaigbiiaaGreatDoorVSlice
import Derived.Deep.RegionHeld3
namespace Go.Proofs.YtglaikeaigbiiaaGreatDoor
open Go.ChangeShapes Go.WideShapes Go.ChangeAt Go.RowKit
set_option linter.unusedVariables false

theorem orderE (ak as_ : Int) (anl : Bool) (an : Int) (at_ : ByteArray) (bk bs_ : Int) (bnl : Bool) (bn : Int) (bt_ : ByteArray) (w : World) (ha : In64 an) (hb : In64 bn) {c : Int} (hc : Hid (ordV ⟨ak, as_, anl, an, at_⟩ ⟨bk, bs_, bnl, bn, bt_⟩ = c)) :
    Calls Tryz.prog 24 #[.agg #[.int .i64 ak, .int .i64 as_, .bool anl, .int .i64 an, .string at_], .agg #[.int .i64 bk, .int .i64 bs_, .bool bnl, .int .i64 bn, .string bt_]] w fun e w' => e = .returned (.int .i64 c) ∧ Below w.heap.size w w' := hc.out ▸ order_any ⟨ak, as_, anl, an, at_⟩ ⟨bk, bs_, bnl, bn, bt_⟩ w ha hb
theorem refOrderE (ak as_ : Int) (anl : Bool) (an : Int) (at_ : ByteArray) (bk bs_ : Int) (bnl : Bool) (bn : Int) (bt_ : ByteArray) (w : World) (ha : In64 an) (hb : In64 bn) {c : Int} (hc : Hid (ordV ⟨ak, as_, anl, an, at_⟩ ⟨bk, bs_, bnl, bn, bt_⟩ = c)) :
    Calls Tryz.prog 25 #[.agg #[.int .i64 ak, .int .i64 as_, .bool anl, .int .i64 an, .string at_], .agg #[.int .i64 bk, .int .i64 bs_, .bool bnl, .int .i64 bn, .string bt_]] w fun e w' => e = .returned (.int .i64 c) ∧ Below w.heap.size w w' := hc.out ▸ refOrder_any ⟨ak, as_, anl, an, at_⟩ ⟨bk, bs_, bnl, bn, bt_⟩ w ha hb
theorem ordRows_step (xs ys : List VR) (k : Nat) (hx : k < xs.length) (hy : k < ys.length) : ordRows (xs.drop k) (ys.drop k) = if ordV xs[k] ys[k] = 0 then ordRows (xs.drop (k + 1)) (ys.drop (k + 1)) else ordV xs[k] ys[k] := by
  rw [List.drop_eq_getElem_cons hx, List.drop_eq_getElem_cons hy]; rfl
theorem ordRows_left (xs ys : List VR) (k : Nat) (hx : k < xs.length) (hy : k = ys.length) : ordRows (xs.drop k) (ys.drop k) = 1 := by
  rw [show ys.drop k = [] by rw [hy]; exact List.drop_length .., List.drop_eq_getElem_cons hx]; rfl
theorem ordRows_right (xs ys : List VR) (k : Nat) (hx : k = xs.length) (hy : k < ys.length) : ordRows (xs.drop k) (ys.drop k) = -1 := by
  rw [show xs.drop k = [] by rw [hx]; exact List.drop_length .., List.drop_eq_getElem_cons hy]; rfl
theorem ordRows_both (xs ys : List VR) (k : Nat) (hx : k = xs.length) (hy : k = ys.length) : ordRows (xs.drop k) (ys.drop k) = 0 := by
  rw [show xs.drop k = [] by rw [hx]; exact List.drop_length .., show ys.drop k = [] by rw [hy]; exact List.drop_length ..]; rfl

set_option maxHeartbeats 3200000 in
set_option maxRecDepth 100000 in
theorem refOrderRows_any (A B : Option Addr) (ca cb : Nat) (xs ys : List VR) (w : World) (hA : VRd w A xs) (hB : VRd w B ys) (ox : ∀ x ∈ xs, x.Ok) (oy : ∀ y ∈ ys, y.Ok) (lx : xs.length ≤ maxLen) (ly : ys.length ≤ maxLen) :
    Calls Tryz.prog 27 #[.slice A xs.length ca, .slice B ys.length cb] w fun e w' => e = .returned (.int .i64 (ordRows xs ys)) ∧ Below w.heap.size w w' := by
  unfold maxLen at lx ly
  go_enter Tryz.func27, Tryz.ntmps27
  go_wp2
  go_loopw [5] (fun i wr => ∃ k : Nat, k ≤ xs.length ∧ k ≤ ys.length ∧ i = .int .i64 k ∧ Below w.heap.size w wr ∧ VRd wr A xs ∧ VRd wr B ys ∧ Hid (ordRows (xs.drop k) (ys.drop k) = ordRows xs ys)) (fun i _ => xs.length - (intOf i).toNat)
  case atStart => exact ⟨0, Nat.zero_le _, Nat.zero_le _, rfl, Below.refl _ _, hA, hB, Lib.hid rfl⟩
  case round =>
    clear hA hB
    obtain ⟨k, kx, ky, rfl, hw, hA, hB, HK⟩ := hrel
    by_cases hx : k < xs.length
    · by_cases hy : k < ys.length
      · skip
        obtain ⟨g, off, rfl, hg, hW⟩ := hA (by omega)
        obtain ⟨g', off', rfl, hg', hW'⟩ := hB (by omega)
        obtain ⟨a0, a1, a2, a3, a4⟩ := hW k hx
        obtain ⟨b0, b1', b2', b3, b4⟩ := hW' k hy
        have ha := (ox _ (List.getElem_mem hx)).n
        have hb := (oy _ (List.getElem_mem hy)).n
        obtain ⟨c, hc⟩ : ∃ c, ordV xs[k] ys[k] = c := ⟨_, rfl⟩
        have HA := Lib.hid hA
        have HB := Lib.hid hB
        have hst := ordRows_step xs ys k hx hy
        rw [hc] at hst
        have HS := Lib.hid hst
        have x0 : (0 : Int) ≤ (k : Int) := by omega
        have x1 : (k : Int) < (xs.length : Int) := by omega
        have y1 : (k : Int) < (ys.length : Int) := by omega
        have x2 : 0 < xs.length := by omega
        have y2 : 0 < ys.length := by omega
        clear hA hB hW hW' hst
        generalize xs[k] = vx at *
        generalize ys[k] = vy at *
        obtain ⟨ak, as_, anl, an, at_⟩ := vx
        obtain ⟨bk, bs_, bnl, bn, bt_⟩ := vy
        simp only at a0 a1 a2 a3 a4 b0 b1' b2' b3 b4 ha hb hc
        have HC := Lib.hid hc
        clear hc

        go_wp2
        go_region_held3 (fun w' => w'.cell? ⟨g, off + k * 5, none⟩ = some (.int .i64 ak) ∧ w'.cell? ⟨g, off + k * 5 + 1, none⟩ = some (.int .i64 as_) ∧ w'.cell? ⟨g, off + k * 5 + 2, none⟩ = some (.bool anl) ∧ w'.cell? ⟨g, off + k * 5 + 3, none⟩ = some (.int .i64 an) ∧ w'.cell? ⟨g, off + k * 5 + 4, none⟩ = some (.string at_) ∧ w'.cell? ⟨g', off' + k * 5, none⟩ = some (.int .i64 bk) ∧ w'.cell? ⟨g', off' + k * 5 + 1, none⟩ = some (.int .i64 bs_) ∧ w'.cell? ⟨g', off' + k * 5 + 2, none⟩ = some (.bool bnl) ∧ w'.cell? ⟨g', off' + k * 5 + 3, none⟩ = some (.int .i64 bn) ∧ w'.cell? ⟨g', off' + k * 5 + 4, none⟩ = some (.string bt_) ∧ g < w'.heap.size ∧ g' < w'.heap.size ∧ Below wr.heap.size wr w')
        (((try go_split_ands); refine ⟨?_, ?_, ?_, ?_, ?_, ?_, ?_, ?_, ?_, ?_, ?_, ?_, ?_⟩ <;> first | assumption | (with_reducible exact below_drew (Below.refl _ _)) | (rw [(bcell hb1).1 _ _ (by omega)]; assumption) | (have := hb1.size; omega) | (with_reducible refine bt ?_ hb1; assumption) | go_keep))
        (first | (go_at_call 25; refine (refOrderE _ _ _ _ _ _ _ _ _ _ _ ha hb HC).mono ?_; rintro e w1 ⟨rfl, hb1⟩))
        rename_i hH
        obtain ⟨-, -, -, -, -, -, -, -, -, -, -, -, hwr⟩ := hH
        by_cases hz : c = 0
        · subst hz
          go_wp2
          go_roundw
          case rel => exact ⟨k + 1, by omega, by omega, by go_num, bt hw hwr, HA.out.below hwr, HB.out.below hwr, Lib.hid (by rw [← HK.out, HS.out]; rfl)⟩
          case measure => simp [intOf]; omega
        · have hz1 : (c != 0) = true := by simpa using hz
          have HZ := Lib.hid hz
          clear hz
          go_wp2
          go_ret
          exact ⟨ret_int (by rw [← HK.out, HS.out, if_neg HZ.out]), bt hw hwr⟩
      · have E1 := Lib.hid (ordRows_left xs ys k hx (by omega))
        have hyI : ¬ (k : Int) < (ys.length : Int) := by omega
        have d1 : decide (xs.length < ys.length) = false := decide_eq_false (by omega)
        have d2 : decide (ys.length < xs.length) = true := decide_eq_true (by omega)
        go_wp2_with (first | (go_at_call 43; refine (sign_any _ _ _).mono ?_; rintro e w1 ⟨rfl, rfl⟩))
        go_ret
        exact ⟨ret_int (by rw [← HK.out, E1.out]; rfl), hw⟩
    · have hxI : ¬ (k : Int) < (xs.length : Int) := by omega
      by_cases hy : k < ys.length
      · have E1 := Lib.hid (ordRows_right xs ys k (by omega) hy)
        have d1 : decide (xs.length < ys.length) = true := decide_eq_true (by omega)
        go_wp2_with (first | (go_at_call 43; refine (sign_any _ _ _).mono ?_; rintro e w1 ⟨rfl, rfl⟩))
        go_ret
        exact ⟨ret_int (by rw [← HK.out, E1.out]; rfl), hw⟩
      · have E1 := Lib.hid (ordRows_both xs ys k (by omega) (by omega))
        have d1 : decide (xs.length < ys.length) = false := decide_eq_false (by omega)
        have d2 : decide (ys.length < xs.length) = false := decide_eq_false (by omega)
        go_wp2_with (first | (go_at_call 43; refine (sign_any _ _ _).mono ?_; rintro e w1 ⟨rfl, rfl⟩))
        go_ret
        exact ⟨ret_int (by rw [← HK.out, E1.out]; rfl), hw⟩
end Go.Proofs.YtglaikeaigbiiaaGreatDoor
