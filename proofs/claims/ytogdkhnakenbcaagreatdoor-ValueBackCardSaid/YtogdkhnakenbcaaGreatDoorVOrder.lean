/-
  Contracts of Order and the document's.
-/
import Derived.Test.YtogdkhnakenbcaaGreatDoorVTest2
namespace Go.Proofs.YtogdkhnakenbcaaGreatDoor
open Go.ChangeShapes Go.WideShapes Go.ChangeAt Go.RowKit
set_option linter.unusedVariables false

theorem nanI (a : Int) (w : World) : Calls Tryz.prog 85 #[.int .i64 a] w fun e w' => e = .returned (.bool false) ∧ w = w' := by
  go_enter Tryz.func85, Tryz.ntmps85
  go_wp2
  go_ret
  exact ⟨rfl, rfl⟩
theorem cmpInt (a b : Int) (w : World) : Calls Tryz.prog 61 #[.int .i64 a, .int .i64 b] w fun e w' => e = .returned (.int .i64 (cmpI a b)) ∧ w = w' := by
  by_cases h : a < b
  · have H : Hid (cmpI a b = -1) := if_pos h
    go_enter Tryz.func61, Tryz.ntmps61
    go_wp2_with (go_at_call 85; refine (nanI _ _).mono ?_; rintro e w' ⟨rfl, rfl⟩)
    go_ret
    exact ⟨ret_int H.out.symm, rfl⟩
  · by_cases h2 : b < a
    · have H : Hid (cmpI a b = 1) := (if_neg h).trans (if_pos h2)
      go_enter Tryz.func61, Tryz.ntmps61
      go_wp2_with (go_at_call 85; refine (nanI _ _).mono ?_; rintro e w' ⟨rfl, rfl⟩)
      go_ret
      exact ⟨ret_int H.out.symm, rfl⟩
    · have H : Hid (cmpI a b = 0) := (if_neg h).trans (if_neg h2)
      go_enter Tryz.func61, Tryz.ntmps61
      go_wp2_with (go_at_call 85; refine (nanI _ _).mono ?_; rintro e w' ⟨rfl, rfl⟩)
      go_ret
      exact ⟨ret_int H.out.symm, rfl⟩
theorem rank_any (k s : Int) (w : World) :
    Calls Tryz.prog 62 #[.agg #[.int .i64 k, .int .i64 s]] w fun e w' => e = .returned (.int .i64 (famI k)) ∧ Below w.heap.size w w' := by
  cases hN : isNumB k
  · have H : Hid (famI k = k) := by show _ = _; unfold famI; rw [if_neg (isNum_not hN).2]
    go_enter Tryz.func62, Tryz.ntmps62
    go_wp2_with (first | (go_at_call 81; refine (isNumber_any _ _ _).mono ?_; rintro e w1 ⟨rfl, hb⟩; have hc := (bcell hb).1; have hB := b1 hb; clear hb))
    go_ret
    exact ⟨ret_int H.out.symm, hB⟩
  · have H : Hid (famI k = 2) := by
      show _ = _
      rcases isNum_of hN with rfl | rfl <;> rfl
    go_enter Tryz.func62, Tryz.ntmps62
    go_wp2_with (first | (go_at_call 81; refine (isNumber_any _ _ _).mono ?_; rintro e w1 ⟨rfl, hb⟩; have hc := (bcell hb).1; have hB := b1 hb; clear hb))
    go_ret
    exact ⟨ret_int H.out.symm, hB⟩

theorem ordV_nn {a b : VR} (ha : a.nl = true) (hb : b.nl = true) : ordV a b = 0 := by unfold ordV; simp [ha, hb]
theorem ordV_nf {a b : VR} (ha : a.nl = true) (hb : b.nl = false) : ordV a b = -1 := by unfold ordV; simp [ha, hb]
theorem ordV_fn {a b : VR} (ha : a.nl = false) (hb : b.nl = true) : ordV a b = 1 := by unfold ordV; simp [ha, hb]
theorem ordV_al {a b : VR} (ha : a.nl = false) (hb : b.nl = false) (h : alikeB a.k b.k = true) : ordV a b = cmpV a b := by unfold ordV; simp [ha, hb, h]
theorem ordV_no {a b : VR} (ha : a.nl = false) (hb : b.nl = false) (h : alikeB a.k b.k = false) : ordV a b = cmpI (famI a.k) (famI b.k) := by unfold ordV; simp [ha, hb, h]

set_option maxHeartbeats 1600000 in
set_option maxRecDepth 10000 in
theorem order_any (a b : VR) (w : World) (ha : In64 a.n) (hb : In64 b.n) :
    Calls Tryz.prog 34 #[a.val, b.val] w fun e w' => e = .returned (.int .i64 (ordV a b)) ∧ Below w.heap.size w w' := by
  obtain ⟨ak, as_, anl, an, at_⟩ := a
  obtain ⟨bk, bs_, bnl, bn, bt_⟩ := b
  unfold VR.val
  simp only at *
  cases anl
  · cases bnl
    · cases h : alikeB ak bk
      · have H := Lib.hid (ordV_no (a := ⟨ak, as_, false, an, at_⟩) (b := ⟨bk, bs_, false, bn, bt_⟩) rfl rfl h)
        go_enter Tryz.func34, Tryz.ntmps34
        go_wp2_with fail
        refine (alikeV ak as_ bk bs_ _ h).mono ?_
        rintro e w1 ⟨rfl, hb1⟩
        have hc1 := (bcell hb1).1
        have hB := b2 hb1
        have hz : w.heap.size + 1 < w1.heap.size := by have := hb1.size; simp at this; omega
        have hz0 : w.heap.size < w1.heap.size := by omega
        clear hb1
        go_wp2_with fail
        have n0 : w1.cell? ⟨w.heap.size, 0, none⟩ = some (.int .i64 ak) := by rw [hc1 _ _ (by simp <;> omega)]; simp
        have n1 : w1.cell? ⟨w.heap.size, 1, none⟩ = some (.int .i64 as_) := by rw [hc1 _ _ (by simp <;> omega)]; simp
        have n2 : w1.cell? ⟨w.heap.size + 1, 0, none⟩ = some (.int .i64 bk) := by rw [hc1 _ _ (by simp <;> omega)]; simp
        have n3 : w1.cell? ⟨w.heap.size + 1, 1, none⟩ = some (.int .i64 bs_) := by rw [hc1 _ _ (by simp <;> omega)]; simp
        clear hc1
        go_region_held3 (fun w' => w'.cell? ⟨w.heap.size, 0, none⟩ = some (.int .i64 ak) ∧ w'.cell? ⟨w.heap.size, 1, none⟩ = some (.int .i64 as_) ∧ w'.cell? ⟨w.heap.size + 1, 0, none⟩ = some (.int .i64 bk) ∧ w'.cell? ⟨w.heap.size + 1, 1, none⟩ = some (.int .i64 bs_) ∧ w.heap.size + 1 < w'.heap.size ∧ Below w.heap.size w w')
        (((try go_split_ands); refine ⟨?_, ?_, ?_, ?_, ?_, ?_⟩ <;> first | assumption | (with_reducible exact below_drew (hB)) | (rw [(bcell hb1).1 _ _ (by omega)]; assumption) | (have := hb1.size; omega) | (with_reducible refine bt ?_ hb1; assumption) | go_keep))
        (first | (go_at_call 62; refine (rank_any _ _ _).mono ?_; rintro e w1 ⟨rfl, hb1⟩) | (go_at_call 61; refine (cmpInt _ _ _).mono ?_; rintro e w1 ⟨rfl, rfl⟩))
        rename_i hH
        obtain ⟨-, -, -, -, -, hB7⟩ := hH
        go_wp2
        go_ret
        exact ⟨ret_int H.out.symm, hB7⟩
      · have H := Lib.hid (ordV_al (a := ⟨ak, as_, false, an, at_⟩) (b := ⟨bk, bs_, false, bn, bt_⟩) rfl rfl h)
        go_enter Tryz.func34, Tryz.ntmps34
        go_wp2_with fail
        refine (alikeV ak as_ bk bs_ _ h).mono ?_
        rintro e w1 ⟨rfl, hb1⟩
        have hc1 := (bcell hb1).1
        have hB := b2 hb1
        have hz : w.heap.size + 1 < w1.heap.size := by have := hb1.size; simp at this; omega
        have hz0 : w.heap.size < w1.heap.size := by omega
        clear hb1
        go_wp2_with fail
        refine (compareC _ _ _ _ _ _ _ _ _ _ _ h ha hb (Lib.hid rfl)).mono ?_
        rintro e w2 ⟨rfl, hb2⟩
        have hB2 := bt hB hb2
        go_wp2
        go_ret
        exact ⟨ret_int H.out.symm, hB2⟩
    · go_enter Tryz.func34, Tryz.ntmps34
      go_wp2
      go_ret
      exact ⟨ret_int (ordV_fn rfl rfl).symm, alloc2_below _ _ _⟩
  · cases bnl
    · go_enter Tryz.func34, Tryz.ntmps34
      go_wp2
      go_ret
      exact ⟨ret_int (ordV_nf rfl rfl).symm, alloc2_below _ _ _⟩
    · go_enter Tryz.func34, Tryz.ntmps34
      go_wp2
      go_ret
      exact ⟨ret_int (ordV_nn rfl rfl).symm, alloc2_below _ _ _⟩

end Go.Proofs.YtogdkhnakenbcaaGreatDoor
