/-
  The document's Same; what a value that may be is.
-/
import Derived.Test.YtogdkhnakenbcaaGreatDoorVJoin
import Derived.Test.YtogdkhnakenbcaaGreatDoorVChecks3
import Derived.Test.YtogdkhnakenbcaaGreatDoorVKeyMath
import Derived.Deep.RegionHeld3
namespace Go.Proofs.YtogdkhnakenbcaaGreatDoor
open Go.ChangeShapes Go.WideShapes Go.ChangeAt Go.RowKit
set_option linter.unusedVariables false

theorem empty_of {t : ByteArray} (h : emptyB t = true) : t = ByteArray.empty := by
  unfold emptyB at h
  rw [Go.ByteArray.toList_eq] at h
  exact ByteArray.ext (Array.ext' (by simpa using h))
theorem good_of {v : VR} (h : checkE v = 0) : Good v := by
  obtain ⟨k, s, nl, n, t⟩ := v
  unfold checkE at h
  simp only at h
  have ht : typeB k s = true := by cases hb : typeB k s with | true => rfl | false => rw [hb] at h; simp at h
  have hh : holdB k nl n t = true := by cases hb : holdB k nl n t with | true => rfl | false => rw [ht, hb] at h; simp at h
  clear h
  simp only [typeB, kindB, Bool.and_eq_true, decide_eq_true_eq] at ht
  obtain ⟨⟨⟨k1, k5⟩, s0⟩, s1⟩ := ht
  have hgk : greatI k = if k = 3 then 18 else 0 := rfl
  rw [hgk] at s1
  refine ⟨k1, k5, s0, ?_, ?_, ?_, ?_, ?_⟩
  · simp only; split at s1 <;> omega
  · intro h3; simp only at h3 ⊢; rw [if_neg h3] at s1; omega
  · rintro rfl
    simp [holdB] at hh
    exact ⟨hh.1, empty_of hh.2⟩
  · rintro rfl rfl
    simp [holdB] at hh
    exact hh.1
  · rintro rfl h4
    simp only at h4
    unfold holdB at hh
    simp only [Bool.false_eq_true, if_false, if_neg h4] at hh
    exact empty_of (by revert hh; cases emptyB t <;> simp)

set_option maxHeartbeats 3200000 in
set_option maxRecDepth 100000 in
theorem same_any (A B : Option Addr) (ca cb : Nat) (xs ys : List VR) (b : Bool) (hb : b = true ↔ xs = ys) (w : World) (hA : VRd w A xs) (hB : VRd w B ys) (lx : xs.length ≤ maxLen) (ly : ys.length ≤ maxLen) :
    Calls Tryz.prog 17 #[.slice A xs.length ca, .slice B ys.length cb] w fun e w' => e = .returned (.bool b) ∧ Below w.heap.size w w' := by
  unfold maxLen at lx ly
  by_cases hl : xs.length = ys.length
  · go_enter Tryz.func17, Tryz.ntmps17
    go_wp2
    go_loopw [5] (fun i wr => ∃ k : Nat, k ≤ xs.length ∧ i = .int .i64 k ∧ Below w.heap.size w wr ∧ ∀ m (h : m < xs.length) (h' : m < ys.length), m < k → xs[m] = ys[m]) (fun i _ => xs.length - (intOf i).toNat)
    case atStart => exact ⟨0, Nat.zero_le _, rfl, Below.refl _ _, fun m _ _ h => by omega⟩
    case round =>
      obtain ⟨k, kx, rfl, hw, heq⟩ := hrel
      by_cases hx : k < xs.length
      · have hy : k < ys.length := by omega
        obtain ⟨g, off, rfl, hg, hW⟩ := (hA.below hw) (by omega)
        obtain ⟨g', off', rfl, hg', hW'⟩ := (hB.below hw) (by omega)
        obtain ⟨a0, a1, a2, a3, a4⟩ := hW k hx
        obtain ⟨b0, b1', b2', b3, b4⟩ := hW' k hy
        have HE := Lib.hid heq
        have HXY := Lib.hid (fun h : xs[k] = ys[k] => h)
        have HA := Lib.hid hA
        have HB := Lib.hid hB
        clear hA hB hW hW' heq
        have x0 : (0 : Int) ≤ (k : Int) := by omega
        have x1 : (k : Int) < (xs.length : Int) := by omega
        have y1 : (k : Int) < (ys.length : Int) := by omega
        have x2 : 0 < xs.length := by omega
        have y2 : 0 < ys.length := by omega
        cases hv : eqVB xs[k] ys[k]
        · have HN : Hid (¬ xs = ys) := by
            show ¬ _
            rintro rfl
            rw [eqVB_self] at hv
            cases hv
          clear HXY
          generalize xs[k] = vx at *
          generalize ys[k] = vy at *
          obtain ⟨ak, as_, anl, an, at_⟩ := vx
          obtain ⟨bk, bs_, bnl, bn, bt_⟩ := vy
          simp only at a0 a1 a2 a3 a4 b0 b1' b2' b3 b4 hv
          have hEq := fun w => eqVV ak as_ anl an at_ bk bs_ bnl bn bt_ w
          rw [hv] at hEq
          clear hv
          go_wp2
          go_region_held3 (fun w' => w'.cell? ⟨g, off + k * 5, none⟩ = some (.int .i64 ak) ∧ w'.cell? ⟨g, off + k * 5 + 1, none⟩ = some (.int .i64 as_) ∧ w'.cell? ⟨g, off + k * 5 + 2, none⟩ = some (.bool anl) ∧ w'.cell? ⟨g, off + k * 5 + 3, none⟩ = some (.int .i64 an) ∧ w'.cell? ⟨g, off + k * 5 + 4, none⟩ = some (.string at_) ∧ w'.cell? ⟨g', off' + k * 5, none⟩ = some (.int .i64 bk) ∧ w'.cell? ⟨g', off' + k * 5 + 1, none⟩ = some (.int .i64 bs_) ∧ w'.cell? ⟨g', off' + k * 5 + 2, none⟩ = some (.bool bnl) ∧ w'.cell? ⟨g', off' + k * 5 + 3, none⟩ = some (.int .i64 bn) ∧ w'.cell? ⟨g', off' + k * 5 + 4, none⟩ = some (.string bt_) ∧ Below w.heap.size w w')
            (((try go_split_ands); refine ⟨?_, ?_, ?_, ?_, ?_, ?_, ?_, ?_, ?_, ?_, ?_⟩ <;> first | assumption | (with_reducible exact below_drew hw) | go_keep))
            (fail)
          rename_i hH
          obtain ⟨-, -, -, -, -, -, -, -, -, -, hw2⟩ := hH
          go_wp2
          go_ret
          have hbf : b = false := by cases b; rfl; exact absurd (hb.1 rfl) HN.out
          exact ⟨by rw [hbf]; rfl, hw2⟩
        · have HXE := Lib.hid (eqVB_yes hv)
          clear HXY
          generalize hgx : xs[k] = vx at *
          generalize hgy : ys[k] = vy at *
          have HGX := Lib.hid hgx
          have HGY := Lib.hid hgy
          clear hgx hgy
          obtain ⟨ak, as_, anl, an, at_⟩ := vx
          obtain ⟨bk, bs_, bnl, bn, bt_⟩ := vy
          simp only at a0 a1 a2 a3 a4 b0 b1' b2' b3 b4 hv
          have hEq := fun w => eqVV ak as_ anl an at_ bk bs_ bnl bn bt_ w
          rw [hv] at hEq
          clear hv
          go_wp2
          go_region_held3 (fun w' => w'.cell? ⟨g, off + k * 5, none⟩ = some (.int .i64 ak) ∧ w'.cell? ⟨g, off + k * 5 + 1, none⟩ = some (.int .i64 as_) ∧ w'.cell? ⟨g, off + k * 5 + 2, none⟩ = some (.bool anl) ∧ w'.cell? ⟨g, off + k * 5 + 3, none⟩ = some (.int .i64 an) ∧ w'.cell? ⟨g, off + k * 5 + 4, none⟩ = some (.string at_) ∧ w'.cell? ⟨g', off' + k * 5, none⟩ = some (.int .i64 bk) ∧ w'.cell? ⟨g', off' + k * 5 + 1, none⟩ = some (.int .i64 bs_) ∧ w'.cell? ⟨g', off' + k * 5 + 2, none⟩ = some (.bool bnl) ∧ w'.cell? ⟨g', off' + k * 5 + 3, none⟩ = some (.int .i64 bn) ∧ w'.cell? ⟨g', off' + k * 5 + 4, none⟩ = some (.string bt_) ∧ Below w.heap.size w w')
            (((try go_split_ands); refine ⟨?_, ?_, ?_, ?_, ?_, ?_, ?_, ?_, ?_, ?_, ?_⟩ <;> first | assumption | (with_reducible exact below_drew hw) | go_keep))
            (fail)
          rename_i hH
          obtain ⟨-, -, -, -, -, -, -, -, -, -, hw2⟩ := hH
          go_wp2
          go_roundw
          case rel =>
            refine ⟨k + 1, by omega, by go_num, hw2, fun m h h' hm => ?_⟩
            rcases Nat.lt_or_ge m k with h1 | h1
            · exact HE.out m h h' h1
            · obtain rfl : m = k := by omega
              rw [HGX.out, HGY.out, HXE.out]
          case measure => simp [intOf]; omega
      · have xI : ¬ (k : Int) < (xs.length : Int) := by omega
        have HE : Hid (xs = ys) := by
          show _ = _
          exact List.ext_getElem hl fun m h h' => heq m h h' (by omega)
        clear heq
        go_wp2
        go_ret
        exact ⟨by rw [hb.2 HE.out]; rfl, hw⟩
  · have hlI : ¬ (xs.length : Int) = (ys.length : Int) := by omega
    go_enter Tryz.func17, Tryz.ntmps17
    go_wp2
    go_ret
    have hbf : b = false := by cases b; rfl; exact absurd (congrArg List.length (hb.1 rfl)) hl
    exact ⟨by rw [hbf]; rfl, Below.refl _ _⟩
end Go.Proofs.YtogdkhnakenbcaaGreatDoor
