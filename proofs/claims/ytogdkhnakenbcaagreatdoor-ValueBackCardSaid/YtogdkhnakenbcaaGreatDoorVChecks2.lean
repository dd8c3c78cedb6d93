/-
  Contracts of CheckType and Check, and the document's.
-/
import Derived.Test.YtogdkhnakenbcaaGreatDoorVChecks
namespace Go.Proofs.YtogdkhnakenbcaaGreatDoor
open Go.ChangeShapes Go.WideShapes Go.ChangeAt Go.RowKit Go.Maps
set_option linter.unusedVariables false

def typeB (k s : Int) : Bool := kindB k && decide (0 ≤ s) && decide (s ≤ greatI k)
def typeE (k s : Int) : Int := if typeB k s then 0 else 21
theorem type_yes {k s : Int} (h : typeB k s = true) : typeE k s = 0 := by unfold typeE; rw [h]; rfl
theorem type_no {k s : Int} (h : typeB k s = false) : typeE k s = 21 := by unfold typeE; rw [h]; rfl

set_option maxHeartbeats 1600000 in
theorem checkType_any (k s : Int) (w : World) (hk : In64 k) : Calls Tryz.prog 18 #[.agg #[.int .i64 k, .int .i64 s]] w fun e w' => e = .returned (.int .i64 (typeE k s)) ∧ Below w.heap.size w w' := by
  have HG := Lib.hid (fun W => great_any k W hk)
  clear hk
  cases hB : kindB k
  · have H : Hid (typeE k s = 21) := by show _ = _; exact type_no (by unfold typeB; rw [hB]; rfl)
    go_enter Tryz.func18, Tryz.ntmps18
    go_wp2_with (first | (go_at_call 44; refine (HG.out _).mono ?_; rintro e w1 ⟨rfl, hb⟩; have hc := (bcell hb).1; have hB1 := b1 hb; clear hb))
    go_ret
    exact ⟨ret_int H.out.symm, hB1⟩
  · obtain ⟨g, hg⟩ : ∃ g, greatI k = g := ⟨_, rfl⟩
    have HB := Lib.hid hB
    by_cases h0 : s < 0
    · have H : Hid (typeE k s = 21) := by show _ = _; exact type_no (by unfold typeB; rw [hB]; simp; omega)
      go_enter Tryz.func18, Tryz.ntmps18
      go_wp2_with (first | (go_at_call 44; refine (HG.out _).mono ?_; rintro e w1 ⟨rfl, hb⟩; have hc := (bcell hb).1; have hB1 := b1 hb; clear hb))
      go_ret
      exact ⟨ret_int H.out.symm, hB1⟩
    · by_cases h1 : g < s
      · have H : Hid (typeE k s = 21) := by show _ = _; exact type_no (by unfold typeB; rw [hB, hg]; simp; omega)
        go_enter Tryz.func18, Tryz.ntmps18
        go_wp2_with (first | (go_at_call 44; refine (HG.out _).mono ?_; rintro e w1 ⟨rfl, hb⟩; have hc := (bcell hb).1; have hB1 := b1 hb; clear hb))
        go_ret
        exact ⟨ret_int H.out.symm, hB1⟩
      · have H : Hid (typeE k s = 0) := by show _ = _; exact type_yes (by unfold typeB; rw [hB, hg]; simp; omega)
        go_enter Tryz.func18, Tryz.ntmps18
        go_wp2_with (first | (go_at_call 44; refine (HG.out _).mono ?_; rintro e w1 ⟨rfl, hb⟩; have hc := (bcell hb).1; have hB1 := b1 hb; clear hb))
        go_ret
        exact ⟨ret_int H.out.symm, hB1⟩

set_option maxHeartbeats 1600000 in
theorem refCheckType_any (k s : Int) (w : World) : Calls Tryz.prog 23 #[.agg #[.int .i64 k, .int .i64 s]] w fun e w' => e = .returned (.int .i64 (typeE k s)) ∧ Below w.heap.size w w' := by
  by_cases h1 : k < 1
  · have H : Hid (typeE k s = 21) := by show _ = _; exact type_no (by unfold typeB kindB; simp; omega)
    go_enter Tryz.func23, Tryz.ntmps23
    go_wp2
    go_ret
    exact ⟨ret_int H.out.symm, alloc_below _ _⟩
  · by_cases h5 : 5 < k
    · have H : Hid (typeE k s = 21) := by show _ = _; exact type_no (by unfold typeB kindB; simp; omega)
      go_enter Tryz.func23, Tryz.ntmps23
      go_wp2
      go_ret
      exact ⟨ret_int H.out.symm, alloc_below _ _⟩
    · by_cases s0 : s < 0
      · have H : Hid (typeE k s = 21) := by show _ = _; exact type_no (by unfold typeB kindB; simp; omega)
        go_enter Tryz.func23, Tryz.ntmps23
        go_wp2
        go_ret
        exact ⟨ret_int H.out.symm, alloc_below _ _⟩
      · by_cases s1 : 18 < s
        · have H : Hid (typeE k s = 21) := by show _ = _; exact type_no (by unfold typeB kindB greatI; simp; intro _ _ _; split <;> omega)
          go_enter Tryz.func23, Tryz.ntmps23
          go_wp2
          go_ret
          exact ⟨ret_int H.out.symm, alloc_below _ _⟩
        · by_cases h3 : k = 3
          · subst h3
            have H : Hid (typeE 3 s = 0) := by show _ = _; exact type_yes (by unfold typeB kindB greatI; simp; omega)
            go_enter Tryz.func23, Tryz.ntmps23
            go_wp2
            go_ret
            exact ⟨ret_int H.out.symm, alloc_below _ _⟩
          · have e3 : (k != 3) = true := by simpa using h3
            by_cases sz : s = 0
            · subst sz
              have H : Hid (typeE k 0 = 0) := by show _ = _; exact type_yes (by unfold typeB kindB greatI; rw [if_neg h3]; simp; omega)
              clear h3
              go_enter Tryz.func23, Tryz.ntmps23
              go_wp2
              go_ret
              exact ⟨ret_int H.out.symm, alloc_below _ _⟩
            · have ez : (s != 0) = true := by simpa using sz
              have H : Hid (typeE k s = 21) := by show _ = _; exact type_no (by unfold typeB kindB greatI; rw [if_neg h3]; simp; omega)
              clear h3 sz
              go_enter Tryz.func23, Tryz.ntmps23
              go_wp2
              go_ret
              exact ⟨ret_int H.out.symm, alloc_below _ _⟩
end Go.Proofs.YtogdkhnakenbcaaGreatDoor
