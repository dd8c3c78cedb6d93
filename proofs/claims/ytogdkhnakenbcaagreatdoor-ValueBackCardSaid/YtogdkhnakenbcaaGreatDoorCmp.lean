/-
  Contracts of the wide numbers, fifth part: the comparisons.
-/
import Derived.Test.YtogdkhnakenbcaaGreatDoorWide4
import Derived.LoopTactic
import Derived.Deep.RegionHeld3
namespace Go.Proofs.YtogdkhnakenbcaaGreatDoor
open Go.ChangeShapes Go.WideShapes Go.ChangeAt Go.RowKit
set_option linter.unusedVariables false

def cmpI (a b : Int) : Int := if a < b then -1 else if b < a then 1 else 0
theorem nan64 (a : Int) (w : World) : Calls Tryz.prog 115 #[.int .i64 a] w fun e w' => e = .returned (.bool false) ∧ w = w' := by
  go_enter Tryz.func115, Tryz.ntmps115
  go_wp2
  go_ret
  exact ⟨rfl, rfl⟩
theorem nanU (a : Int) (w : World) : Calls Tryz.prog 167 #[.int .u64 a] w fun e w' => e = .returned (.bool false) ∧ w = w' := by
  go_enter Tryz.func167, Tryz.ntmps167
  go_wp2
  go_ret
  exact ⟨rfl, rfl⟩
theorem cmp64 (a b : Int) (w : World) : Calls Tryz.prog 84 #[.int .i64 a, .int .i64 b] w fun e w' => e = .returned (.int .i64 (cmpI a b)) ∧ w = w' := by
  by_cases h : a < b
  · have H : Hid (cmpI a b = -1) := if_pos h
    go_enter Tryz.func84, Tryz.ntmps84
    go_wp2_with (go_at_call 115; refine (nan64 _ _).mono ?_; rintro e w' ⟨rfl, rfl⟩)
    go_ret
    exact ⟨ret_int H.out.symm, rfl⟩
  · by_cases h2 : b < a
    · have H : Hid (cmpI a b = 1) := (if_neg h).trans (if_pos h2)
      go_enter Tryz.func84, Tryz.ntmps84
      go_wp2_with (go_at_call 115; refine (nan64 _ _).mono ?_; rintro e w' ⟨rfl, rfl⟩)
      go_ret
      exact ⟨ret_int H.out.symm, rfl⟩
    · have H : Hid (cmpI a b = 0) := (if_neg h).trans (if_neg h2)
      go_enter Tryz.func84, Tryz.ntmps84
      go_wp2_with (go_at_call 115; refine (nan64 _ _).mono ?_; rintro e w' ⟨rfl, rfl⟩)
      go_ret
      exact ⟨ret_int H.out.symm, rfl⟩
theorem cmpU (a b : Int) (w : World) : Calls Tryz.prog 140 #[.int .u64 a, .int .u64 b] w fun e w' => e = .returned (.int .i64 (cmpI a b)) ∧ w = w' := by
  by_cases h : a < b
  · have H : Hid (cmpI a b = -1) := if_pos h
    go_enter Tryz.func140, Tryz.ntmps140
    go_wp2_with (go_at_call 167; refine (nanU _ _).mono ?_; rintro e w' ⟨rfl, rfl⟩)
    go_ret
    exact ⟨ret_int H.out.symm, rfl⟩
  · by_cases h2 : b < a
    · have H : Hid (cmpI a b = 1) := (if_neg h).trans (if_pos h2)
      go_enter Tryz.func140, Tryz.ntmps140
      go_wp2_with (go_at_call 167; refine (nanU _ _).mono ?_; rintro e w' ⟨rfl, rfl⟩)
      go_ret
      exact ⟨ret_int H.out.symm, rfl⟩
    · have H : Hid (cmpI a b = 0) := (if_neg h).trans (if_neg h2)
      go_enter Tryz.func140, Tryz.ntmps140
      go_wp2_with (go_at_call 167; refine (nanU _ _).mono ?_; rintro e w' ⟨rfl, rfl⟩)
      go_ret
      exact ⟨ret_int H.out.symm, rfl⟩

def orI (a b : Int) : Int := if a = 0 then b else a
set_option maxHeartbeats 800000 in
theorem or2 (a b : Int) (g : Nat) (w : World) (h0 : w.cell? ⟨g, 0, none⟩ = some (.int .i64 a)) (h1 : w.cell? ⟨g, 1, none⟩ = some (.int .i64 b)) :
    Calls Tryz.prog 139 #[.slice (some ⟨g, 0, none⟩) 2 2] w fun e w' => e = .returned (.int .i64 (orI a b)) ∧ w = w' := by
  go_enter Tryz.func139, Tryz.ntmps139
  go_wp2
  go_loop [8] (fun i => i = .int .i64 0 ∨ (i = .int .i64 1 ∧ a = 0) ∨ (i = .int .i64 2 ∧ a = 0 ∧ b = 0)) (fun i => 2 - (intOf i).toNat)
  case atStart => exact .inl rfl
  case round =>
    rcases hrel with rfl | ⟨rfl, ha⟩ | ⟨rfl, ha, hb⟩
    · by_cases ha : a = 0
      · subst ha
        go_wp2
        go_round
        case rel => exact .inr (.inl ⟨rfl, trivial⟩)
        case measure => simp [intOf]
      · have H : Hid (orI a b = a) := if_neg ha
        go_wp2
        go_ret
        exact ⟨ret_int H.out.symm, rfl⟩
    · subst ha
      have H : Hid (orI 0 b = b) := if_pos rfl
      by_cases hb : b = 0
      · subst hb
        go_wp2
        go_round
        case rel => exact .inr (.inr ⟨rfl, trivial, trivial⟩)
        case measure => simp [intOf]
      · go_wp2
        go_ret
        exact ⟨ret_int H.out.symm, rfl⟩
    · subst ha
      subst hb
      go_wp2
      go_ret
      exact ⟨rfl, rfl⟩

def cmpW (h l h' l' : Int) : Int := orI (cmpI h h') (cmpI l l')
set_option maxHeartbeats 400000 in
set_option maxRecDepth 100000 in
theorem wideCmp_any (h l h' l' : Int) (w : World) :
    Calls Tryz.prog 112 #[.agg #[.int .i64 h, .int .u64 l], .agg #[.int .i64 h', .int .u64 l']] w fun e w' => e = .returned (.int .i64 (cmpW h l h' l')) ∧ Below w.heap.size w w' := by
  have HO : Calls Tryz.prog 139 #[.slice (some ⟨w.heap.size + 1 + 1, 0, none⟩) 2 2] (((w.alloc (.cells #[.int .i64 h, .int .u64 l] 123)).alloc (.cells #[.int .i64 h', .int .u64 l'] 123)).alloc (.cells #[.int .i64 (cmpI h h'), .int .i64 (cmpI l l')] 3)).drew
      fun e w' => e = .returned (.int .i64 (cmpW h l h' l')) ∧ (((w.alloc (.cells #[.int .i64 h, .int .u64 l] 123)).alloc (.cells #[.int .i64 h', .int .u64 l'] 123)).alloc (.cells #[.int .i64 (cmpI h h'), .int .i64 (cmpI l l')] 3)).drew = w' :=
    or2 (cmpI h h') (cmpI l l') (w.heap.size + 1 + 1) _ (by go_simp) (by go_simp)
  have HH := Lib.hid HO
  clear HO
  go_enter Tryz.func112, Tryz.ntmps112
  go_wp2
  go_region_held3 (fun w' => w'.cell? ⟨w.heap.size, 0, none⟩ = some (.int .i64 h) ∧ w'.cell? ⟨w.heap.size, 1, none⟩ = some (.int .u64 l) ∧ w'.cell? ⟨w.heap.size + 1, 0, none⟩ = some (.int .i64 h') ∧ w'.cell? ⟨w.heap.size + 1, 1, none⟩ = some (.int .u64 l')) (go_keep)
    (first | (go_at_call 84; refine (cmp64 _ _ _).mono ?_; rintro e w' ⟨rfl, rfl⟩) | (go_at_call 140; refine (cmpU _ _ _).mono ?_; rintro e w' ⟨rfl, rfl⟩) | (go_at_call 139; refine HH.out.mono ?_; rintro e w' ⟨rfl, rfl⟩))
  go_wp2
  go_ret
  exact ⟨rfl, below_drew ((((Below.refl _ _).alloc (Nat.le_refl _) _).alloc (by simp) _).alloc (by simp; omega) _)⟩

theorem cmpW_lt {h l h' l' : Int} (e : h < h') : cmpW h l h' l' = -1 := by unfold cmpW cmpI orI; rw [if_pos e]; rfl
theorem cmpW_gt {h l h' l' : Int} (e : h' < h) : cmpW h l h' l' = 1 := by
  have e1 : cmpI h h' = 1 := (if_neg (by omega)).trans (if_pos e)
  unfold cmpW; rw [e1]; rfl
theorem cmpW_eq {h l l' : Int} : cmpW h l h l' = cmpI l l' := by unfold cmpW orI; rw [if_pos (by unfold cmpI; rw [if_neg (by omega), if_neg (by omega)])]
end Go.Proofs.YtogdkhnakenbcaaGreatDoor
