/-
  The walk of NumWide.
-/
import Derived.Test.YtflkljenkhjnfaaDoorAddW
import Derived.Test.YtflkljenkhjnfaaDoorLaid
namespace Go.Proofs.YtflkljenkhjnfaaDoor
open Go.ChangeShapes Go.WideShapes Go.ChangeAt Go.RowKit
open Cal
set_option linter.unusedVariables false

theorem wideOf_agg (n : Int) (w : World) (h : In64 n) : Calls Tryd.prog 48 #[.int .i64 n] w fun e w' => e = .returned (.agg #[.int .i64 (hiOf n), .int .u64 (loOf n)]) ∧ Below w.heap.size w w' := wideOf_any n w h
theorem wideMul_agg (a b : Int) (w : World) (ha : In64 a) (hb : In64 b) : Calls Tryd.prog 50 #[.int .i64 a, .int .i64 b] w fun e w' => e = .returned (.agg #[.int .i64 (hiOf (a * b)), .int .u64 (loOf (a * b))]) ∧ Below w.heap.size w w' := wideMul_any a b w ha hb
theorem refWideMul_agg (a b : Int) (w : World) (ha : In64 a) (hb : In64 b) : Calls Tryd.prog 51 #[.int .i64 a, .int .i64 b] w fun e w' => e = .returned (.agg #[.int .i64 (hiOf (a * b)), .int .u64 (loOf (a * b))]) ∧ Below w.heap.size w w' := refWideMul_any a b w ha hb
theorem wideAdd_agg (A : Option Addr) (cap : Nat) (xs : List (Int × Int)) (w : World) (hR : WRd w A xs) (hB : ∀ p ∈ xs, okW p) (hl : xs.length ≤ 140737488355328) : Calls Tryd.prog 52 #[.slice A xs.length cap] w fun e w' => e = .returned (.agg #[.int .i64 (hiOf (sumW xs)), .int .u64 (loOf (sumW xs))]) ∧ Below w.heap.size w w' := wideAdd_any A cap xs w hR hB hl
theorem refWideAdd_agg (A : Option Addr) (cap : Nat) (xs : List (Int × Int)) (w : World) (hR : WRd w A xs) (hB : ∀ p ∈ xs, okW p) (hl : xs.length ≤ 140737488355328) : Calls Tryd.prog 53 #[.slice A xs.length cap] w fun e w' => e = .returned (.agg #[.int .i64 (hiOf (sumW xs)), .int .u64 (loOf (sumW xs))]) ∧ Below w.heap.size w w' := refWideAdd_any A cap xs w hR hB hl

theorem rel3 {wb w1 w2 : World} (h1 : Below wb.drew.heap.size wb.drew w1) (h2 : Below w1.heap.size w1 w2) : Below wb.heap.size wb w2 :=
  have h0 : Below wb.heap.size wb wb.drew := below_drew (Below.refl _ _)
  (h0.trans (h1.mono h0.size)).trans (h2.mono (Nat.le_trans h0.size h1.size))
theorem rel2 {w wb w1 w2 : World} (h : Below w.heap.size w wb) (h1 : Below wb.drew.heap.size wb.drew w1) (h2 : Below w1.heap.size w1 w2) : Below w.heap.size w w2 :=
  h.trans ((rel3 h1 h2).mono h.size)
set_option maxHeartbeats 1600000 in
theorem numWide_walk (a b : Int) (A : Option Addr) (cap : Nat) (xs : List (Int × Int)) (w : World) (ha : In64 a) (hb : In64 b) (hR : WRd w A xs) (hB : ∀ p ∈ xs, okW p) (hl : xs.length ≤ 140737488355328) (hM : MLaid w) (hP : PowLaid w) :
    Calls Tryd.prog 9 #[.int .i64 a, .int .i64 b, .slice A xs.length cap] w fun e w' => e = .returned (.bool true) ∧ Below w.heap.size w w' := by
  have hEq := eqW
  go_enter Tryd.func9, Tryd.ntmps9
  go_wp2_with fail
  refine (begun_any _ hM hP).mono ?_
  rintro e w1 ⟨rfl, hb1⟩
  have hR1 := hR.below hb1
  go_wp2_with fail
  refine (wideOf_agg a _ ha).mono ?_
  rintro e w2 ⟨rfl, hb2⟩
  have hR2 := hR1.below hb2
  have hB2 := hb1.trans (hb2.mono hb1.size)
  go_wp2_with fail
  refine (refWideOf_agg a _ ha).mono ?_
  rintro e w3 ⟨rfl, hb3⟩
  have hR3 := hR2.below hb3
  have hB3 := hB2.trans (hb3.mono hB2.size)
  go_wp2_with fail
  refine (wideMul_agg a b _ ha hb).mono ?_
  rintro e w4 ⟨rfl, hb4⟩
  have hR4 := hR3.below hb4
  have hB4 := hB3.trans (hb4.mono hB3.size)
  go_wp2_with fail
  refine (refWideMul_agg a b _ ha hb).mono ?_
  rintro e w5 ⟨rfl, hb5⟩
  have hR5 := hR4.below hb5
  have hB5 := hB4.trans (hb5.mono hB4.size)
  go_wp2_with fail
  refine (wideAdd_agg A cap xs _ hR5 hB hl).mono ?_
  rintro e w6 ⟨rfl, hb6⟩
  have hR6 := hR5.below hb6
  have hB6 := hB5.trans (hb6.mono hB5.size)
  go_wp2_with fail
  refine (refWideAdd_agg A cap xs _ hR6 hB hl).mono ?_
  rintro e w7 ⟨rfl, hb7⟩
  have hR7 := hR6.below hb7
  have hB7 := hB6.trans (hb7.mono hB6.size)
  clear hb1 hb2 hb3 hb4 hb5 hb6 hb7 hR1 hR2 hR3 hR4 hR5 hR6 hB2 hB3 hB4 hB5 hB6
  go_wp2
  go_loopw [39] (fun i wr => ∃ k : Nat, k ≤ xs.length ∧ i = .int .i64 k ∧ Below w.heap.size w wr ∧ WRd wr A xs) (fun i _ => xs.length - (intOf i).toNat)
  case atStart => exact ⟨0, Nat.zero_le _, rfl, hB7, hR7⟩
  case round =>
    obtain ⟨k, hk, rfl, hbl, hRk⟩ := hrel
    by_cases hlt : k < xs.length
    · obtain ⟨g, off, rfl, hg, hW⟩ := hRk (by omega)
      obtain ⟨o1, o2, o3⟩ := hB xs[k] (List.getElem_mem hlt)
      obtain ⟨c1, c2⟩ := hW k hlt
      have c3 : wr.cell? ⟨g, off, none⟩ = some (.int .i64 (xs[0]'(by omega)).1) := by simpa using (hW 0 (by omega)).1
      have c4 : wr.cell? ⟨g, off + 1, none⟩ = some (.int .u64 (xs[0]'(by omega)).2) := by simpa using (hW 0 (by omega)).2
      have HR := Lib.hid hRk
      clear hRk hW hR7 hB7 hR
      generalize (xs[0]'(by omega)).1 = z1 at *
      generalize (xs[0]'(by omega)).2 = z2 at *
      generalize xs[k].1 = y1 at *
      generalize xs[k].2 = y2 at *
      go_wp2_with fail
      refine (narrow_any _ _ _ o1 o2 o3).mono ?_
      rintro e wa ⟨rfl, hba⟩
      have HRa := Lib.hid (HR.out.below hba)
      have hbla := hbl.trans (hba.mono hbl.size)
      have d1 := (hba.cell (p := ⟨g, off + k * 2, none⟩) hg).trans c1
      have d2 := (hba.cell (p := ⟨g, off + k * 2 + 1, none⟩) hg).trans c2
      have d3 := (hba.cell (p := ⟨g, off, none⟩) hg).trans c3
      have d4 := (hba.cell (p := ⟨g, off + 1, none⟩) hg).trans c4
      have hga := Nat.lt_of_lt_of_le hg hba.size
      clear c1 c2 c3 c4 hba hg hbl HR
      go_wp2_with fail
      refine (refNarrow_any _ _ _ o1 o2 o3).mono ?_
      rintro e wb ⟨rfl, hbb⟩
      have HRb := Lib.hid (HRa.out.below hbb)
      have hblb := hbla.trans (hbb.mono hbla.size)
      have c1 := (hbb.cell (p := ⟨g, off + k * 2, none⟩) hga).trans d1
      have c2 := (hbb.cell (p := ⟨g, off + k * 2 + 1, none⟩) hga).trans d2
      have c3 := (hbb.cell (p := ⟨g, off, none⟩) hga).trans d3
      have c4 := (hbb.cell (p := ⟨g, off + 1, none⟩) hga).trans d4
      have hgb := Nat.lt_of_lt_of_le hga hbb.size
      clear d1 d2 d3 d4 hbb hga hbla HRa
      have k0 : (0 : Int) ≤ (k : Int) := by omega
      have k1 : (k : Int) < (xs.length : Int) := by omega
      have k2 : (0 : Int) < (xs.length : Int) := by omega
      have k3 : 0 < xs.length := by omega
      have k4 : xs ≠ [] := by rintro rfl; simp at k3
      have k5 : ¬ xs.length = 0 := by omega
      go_wp2
      go_region_held3 (fun w' => w'.cell? ⟨g, off, none⟩ = some (.int .i64 z1) ∧ w'.cell? ⟨g, off + 1, none⟩ = some (.int .u64 z2) ∧ w'.cell? ⟨g, off + k * 2, none⟩ = some (.int .i64 y1) ∧ w'.cell? ⟨g, off + k * 2 + 1, none⟩ = some (.int .u64 y2) ∧ g < w'.heap.size)
        (first | go_keep | (go_split_ands; refine ⟨?_, ?_, ?_, ?_, ?_⟩ <;> first | (rw [(bcell hb1).1 _ _ (by assumption)]; assumption) | (have := hb1.size; omega)))
        (first | (go_at_call 56; refine (wideCmp_any _ _ _ _ _).mono ?_; rintro e w1 ⟨rfl, hb1⟩) | (go_at_call 57; refine (refWideCmp_any _ _ _ _ _).mono ?_; rintro e w1 ⟨rfl, hb1⟩))
      all_goals
        go_wp2
        go_roundw
        case rel =>
          first
            | exact ⟨k + 1, by omega, by go_num, rel2 hblb (by assumption) (by assumption), WRd.below HRb.out (rel3 (by assumption) (by assumption))⟩
        case measure => simp [intOf]; omega
    · clear hR7 hB7
      go_wp2
      go_ret
      exact ⟨rfl, hbl⟩
end Go.Proofs.YtflkljenkhjnfaaDoor
