/-
  Contracts of the comparison of two values of like types: compare, compareNumbers, and the document's.
-/
import Derived.Test.YtogdkhnakenbcaaGreatDoorVLogic
import Derived.WalkLawsBesides
namespace Go.Proofs.YtogdkhnakenbcaaGreatDoor
open Go.ChangeShapes Go.WideShapes Go.ChangeAt Go.RowKit
set_option linter.unusedVariables false

/-- The value in memory's form. -/
def VR.val (v : VR) : Value := .agg #[.int .i64 v.k, .int .i64 v.s, .bool v.nl, .int .i64 v.n, .string v.t]

theorem ofInt_any (n : Int) (w : World) : Calls Tryz.prog 31 #[.int .i64 n] w fun e w' => e = .returned (.agg #[.int .i64 2, .int .i64 0, .bool false, .int .i64 n, .string ⟨#[]⟩]) ∧ Below w.heap.size w w' := by
  go_enter Tryz.func31, Tryz.ntmps31
  go_wp2
  refine bodyPost_ret (v := .agg #[.int .i64 2, .int .i64 0, .bool false, .int .i64 n, .string ⟨#[]⟩]) (by simp [results, Tryz.results31, go_sem]) rfl ⟨rfl, alloc_below _ _⟩

theorem ofDec_any (n s : Int) (w : World) : Calls Tryz.prog 32 #[.int .i64 n, .int .i64 s] w fun e w' => e = .returned (.agg #[.int .i64 3, .int .i64 s, .bool false, .int .i64 n, .string ⟨#[]⟩]) ∧ Below w.heap.size w w' := by
  go_enter Tryz.func32, Tryz.ntmps32
  go_wp2
  exact bodyPost_ret (v := .agg #[.int .i64 3, .int .i64 s, .bool false, .int .i64 n, .string ⟨#[]⟩]) (by simp [results, Tryz.results32, go_sem]) rfl ⟨rfl, alloc_below _ _⟩
theorem ofText_any (t : ByteArray) (w : World) : Calls Tryz.prog 33 #[.string t] w fun e w' => e = .returned (.agg #[.int .i64 4, .int .i64 0, .bool false, .int .i64 0, .string t]) ∧ Below w.heap.size w w' := by
  go_enter Tryz.func33, Tryz.ntmps33
  go_wp2
  exact bodyPost_ret (v := .agg #[.int .i64 4, .int .i64 0, .bool false, .int .i64 0, .string t]) (by simp [results, Tryz.results33, go_sem]) rfl ⟨rfl, alloc_below _ _⟩
theorem cmpW_num (m n : Int) (hm : -170141183460469231731687303715884105728 ≤ m ∧ m < 170141183460469231731687303715884105728) (hn : -170141183460469231731687303715884105728 ≤ n ∧ n < 170141183460469231731687303715884105728) :
    cmpW (hiOf m) (loOf m) (hiOf n) (loOf n) = cmpI m n := by
  have e1 : hiOf m = m / 18446744073709551616 := by unfold hiOf wrap64; omega
  have e2 : hiOf n = n / 18446744073709551616 := by unfold hiOf wrap64; omega
  rw [e1, e2]
  unfold cmpW orI cmpI loOf
  split <;> split <;> (try split) <;> (try split) <;> (try split) <;> omega

theorem scl_min (k s : Int) (h : k = 3) : min (max s 0) 18 = (scl k s : Int) := by unfold scl; rw [if_pos h]; omega
theorem scl_no (k s : Int) (h : k ≠ 3) : (scl k s : Int) = 0 := by unfold scl; rw [if_neg h]; rfl
theorem scaleOf_any (k s : Int) (w : World) :
    Calls Tryz.prog 111 #[.agg #[.int .i64 k, .int .i64 s]] w fun e w' => e = .returned (.int .i64 (scl k s : Int)) ∧ Below w.heap.size w w' := by
  by_cases h : k = 3
  · subst h
    have H := Lib.hid (scl_min 3 s rfl)
    go_enter Tryz.func111, Tryz.ntmps111
    go_wp2
    go_ret
    exact ⟨ret_int H.out, alloc_below _ _⟩
  · have H := Lib.hid (scl_no k s h)
    have e1 : (k != 3) = true := by simpa using h
    clear h
    go_enter Tryz.func111, Tryz.ntmps111
    go_wp2
    go_ret
    exact ⟨ret_int H.out.symm, alloc_below _ _⟩
theorem power10_any (k : Nat) (hk : k ≤ 18) (w : World) :
    Calls Tryz.prog 114 #[.int .i64 (k : Int)] w fun e w' => e = .returned (.int .i64 (p10 k)) ∧ w = w' := by
  go_enter Tryz.func114, Tryz.ntmps114
  go_wp2_with (go_at_call 142; refine (pow10_yes k hk _).mono ?_; rintro e w' ⟨rfl, rfl⟩)
  go_ret
  exact ⟨rfl, rfl⟩
theorem p10_in64 (k : Nat) (h : k ≤ 18) : In64 (p10 k) := by have := p10_bd k h; unfold In64; omega

theorem wideMulA (a b : Int) (w : World) (ha : In64 a) (hb : In64 b) : Calls Tryz.prog 113 #[.int .i64 a, .int .i64 b] w fun e w' => e = .returned (.agg #[.int .i64 (hiOf (a * b)), .int .u64 (loOf (a * b))]) ∧ Below w.heap.size w w' := wideMul_any a b w ha hb
theorem cmpW_mul (a p b q : Int) (ha : In64 a) (hp : In64 p) (hb : In64 b) (hq : In64 q) : cmpW (hiOf (a * p)) (loOf (a * p)) (hiOf (b * q)) (loOf (b * q)) = cmpI (a * p) (b * q) := by
  have h1 := mul_128 a p ha hp
  have h2 := mul_128 b q hb hq
  exact cmpW_num _ _ ⟨by omega, by omega⟩ ⟨by omega, by omega⟩

set_option maxHeartbeats 400000 in
set_option maxRecDepth 10000 in
theorem compareNumbers_any (ak as_ : Int) (anl : Bool) (an : Int) (at_ : ByteArray) (bk bs_ : Int) (bnl : Bool) (bn : Int) (bt_ : ByteArray) (w : World) (ha : In64 an) (hb : In64 bn) :
    Calls Tryz.prog 83 #[.agg #[.int .i64 ak, .int .i64 as_, .bool anl, .int .i64 an, .string at_], .agg #[.int .i64 bk, .int .i64 bs_, .bool bnl, .int .i64 bn, .string bt_]] w
      fun e w' => e = .returned (.int .i64 (cmpI (an * p10 (scl bk bs_)) (bn * p10 (scl ak as_)))) ∧ Below w.heap.size w w' := by
  have x1 := scl_bd ak as_
  have y1 := scl_bd bk bs_
  have hpx := p10_in64 _ x1
  have hpy := p10_in64 _ y1
  by_cases e : scl ak as_ = scl bk bs_
  · have HE : Hid (cmpI an bn = cmpI (an * p10 (scl bk bs_)) (bn * p10 (scl ak as_))) := by show _ = _; rw [e, cmpI_mul (p10_pos _)]
    have e1 : ((scl ak as_ : Int) == (scl bk bs_ : Int)) = true := by simp; omega
    clear e
    go_enter Tryz.func83, Tryz.ntmps83
    go_wp2
    go_region_held3 (fun w' => w'.cell? ⟨w.heap.size, 0, none⟩ = some (.int .i64 ak) ∧ w'.cell? ⟨w.heap.size, 1, none⟩ = some (.int .i64 as_) ∧ w'.cell? ⟨w.heap.size, 3, none⟩ = some (.int .i64 an) ∧ w'.cell? ⟨w.heap.size + 1, 0, none⟩ = some (.int .i64 bk) ∧ w'.cell? ⟨w.heap.size + 1, 1, none⟩ = some (.int .i64 bs_) ∧ w'.cell? ⟨w.heap.size + 1, 3, none⟩ = some (.int .i64 bn) ∧ w.heap.size + 1 < w'.heap.size ∧ Below w.heap.size w w')
      (((try go_split_ands); refine ⟨?_, ?_, ?_, ?_, ?_, ?_, ?_, ?_⟩ <;> first | (with_reducible exact below_drew (alloc2_below _ _ _)) | (rw [(bcell hb1).1 _ _ (by omega)]; assumption) | (have := hb1.size; omega) | (with_reducible refine bt ?_ hb1; assumption) | go_keep))
      ((go_at_call 111; refine (scaleOf_any _ _ _).mono ?_; rintro e w1 ⟨rfl, hb1⟩))
    rename_i hH
    obtain ⟨c1, c2, c3, c4, c5, c6, hz, hB⟩ := hH
    clear c1 c2 c4 c5
    go_wp2_with (first | (go_at_call 84; refine (cmp64 _ _ _).mono ?_; rintro e w2 ⟨rfl, rfl⟩))
    go_ret
    exact ⟨ret_int HE.out, hB⟩
  · have HE := Lib.hid (cmpW_mul an (p10 (scl bk bs_)) bn (p10 (scl ak as_)) ha hpy hb hpx)
    have e1 : ((scl ak as_ : Int) == (scl bk bs_ : Int)) = false := by simp; omega
    clear e
    go_enter Tryz.func83, Tryz.ntmps83
    go_wp2
    go_region_held3 (fun w' => w'.cell? ⟨w.heap.size, 0, none⟩ = some (.int .i64 ak) ∧ w'.cell? ⟨w.heap.size, 1, none⟩ = some (.int .i64 as_) ∧ w'.cell? ⟨w.heap.size, 3, none⟩ = some (.int .i64 an) ∧ w'.cell? ⟨w.heap.size + 1, 0, none⟩ = some (.int .i64 bk) ∧ w'.cell? ⟨w.heap.size + 1, 1, none⟩ = some (.int .i64 bs_) ∧ w'.cell? ⟨w.heap.size + 1, 3, none⟩ = some (.int .i64 bn) ∧ w.heap.size + 1 < w'.heap.size ∧ Below w.heap.size w w')
      (((try go_split_ands); refine ⟨?_, ?_, ?_, ?_, ?_, ?_, ?_, ?_⟩ <;> first | (with_reducible exact below_drew (alloc2_below _ _ _)) | (rw [(bcell hb1).1 _ _ (by omega)]; assumption) | (have := hb1.size; omega) | (with_reducible refine bt ?_ hb1; assumption) | go_keep))
      ((go_at_call 111; refine (scaleOf_any _ _ _).mono ?_; rintro e w1 ⟨rfl, hb1⟩))
    rename_i hH
    obtain ⟨c1, c2, c3, c4, c5, c6, hz, hB⟩ := hH
    clear c1 c2 c4 c5
    go_wp2
    go_region_held3 (fun w' => w'.cell? ⟨w.heap.size, 3, none⟩ = some (.int .i64 an) ∧ w'.cell? ⟨w.heap.size + 1, 3, none⟩ = some (.int .i64 bn) ∧ w.heap.size + 1 < w'.heap.size ∧ Below w.heap.size w w')
      (((try go_split_ands); refine ⟨?_, ?_, ?_, ?_⟩ <;> first | assumption | (with_reducible exact below_drew (by assumption)) | (rw [(bcell hb1).1 _ _ (by omega)]; assumption) | (have := hb1.size; omega) | (with_reducible refine bt ?_ hb1; assumption) | go_keep))
      (first | (go_at_call 114; refine (power10_any _ (by assumption) _).mono ?_; rintro e w1 ⟨rfl, rfl⟩) | (go_at_call 113; refine (wideMulA _ _ _ (by assumption) (by assumption)).mono ?_; rintro e w1 ⟨rfl, hb1⟩) | (go_at_call 112; refine (wideCmp_any _ _ _ _ _).mono ?_; rintro e w1 ⟨rfl, hb1⟩))
    rename_i hH
    obtain ⟨-, -, -, hB7⟩ := hH
    go_wp2
    go_ret
    exact ⟨ret_int HE.out, hB7⟩
end Go.Proofs.YtogdkhnakenbcaaGreatDoor
