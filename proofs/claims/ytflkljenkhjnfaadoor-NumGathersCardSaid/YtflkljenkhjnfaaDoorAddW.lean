/-
  Contracts of the wide numbers, sixth part: their sums.
-/
import Derived.Test.YtflkljenkhjnfaaDoorCmp
import Derived.Laws.Externs
namespace Go.Proofs.YtflkljenkhjnfaaDoor
open Go.ChangeShapes Go.WideShapes Go.ChangeAt Go.RowKit
set_option linter.unusedVariables false

def okW (p : Int × Int) : Prop := In64 p.1 ∧ 0 ≤ p.2 ∧ p.2 ≤ 18446744073709551615
def sumW (xs : List (Int × Int)) : Int := (xs.map fun p => num128 p.1 p.2).sum
def Wides (w : World) (b off : Nat) (xs : List (Int × Int)) : Prop :=
  ∀ i (h : i < xs.length), w.cell? ⟨b, off + i * 2, none⟩ = some (.int .i64 xs[i].1) ∧ w.cell? ⟨b, off + i * 2 + 1, none⟩ = some (.int .u64 xs[i].2)
def WRd (w : World) (A : Option Addr) (xs : List (Int × Int)) : Prop := 0 < xs.length → ∃ b off, A = some ⟨b, off, none⟩ ∧ b < w.heap.size ∧ Wides w b off xs
theorem Wides.below {w w' : World} {B b off : Nat} {xs : List (Int × Int)} (h : Wides w b off xs) (hb : Below B w w') (hB : b < B) : Wides w' b off xs := fun i hi =>
  ⟨(hb.cell (p := ⟨b, off + i * 2, none⟩) hB).trans (h i hi).1, (hb.cell (p := ⟨b, off + i * 2 + 1, none⟩) hB).trans (h i hi).2⟩
theorem WRd.below {w w' : World} {A : Option Addr} {xs : List (Int × Int)} (h : WRd w A xs) (hb : Below w.heap.size w w') : WRd w' A xs := fun hn => by
  obtain ⟨b, off, e, hB, hw⟩ := h hn
  exact ⟨b, off, e, Nat.lt_of_lt_of_le hB hb.size, hw.below hb hB⟩
theorem sumW_take (xs : List (Int × Int)) (k : Nat) (h : k < xs.length) : sumW (xs.take (k + 1)) = sumW (xs.take k) + num128 xs[k].1 xs[k].2 := by
  unfold sumW
  rw [List.take_succ_eq_append_getElem h, List.map_append, List.sum_append]
  simp
/-- The upper half, as a number without sign. -/
def hiU (n : Int) : Int := (n / 18446744073709551616) % 18446744073709551616
theorem hiU_bd (n : Int) : 0 ≤ hiU n ∧ hiU n < 18446744073709551616 := by unfold hiU; omega
theorem hiU_hi (n : Int) : wrap64 (hiU n) = hiOf n := by unfold hiU hiOf wrap64; omega

theorem add64 (x y : Int) (w : World) (hx : 0 ≤ x) (hx1 : x < 18446744073709551616) (hy : 0 ≤ y) (hy1 : y < 18446744073709551616) :
    (callFunc 82 #[.int .u64 x, .int .u64 y, .int .u64 0]).run Tryd.prog w = .ok (.value (.tuple #[.int .u64 ((x + y) % 18446744073709551616), .int .u64 ((x + y) / 18446744073709551616)])) w := by
  obtain ⟨a, rfl⟩ : ∃ a : Nat, x = a := ⟨x.toNat, by omega⟩
  obtain ⟨b, rfl⟩ : ∃ b : Nat, y = b := ⟨y.toNat, by omega⟩
  rw [run_callFunc_extern Tryd.func82 (by kernel_rfl) (by kernel_rfl) (by kernel_rfl) (e := add64Entry) (by kernel_rfl)]
  have h := run_add64 (P := Tryd.prog) (w := w) a b 0 (by omega) (by omega) (by omega) (by omega)
  rw [h]
  simp only [Result.andThen]
  congr 5 <;> omega

theorem acc_hi (S h l : Int) : IntKind.u64.wrap (hiU S + IntKind.u64.wrap (IntKind.u64.wrap h + (loOf S + l) / 18446744073709551616)) = hiU (S + num128 h l) := by
  simp only [IntKind.wrap_u64]
  unfold hiU loOf num128
  omega
theorem acc_lo (S h l : Int) : (loOf S + l) % 18446744073709551616 = loOf (S + num128 h l) := by
  unfold loOf num128
  omega
set_option maxHeartbeats 800000 in
theorem wideAdd_any (A : Option Addr) (cap : Nat) (xs : List (Int × Int)) (w : World) (hR : WRd w A xs) (hB : ∀ p ∈ xs, okW p) (hl : xs.length ≤ 140737488355328) :
    Calls Tryd.prog 52 #[.slice A xs.length cap] w fun e w' => e = .returned (wv (sumW xs)) ∧ Below w.heap.size w w' := by
  go_enter Tryd.func52, Tryd.ntmps52
  go_wp2
  go_loopw [3, 4, 10] (fun h l i wr => ∃ k : Nat, k ≤ xs.length ∧ i = .int .i64 k ∧ h = .int .u64 (hiU (sumW (xs.take k))) ∧ l = .int .u64 (loOf (sumW (xs.take k))) ∧ Below w.heap.size w wr ∧ wr.cell? ⟨w.heap.size, 0, none⟩ = some (.int .i64 0) ∧ wr.cell? ⟨w.heap.size, 1, none⟩ = some (.int .u64 0) ∧ wr.frozen? ⟨w.heap.size, 0, none⟩ = false ∧ wr.frozen? ⟨w.heap.size, 1, none⟩ = false ∧ w.heap.size < wr.heap.size) (fun _ _ i _ => xs.length - (intOf i).toNat)
  case atStart => exact ⟨0, Nat.zero_le _, rfl, rfl, rfl, (Below.refl _ _).alloc (Nat.le_refl _) _, by simp, by simp, by simp, by simp, by simp⟩
  case round =>
    obtain ⟨k, hk, rfl, rfl, rfl, hbl, hc0, hc1, hf0, hf1, hsz⟩ := hrel
    by_cases hlt : k < xs.length
    · obtain ⟨b, off, rfl, hb, hW⟩ := hR (by omega)
      have hWk := (hW.below hbl hb) k hlt
      have hok := hB xs[k] (List.getElem_mem hlt)
      have hs := hiU_bd (sumW (xs.take k))
      have hlo := loOf_bd (sumW (xs.take k))
      obtain ⟨h1, h2⟩ := hWk
      obtain ⟨o1, o2, o3⟩ := hok
      unfold In64 at o1
      have hadd : ∀ W, (callFunc 82 #[.int .u64 (loOf (sumW (xs.take k))), .int .u64 xs[k].2, .int .u64 0]).run Tryd.prog W = _ := fun W => add64 _ _ W hlo.1 (by omega) o2 (by omega)
      have E1 := Lib.hid (sumW_take xs k hlt)
      have E2 := Lib.hid (acc_hi (sumW (xs.take k)) xs[k].1 xs[k].2)
      have E3 := Lib.hid (acc_lo (sumW (xs.take k)) xs[k].1 xs[k].2)
      go_wp2
      go_roundw
      case rel => exact ⟨k + 1, by omega, by go_num, by rw [E1.out, E2.out], by rw [E1.out, E3.out], hbl.alloc hbl.size _, (World.cell?_alloc_lt _ _ _ hsz).trans hc0, (World.cell?_alloc_lt _ _ _ hsz).trans hc1, (World.frozen?_alloc_past _ _ _ hsz).trans hf0, (World.frozen?_alloc_past _ _ _ hsz).trans hf1, by simp; omega⟩
      case measure => simp [intOf]; omega
    · obtain rfl : k = xs.length := by omega
      go_wp2
      refine bodyPost_ret (v := .agg #[.int .i64 (wrap64 (hiU (sumW xs))), .int .u64 (loOf (sumW xs))]) (by simp [results, Tryd.results52, go_sem, hc0, hc1]) rfl ?_
      exact ⟨wv_eq (hiU_hi _) rfl, (hbl.setCell (Nat.le_refl _) _).setCell (Nat.le_refl _) _⟩

theorem racc_hi1 (S h l : Int) (hl : 0 ≤ l) (hl1 : l ≤ 18446744073709551615) (hc : IntKind.u64.wrap (loOf S + l) < loOf S) : IntKind.u64.wrap (IntKind.u64.wrap (hiU S + IntKind.u64.wrap h) + 1) = hiU (S + num128 h l) := by
  simp only [IntKind.wrap_u64] at *
  unfold hiU loOf num128 at *
  omega
theorem racc_hi0 (S h l : Int) (hl : 0 ≤ l) (hl1 : l ≤ 18446744073709551615) (hc : ¬ IntKind.u64.wrap (loOf S + l) < loOf S) : IntKind.u64.wrap (hiU S + IntKind.u64.wrap h) = hiU (S + num128 h l) := by
  simp only [IntKind.wrap_u64] at *
  unfold hiU loOf num128 at *
  omega
theorem racc_lo (S h l : Int) : IntKind.u64.wrap (loOf S + l) = loOf (S + num128 h l) := by
  simp only [IntKind.wrap_u64]
  unfold loOf num128
  omega
set_option maxHeartbeats 1600000 in
theorem refWideAdd_any (A : Option Addr) (cap : Nat) (xs : List (Int × Int)) (w : World) (hR : WRd w A xs) (hB : ∀ p ∈ xs, okW p) (hl : xs.length ≤ 140737488355328) :
    Calls Tryd.prog 53 #[.slice A xs.length cap] w fun e w' => e = .returned (wv (sumW xs)) ∧ Below w.heap.size w w' := by
  go_enter Tryd.func53, Tryd.ntmps53
  go_wp2
  go_loopw [3, 4, 5] (fun h l i wr => ∃ k : Nat, k ≤ xs.length ∧ i = .int .i64 k ∧ h = .int .u64 (hiU (sumW (xs.take k))) ∧ l = .int .u64 (loOf (sumW (xs.take k))) ∧ wr = w.alloc (.cells #[.int .i64 0, .int .u64 0] 48)) (fun _ _ i _ => xs.length - (intOf i).toNat)
  case atStart => exact ⟨0, Nat.zero_le _, rfl, rfl, rfl, rfl⟩
  case round =>
    obtain ⟨k, hk, rfl, rfl, rfl, rfl⟩ := hrel
    by_cases hlt : k < xs.length
    · obtain ⟨b, off, rfl, hb, hW⟩ := hR (by omega)
      have hok := hB xs[k] (List.getElem_mem hlt)
      have hs := hiU_bd (sumW (xs.take k))
      have hlo := loOf_bd (sumW (xs.take k))
      obtain ⟨h1, h2⟩ := hW k hlt
      obtain ⟨o1, o2, o3⟩ := hok
      unfold In64 at o1
      have E1 := Lib.hid (sumW_take xs k hlt)
      have E3 := Lib.hid (racc_lo (sumW (xs.take k)) xs[k].1 xs[k].2)
      by_cases hc : IntKind.u64.wrap (loOf (sumW (xs.take k)) + xs[k].2) < loOf (sumW (xs.take k))
      · have E2 := Lib.hid (racc_hi1 (sumW (xs.take k)) xs[k].1 xs[k].2 o2 o3 hc)
        go_wp2
        go_roundw
        case rel => exact ⟨k + 1, by omega, by go_num, by rw [E1.out, E2.out], by rw [E1.out, E3.out], by first | rfl | trivial⟩
        case measure => simp [intOf]; omega
      · have E2 := Lib.hid (racc_hi0 (sumW (xs.take k)) xs[k].1 xs[k].2 o2 o3 hc)
        go_wp2
        go_roundw
        case rel => exact ⟨k + 1, by omega, by go_num, by rw [E1.out, E2.out], by rw [E1.out, E3.out], by first | rfl | trivial⟩
        case measure => simp [intOf]; omega
    · obtain rfl : k = xs.length := by omega
      go_wp2
      refine bodyPost_ret (v := .agg #[.int .i64 (wrap64 (hiU (sumW xs))), .int .u64 (loOf (sumW xs))]) (by simp [results, Tryd.results53, go_sem]) rfl ?_
      exact ⟨wv_eq (hiU_hi _) rfl, (Below.refl _ _).alloc (Nat.le_refl _) _⟩
end Go.Proofs.YtflkljenkhjnfaaDoor
