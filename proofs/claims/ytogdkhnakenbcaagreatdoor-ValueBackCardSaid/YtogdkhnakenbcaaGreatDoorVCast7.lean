/-
  Casts: what a text is read as, the document's side.
-/
import Derived.Test.YtogdkhnakenbcaaGreatDoorVCast6
namespace Go.Proofs.YtogdkhnakenbcaaGreatDoor
open Go.ChangeShapes Go.WideShapes Go.ChangeAt Go.RowKit
set_option linter.unusedVariables false

set_option maxHeartbeats 1600000 in
theorem read_2_1 (l : List UInt8) (s : Int) (x y : Int) (hx : pI l = x) (hE : pE l = y) (hy : y = 0) (hl : l.length ≤ 140737488355328) (w : World) : Calls Tryz.prog 27 #[.string ⟨l.toArray⟩, .agg #[.int .i64 2, .int .i64 s]] w fun e w' => e = .returned (.tuple #[.agg #[.int .i64 2, .int .i64 s, .bool false, .int .i64 x, .string ⟨#[]⟩], .int .i64 0]) ∧ Below w.heap.size w w' := by
  have H1 := Lib.hid (fun W => refParseInt_any l (by omega) W)
  rw [hx, hE] at H1
  clear hx hE
  subst hy
  go_enter Tryz.func27, Tryz.ntmps27
  go_wp2_with fail
  refine (H1.out _).mono ?_
  rintro e w1 ⟨rfl, rfl⟩
  have hw0 := Below.refl w.heap.size w
  go_wp2
  exact bodyPost_ret (v := .tuple #[.agg #[.int .i64 2, .int .i64 s, .bool false, .int .i64 x, .string ⟨#[]⟩], .int .i64 0]) (by simp [results, Tryz.results27, go_sem]) rfl ⟨rfl, by first | exact hw0 | (repeat' first | exact hw0 | (refine Below.setCell ?_ (by simp; omega) _) | (refine Below.setCell ?_ (by simp) _) | (refine Below.alloc ?_ (by simp; omega) _) | (refine Below.alloc ?_ (by simp) _)) | (trace_state; fail)⟩

set_option maxHeartbeats 1600000 in
theorem read_2_0 (l : List UInt8) (s : Int) (x y : Int) (hx : pI l = x) (hE : pE l = y) (hy : ¬ y = 0) (hl : l.length ≤ 140737488355328) (w : World) : Calls Tryz.prog 27 #[.string ⟨l.toArray⟩, .agg #[.int .i64 2, .int .i64 s]] w fun e w' => e = .returned (.tuple #[.agg #[.int .i64 0, .int .i64 0, .bool false, .int .i64 0, .string ⟨#[]⟩], .int .i64 22]) ∧ Below w.heap.size w w' := by
  have H1 := Lib.hid (fun W => refParseInt_any l (by omega) W)
  rw [hx, hE] at H1
  clear hx hE
  skip
  go_enter Tryz.func27, Tryz.ntmps27
  go_wp2_with fail
  refine (H1.out _).mono ?_
  rintro e w1 ⟨rfl, rfl⟩
  have hw0 := Below.refl w.heap.size w
  go_wp2
  exact bodyPost_ret (v := .tuple #[.agg #[.int .i64 0, .int .i64 0, .bool false, .int .i64 0, .string ⟨#[]⟩], .int .i64 22]) (by simp [results, Tryz.results27, go_sem]) rfl ⟨rfl, by first | exact hw0 | (repeat' first | exact hw0 | (refine Below.setCell ?_ (by simp; omega) _) | (refine Below.setCell ?_ (by simp) _) | (refine Below.alloc ?_ (by simp; omega) _) | (refine Below.alloc ?_ (by simp) _)) | (trace_state; fail)⟩

set_option maxHeartbeats 1600000 in
theorem read_5_1 (l : List UInt8) (s : Int) (x y : Int) (hx : tV l = x) (hE : tE l = y) (hy : y = 0) (hl : l.length ≤ 140737488355328) (w : World) : Calls Tryz.prog 27 #[.string ⟨l.toArray⟩, .agg #[.int .i64 5, .int .i64 s]] w fun e w' => e = .returned (.tuple #[.agg #[.int .i64 5, .int .i64 s, .bool false, .int .i64 x, .string ⟨#[]⟩], .int .i64 0]) ∧ Below w.heap.size w w' := by
  have H1 := Lib.hid (fun W => refParseDay_any l hl W)
  rw [hx, hE] at H1
  clear hx hE
  subst hy
  go_enter Tryz.func27, Tryz.ntmps27
  go_wp2_with fail
  refine (H1.out _).mono ?_
  rintro e w1 ⟨rfl, rfl⟩
  have hw0 := Below.refl w.heap.size w
  go_wp2
  exact bodyPost_ret (v := .tuple #[.agg #[.int .i64 5, .int .i64 s, .bool false, .int .i64 x, .string ⟨#[]⟩], .int .i64 0]) (by simp [results, Tryz.results27, go_sem]) rfl ⟨rfl, by first | exact hw0 | (repeat' first | exact hw0 | (refine Below.setCell ?_ (by simp; omega) _) | (refine Below.setCell ?_ (by simp) _) | (refine Below.alloc ?_ (by simp; omega) _) | (refine Below.alloc ?_ (by simp) _)) | (trace_state; fail)⟩

set_option maxHeartbeats 1600000 in
theorem read_5_0 (l : List UInt8) (s : Int) (x y : Int) (hx : tV l = x) (hE : tE l = y) (hy : ¬ y = 0) (hl : l.length ≤ 140737488355328) (w : World) : Calls Tryz.prog 27 #[.string ⟨l.toArray⟩, .agg #[.int .i64 5, .int .i64 s]] w fun e w' => e = .returned (.tuple #[.agg #[.int .i64 0, .int .i64 0, .bool false, .int .i64 0, .string ⟨#[]⟩], .int .i64 22]) ∧ Below w.heap.size w w' := by
  have H1 := Lib.hid (fun W => refParseDay_any l hl W)
  rw [hx, hE] at H1
  clear hx hE
  skip
  go_enter Tryz.func27, Tryz.ntmps27
  go_wp2_with fail
  refine (H1.out _).mono ?_
  rintro e w1 ⟨rfl, rfl⟩
  have hw0 := Below.refl w.heap.size w
  go_wp2
  exact bodyPost_ret (v := .tuple #[.agg #[.int .i64 0, .int .i64 0, .bool false, .int .i64 0, .string ⟨#[]⟩], .int .i64 22]) (by simp [results, Tryz.results27, go_sem]) rfl ⟨rfl, by first | exact hw0 | (repeat' first | exact hw0 | (refine Below.setCell ?_ (by simp; omega) _) | (refine Below.setCell ?_ (by simp) _) | (refine Below.alloc ?_ (by simp; omega) _) | (refine Below.alloc ?_ (by simp) _)) | (trace_state; fail)⟩

set_option maxHeartbeats 1600000 in
theorem read_3_1 (l : List UInt8) (s : Int) (hd : dE l = 0) (hs : scE (dV l) (dS l) s = 0)  (hl : l.length ≤ 140737488355328) (w : World) : Calls Tryz.prog 27 #[.string ⟨l.toArray⟩, .agg #[.int .i64 3, .int .i64 s]] w fun e w' => e = .returned (.tuple #[.agg #[.int .i64 3, .int .i64 s, .bool false, .int .i64 (scV (dV l) (dS l) s), .string ⟨#[]⟩], .int .i64 0]) ∧ Below w.heap.size w w' := by
  have H1 := Lib.hid (fun W => refParseDec_any l hl W)
  have H2 := Lib.hid (fun W => refScaleC_any (dV l) (dS l) s W)
  rw [hd] at H1
  rw [hs] at H2
  go_enter Tryz.func27, Tryz.ntmps27
  go_wp2_with fail
  refine (H1.out _).mono ?_
  rintro e w1 ⟨rfl, rfl⟩
  go_wp2_with fail
  refine (H2.out _).mono ?_
  rintro e w2 ⟨rfl, rfl⟩
  have hw0 := Below.refl w.heap.size w
  go_wp2
  exact bodyPost_ret (v := .tuple #[.agg #[.int .i64 3, .int .i64 s, .bool false, .int .i64 (scV (dV l) (dS l) s), .string ⟨#[]⟩], .int .i64 0]) (by simp [results, Tryz.results27, go_sem]) rfl ⟨rfl, by first | exact hw0 | (repeat' first | exact hw0 | (refine Below.setCell ?_ (by simp; omega) _) | (refine Below.setCell ?_ (by simp) _) | (refine Below.alloc ?_ (by simp; omega) _) | (refine Below.alloc ?_ (by simp) _)) | (trace_state; fail)⟩

set_option maxHeartbeats 1600000 in
theorem read_3_0a (l : List UInt8) (s : Int) (hd : ¬ dE l = 0) (hl : l.length ≤ 140737488355328) (w : World) : Calls Tryz.prog 27 #[.string ⟨l.toArray⟩, .agg #[.int .i64 3, .int .i64 s]] w fun e w' => e = .returned (.tuple #[.agg #[.int .i64 0, .int .i64 0, .bool false, .int .i64 0, .string ⟨#[]⟩], .int .i64 22]) ∧ Below w.heap.size w w' := by
  have H1 := Lib.hid (fun W => refParseDec_any l hl W)
  have H2 := Lib.hid (fun W => refScaleC_any (dV l) (dS l) s W)
  generalize dE l = de at *
  generalize scE (dV l) (dS l) s = sc at *
  generalize scV (dV l) (dS l) s = sx at *
  generalize dV l = dv at *
  generalize dS l = ds at *
  go_enter Tryz.func27, Tryz.ntmps27
  go_wp2_with fail
  refine (H1.out _).mono ?_
  rintro e w1 ⟨rfl, rfl⟩
  have hw0 := Below.refl w.heap.size w
  go_wp2
  exact bodyPost_ret (v := .tuple #[.agg #[.int .i64 0, .int .i64 0, .bool false, .int .i64 0, .string ⟨#[]⟩], .int .i64 22]) (by simp [results, Tryz.results27, go_sem]) rfl ⟨rfl, by first | exact hw0 | (repeat' first | exact hw0 | (refine Below.setCell ?_ (by simp; omega) _) | (refine Below.setCell ?_ (by simp) _) | (refine Below.alloc ?_ (by simp; omega) _) | (refine Below.alloc ?_ (by simp) _)) | (trace_state; fail)⟩

set_option maxHeartbeats 1600000 in
theorem read_3_0b (l : List UInt8) (s : Int) (hd : dE l = 0) (hs : ¬ scE (dV l) (dS l) s = 0) (hl : l.length ≤ 140737488355328) (w : World) : Calls Tryz.prog 27 #[.string ⟨l.toArray⟩, .agg #[.int .i64 3, .int .i64 s]] w fun e w' => e = .returned (.tuple #[.agg #[.int .i64 0, .int .i64 0, .bool false, .int .i64 0, .string ⟨#[]⟩], .int .i64 22]) ∧ Below w.heap.size w w' := by
  have H1 := Lib.hid (fun W => refParseDec_any l hl W)
  have H2 := Lib.hid (fun W => refScaleC_any (dV l) (dS l) s W)
  rw [hd] at H1
  generalize scE (dV l) (dS l) s = sc at *
  generalize scV (dV l) (dS l) s = sx at *
  generalize dV l = dv at *
  generalize dS l = ds at *
  go_enter Tryz.func27, Tryz.ntmps27
  go_wp2_with fail
  refine (H1.out _).mono ?_
  rintro e w1 ⟨rfl, rfl⟩
  go_wp2_with fail
  refine (H2.out _).mono ?_
  rintro e w2 ⟨rfl, rfl⟩
  have hw0 := Below.refl w.heap.size w
  go_wp2
  exact bodyPost_ret (v := .tuple #[.agg #[.int .i64 0, .int .i64 0, .bool false, .int .i64 0, .string ⟨#[]⟩], .int .i64 22]) (by simp [results, Tryz.results27, go_sem]) rfl ⟨rfl, by first | exact hw0 | (repeat' first | exact hw0 | (refine Below.setCell ?_ (by simp; omega) _) | (refine Below.setCell ?_ (by simp) _) | (refine Below.alloc ?_ (by simp; omega) _) | (refine Below.alloc ?_ (by simp) _)) | (trace_state; fail)⟩

set_option maxHeartbeats 1600000 in
theorem read_1_1 (l : List UInt8) (s : Int) (h1 : upL l = litT) (hl : l.length ≤ 140737488355328) (w : World) : Calls Tryz.prog 27 #[.string ⟨l.toArray⟩, .agg #[.int .i64 1, .int .i64 s]] w fun e w' => e = .returned (.tuple #[.agg #[.int .i64 1, .int .i64 s, .bool false, .int .i64 1, .string ⟨#[]⟩], .int .i64 0]) ∧ Below w.heap.size w w' := by
  have H1 := Lib.hid (fun W => upper_any l (by omega) W)
  rw [h1] at H1
  unfold litT at H1
  go_enter Tryz.func27, Tryz.ntmps27
  go_wp2_with fail
  refine (H1.out _).mono ?_
  rintro e w1 ⟨rfl, hb⟩
  obtain ⟨-, hbx1, hbx2⟩ := box3 hb
  obtain ⟨⟨r0, r1, r2, r3, r4⟩, hf⟩ := box_cells5 hbx1
  obtain ⟨⟨q0, q1, q2, q3, q4⟩, hg⟩ := box_cells5 hbx2
  have hw1 := bt (by first | exact alloc3B _ _ _ _ | exact below_drew (alloc3B _ _ _ _)) hb
  have hs1 : w.heap.size + 2 < w1.heap.size := World.block_lt_of_cell? _ _ q0
  go_wp2
  exact bodyPost_ret (v := .tuple #[.agg #[.int .i64 1, .int .i64 s, .bool false, .int .i64 1, .string ⟨#[]⟩], .int .i64 0]) (by simp [results, Tryz.results27, go_sem, r0, r1, r2, r3, r4]) rfl ⟨rfl, by repeat' first | (with_reducible exact hw1) | (with_reducible refine Below.setCell ?_ ?_ _) | (with_reducible refine Below.alloc ?_ ?_ _) | exact Nat.le_refl _ | exact Nat.le_add_right _ _ | exact Nat.le_add_right _ 2 | exact Nat.le_of_lt (Nat.lt_of_le_of_lt (Nat.le_add_right _ _) hs1)⟩

set_option maxHeartbeats 1600000 in
theorem read_1_0 (l : List UInt8) (s : Int) (h2 : upL l = litF) (hl : l.length ≤ 140737488355328) (w : World) : Calls Tryz.prog 27 #[.string ⟨l.toArray⟩, .agg #[.int .i64 1, .int .i64 s]] w fun e w' => e = .returned (.tuple #[.agg #[.int .i64 1, .int .i64 s, .bool false, .int .i64 0, .string ⟨#[]⟩], .int .i64 0]) ∧ Below w.heap.size w w' := by
  have H1 := Lib.hid (fun W => upper_any l (by omega) W)
  rw [h2] at H1
  unfold litF at H1
  go_enter Tryz.func27, Tryz.ntmps27
  go_wp2_with fail
  refine (H1.out _).mono ?_
  rintro e w1 ⟨rfl, hb⟩
  obtain ⟨-, hbx1, hbx2⟩ := box3 hb
  obtain ⟨⟨r0, r1, r2, r3, r4⟩, hf⟩ := box_cells5 hbx1
  obtain ⟨⟨q0, q1, q2, q3, q4⟩, hg⟩ := box_cells5 hbx2
  have hw1 := bt (by first | exact alloc3B _ _ _ _ | exact below_drew (alloc3B _ _ _ _)) hb
  have hs1 : w.heap.size + 2 < w1.heap.size := World.block_lt_of_cell? _ _ q0
  go_wp2_with fail
  refine (H1.out _).mono ?_
  rintro e w2 ⟨rfl, hb2⟩
  obtain ⟨⟨x0, x1, x2, x3, x4⟩, hf2⟩ := box_cells5 (box_next hbx1 hb2)
  obtain ⟨⟨y0, y1, y2, y3, y4⟩, hg2⟩ := box_cells5 (box_next hbx2 hb2)
  have hw2 := bt hw1 hb2
  go_wp2
  exact bodyPost_ret (v := .tuple #[.agg #[.int .i64 1, .int .i64 s, .bool false, .int .i64 0, .string ⟨#[]⟩], .int .i64 0]) (by simp [results, Tryz.results27, go_sem, x0, x1, x2, x3, x4]) rfl ⟨rfl, by repeat' first | (with_reducible exact hw2) | (with_reducible refine Below.setCell ?_ ?_ _) | (with_reducible refine Below.alloc ?_ ?_ _) | exact Nat.le_refl _ | exact Nat.le_add_right _ _ | exact Nat.le_add_right _ 2 | exact Nat.le_of_lt (Nat.lt_of_le_of_lt (Nat.le_add_right _ _) hs1)⟩

theorem str_neC {a b : List UInt8} (h : ¬ a = b) : ¬ (⟨a.toArray⟩ : ByteArray) = ⟨b.toArray⟩ := fun e => h (by simpa using congrArg (fun x : ByteArray => x.data.toList) e)

set_option maxHeartbeats 1600000 in
theorem read_1_no (l : List UInt8) (s : Int) (h1 : ¬ upL l = litT) (h2 : ¬ upL l = litF) (hl : l.length ≤ 140737488355328) (w : World) : Calls Tryz.prog 27 #[.string ⟨l.toArray⟩, .agg #[.int .i64 1, .int .i64 s]] w fun e w' => e = .returned (.tuple #[.agg #[.int .i64 0, .int .i64 0, .bool false, .int .i64 0, .string ⟨#[]⟩], .int .i64 22]) ∧ Below w.heap.size w w' := by
  have H1 := Lib.hid (fun W => upper_any l (by omega) W)
  unfold litT at h1
  unfold litF at h2
  generalize upL l = u at *
  have g1 := str_neC h1
  have g2 := str_neC h2
  have g3 : (u == [84, 82, 85, 69]) = false := by simpa using h1
  have g4 : (u == [70, 65, 76, 83, 69]) = false := by simpa using h2
  go_enter Tryz.func27, Tryz.ntmps27
  go_wp2_with fail
  refine (H1.out _).mono ?_
  rintro e w1 ⟨rfl, hb⟩
  obtain ⟨-, hbx1, hbx2⟩ := box3 hb
  obtain ⟨⟨r0, r1, r2, r3, r4⟩, hf⟩ := box_cells5 hbx1
  obtain ⟨⟨q0, q1, q2, q3, q4⟩, hg⟩ := box_cells5 hbx2
  have hw1 := bt (by first | exact alloc3B _ _ _ _ | exact below_drew (alloc3B _ _ _ _)) hb
  have hs1 : w.heap.size + 2 < w1.heap.size := World.block_lt_of_cell? _ _ q0
  go_wp2_with fail
  refine (H1.out _).mono ?_
  rintro e w2 ⟨rfl, hb2⟩
  obtain ⟨⟨x0, x1, x2, x3, x4⟩, hf2⟩ := box_cells5 (box_next hbx1 hb2)
  obtain ⟨⟨y0, y1, y2, y3, y4⟩, hg2⟩ := box_cells5 (box_next hbx2 hb2)
  have hw2 := bt hw1 hb2
  go_wp2
  exact bodyPost_ret (v := .tuple #[.agg #[.int .i64 0, .int .i64 0, .bool false, .int .i64 0, .string ⟨#[]⟩], .int .i64 22]) (by simp [results, Tryz.results27, go_sem, x0, x1, x2, x3, x4]) rfl ⟨rfl, by repeat' first | (with_reducible exact hw2) | (with_reducible refine Below.setCell ?_ ?_ _) | (with_reducible refine Below.alloc ?_ ?_ _) | exact Nat.le_refl _ | exact Nat.le_add_right _ _ | exact Nat.le_add_right _ 2 | exact Nat.le_of_lt (Nat.lt_of_le_of_lt (Nat.le_add_right _ _) hs1)⟩
end Go.Proofs.YtogdkhnakenbcaaGreatDoor
