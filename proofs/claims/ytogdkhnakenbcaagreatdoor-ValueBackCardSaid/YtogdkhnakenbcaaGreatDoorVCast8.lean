/-
  Casts: the document's Cast.
-/
import Derived.Test.YtogdkhnakenbcaaGreatDoorVCast7
import Derived.Test.YtogdkhnakenbcaaGreatDoorVCmp2
namespace Go.Proofs.YtogdkhnakenbcaaGreatDoor
open Go.ChangeShapes Go.WideShapes Go.ChangeAt Go.RowKit
set_option linter.unusedVariables false

theorem refOfTextC (t : ByteArray) (w : World) : Calls Tryz.prog 26 #[.string t] w fun e w' => e = .returned (.agg #[.int .i64 4, .int .i64 0, .bool false, .int .i64 0, .string t]) ∧ Below w.heap.size w w' := by
  go_enter Tryz.func26, Tryz.ntmps26
  go_wp2
  exact bodyPost_ret (v := .agg #[.int .i64 4, .int .i64 0, .bool false, .int .i64 0, .string t]) (by simp [results, Tryz.results26, go_sem]) rfl ⟨rfl, by first | exact alloc_below _ _ | exact alloc2_below _ _ _ | exact ((Below.refl _ _).alloc (Nat.le_refl _) _).setCell (by simp) _ | exact (alloc2_below _ _ _).setCell (by simp) _⟩
theorem kind_in {k s : Int} (h : typeB k s = true) : 1 ≤ k ∧ k ≤ 5 ∧ 0 ≤ s ∧ (k ≠ 3 → s = 0) ∧ s ≤ 18 := by
  simp only [typeB, kindB, Bool.and_eq_true, decide_eq_true_eq] at h
  obtain ⟨⟨⟨k1, k5⟩, s0⟩, s1⟩ := h
  have hgk : greatI k = if k = 3 then 18 else 0 := rfl
  rw [hgk] at s1
  refine ⟨k1, k5, s0, fun h => ?_, ?_⟩
  · rw [if_neg h] at s1; omega
  · split at s1 <;> omega

set_option maxHeartbeats 3200000 in
theorem rcast_bad (k s n tk ts : Int) (nl : Bool) (l : List UInt8) (w : World) (hT : typeB tk ts = false) : Calls Tryz.prog 8 #[.agg #[.int .i64 k, .int .i64 s, .bool nl, .int .i64 n, .string ⟨l.toArray⟩], .agg #[.int .i64 tk, .int .i64 ts]] w fun e w' => e = .returned (.tuple #[.agg #[.int .i64 0, .int .i64 0, .bool false, .int .i64 0, .string ⟨#[]⟩], .int .i64 21]) ∧ Below w.heap.size w w' := by
  have HT := Lib.hid (fun W => refCheckTypeV tk ts W hT)
  clear hT
  go_enter Tryz.func8, Tryz.ntmps8
  go_wp2_with fail
  refine (HT.out _).mono ?_
  rintro e w1 ⟨rfl, hb⟩
  obtain ⟨hbx0, hbx1, hbx2⟩ := box3 hb
  obtain ⟨⟨z0, z1, z2, z3, z4⟩, -⟩ := box_cells5 hbx0
  obtain ⟨y0, y1⟩ := box_cells2 hbx1
  obtain ⟨⟨r0, r1, r2, r3, r4⟩, hf⟩ := box_cells5 hbx2
  have hw1 := bt (by first | exact alloc3B _ _ _ _ | exact below_drew (alloc3B _ _ _ _)) hb
  have hsc : w.heap.size + 2 < w1.heap.size := World.block_lt_of_cell? _ _ r0
  have hsb : w.heap.size + 1 < w1.heap.size := by omega
  have hsa : w.heap.size < w1.heap.size := by omega
  have hsd : w.heap.size + 1 + 1 < w1.heap.size := by omega
  clear hb
  go_wp2
  exact bodyPost_ret (v := .tuple #[.agg #[.int .i64 0, .int .i64 0, .bool false, .int .i64 0, .string ⟨#[]⟩], .int .i64 21]) (by simp [results, Tryz.results8, go_sem, r0, r1, r2, r3, r4]) rfl ⟨rfl, by repeat' first | (with_reducible exact hw1) | (with_reducible refine Below.setCell ?_ ?_ _) | (with_reducible refine Below.alloc ?_ ?_ _) | (simp; done) | (simp; omega)⟩

set_option maxHeartbeats 3200000 in
theorem rcast_noway (k s n tk ts : Int) (nl : Bool) (l : List UInt8) (w : World) (hT : typeB tk ts = true) (hC : canB k tk = false) : Calls Tryz.prog 8 #[.agg #[.int .i64 k, .int .i64 s, .bool nl, .int .i64 n, .string ⟨l.toArray⟩], .agg #[.int .i64 tk, .int .i64 ts]] w fun e w' => e = .returned (.tuple #[.agg #[.int .i64 0, .int .i64 0, .bool false, .int .i64 0, .string ⟨#[]⟩], .int .i64 21]) ∧ Below w.heap.size w w' := by
  have HT := Lib.hid (fun W => refCheckTypeV tk ts W hT)
  have hki := kind_in hT
  have HC := Lib.hid (fun W => way_any k tk false hki.1 hki.2.1 hC W)
  clear hki
  clear hT hC
  go_enter Tryz.func8, Tryz.ntmps8
  go_wp2_with fail
  refine (HT.out _).mono ?_
  rintro e w1 ⟨rfl, hb⟩
  obtain ⟨hbx0, hbx1, hbx2⟩ := box3 hb
  obtain ⟨⟨z0, z1, z2, z3, z4⟩, -⟩ := box_cells5 hbx0
  obtain ⟨y0, y1⟩ := box_cells2 hbx1
  obtain ⟨⟨r0, r1, r2, r3, r4⟩, hf⟩ := box_cells5 hbx2
  have hw1 := bt (by first | exact alloc3B _ _ _ _ | exact below_drew (alloc3B _ _ _ _)) hb
  have hsc : w.heap.size + 2 < w1.heap.size := World.block_lt_of_cell? _ _ r0
  have hsb : w.heap.size + 1 < w1.heap.size := by omega
  have hsa : w.heap.size < w1.heap.size := by omega
  have hsd : w.heap.size + 1 + 1 < w1.heap.size := by omega
  clear hb
  go_wp2_with fail
  refine (HC.out _).mono ?_
  rintro e w2 ⟨rfl, rfl⟩
  go_wp2
  exact bodyPost_ret (v := .tuple #[.agg #[.int .i64 0, .int .i64 0, .bool false, .int .i64 0, .string ⟨#[]⟩], .int .i64 21]) (by simp [results, Tryz.results8, go_sem, r0, r1, r2, r3, r4]) rfl ⟨rfl, by repeat' first | (with_reducible exact hw1) | (with_reducible refine Below.setCell ?_ ?_ _) | (with_reducible refine Below.alloc ?_ ?_ _) | (simp; done) | (simp; omega)⟩

set_option maxHeartbeats 3200000 in
theorem rcast_null (k s n tk ts : Int) (l : List UInt8) (w : World) (hT : typeB tk ts = true) (hC : canB k tk = true) : Calls Tryz.prog 8 #[.agg #[.int .i64 k, .int .i64 s, .bool true, .int .i64 n, .string ⟨l.toArray⟩], .agg #[.int .i64 tk, .int .i64 ts]] w fun e w' => e = .returned (.tuple #[.agg #[.int .i64 tk, .int .i64 ts, .bool true, .int .i64 0, .string ⟨#[]⟩], .int .i64 0]) ∧ Below w.heap.size w w' := by
  have HT := Lib.hid (fun W => refCheckTypeV tk ts W hT)
  have hki := kind_in hT
  have HC := Lib.hid (fun W => way_any k tk true hki.1 hki.2.1 hC W)
  clear hki
  clear hT hC
  go_enter Tryz.func8, Tryz.ntmps8
  go_wp2_with fail
  refine (HT.out _).mono ?_
  rintro e w1 ⟨rfl, hb⟩
  obtain ⟨hbx0, hbx1, hbx2⟩ := box3 hb
  obtain ⟨⟨z0, z1, z2, z3, z4⟩, -⟩ := box_cells5 hbx0
  obtain ⟨y0, y1⟩ := box_cells2 hbx1
  obtain ⟨⟨r0, r1, r2, r3, r4⟩, hf⟩ := box_cells5 hbx2
  have hw1 := bt (by first | exact alloc3B _ _ _ _ | exact below_drew (alloc3B _ _ _ _)) hb
  have hsc : w.heap.size + 2 < w1.heap.size := World.block_lt_of_cell? _ _ r0
  have hsb : w.heap.size + 1 < w1.heap.size := by omega
  have hsa : w.heap.size < w1.heap.size := by omega
  have hsd : w.heap.size + 1 + 1 < w1.heap.size := by omega
  clear hb
  go_wp2_with fail
  refine (HC.out _).mono ?_
  rintro e w2 ⟨rfl, rfl⟩
  go_wp2_with fail
  refine (refNoneC tk ts _).mono ?_
  rintro e w3 ⟨rfl, hb3⟩
  obtain ⟨⟨q0, q1, q2, q3, q4⟩, hf3⟩ := box_cells5 (box_next hbx2 hb3)
  have hw3 := bt hw1 hb3
  go_wp2
  exact bodyPost_ret (v := .tuple #[.agg #[.int .i64 tk, .int .i64 ts, .bool true, .int .i64 0, .string ⟨#[]⟩], .int .i64 0]) (by simp [results, Tryz.results8, go_sem, q0, q1, q2, q3, q4]) rfl ⟨rfl, by repeat' first | (with_reducible exact hw3) | (with_reducible refine Below.setCell ?_ ?_ _) | (with_reducible refine Below.alloc ?_ ?_ _) | (simp; done) | (simp; omega)⟩

set_option maxHeartbeats 3200000 in
theorem rcast_t4_ok (s n ts : Int) (l : List UInt8) (w : World) (hT : typeB 4 ts = true) (hC : canB 4 4 = true) (h : tooLong l = false) : Calls Tryz.prog 8 #[.agg #[.int .i64 4, .int .i64 s, .bool false, .int .i64 n, .string ⟨l.toArray⟩], .agg #[.int .i64 4, .int .i64 ts]] w fun e w' => e = .returned (.tuple #[.agg #[.int .i64 4, .int .i64 0, .bool false, .int .i64 0, .string ⟨l.toArray⟩], .int .i64 0]) ∧ Below w.heap.size w w' := by
  have HT := Lib.hid (fun W => refCheckTypeV 4 ts W hT)
  have hki := kind_in hT
  have HC := Lib.hid (fun W => way_any 4 4 true hki.1 hki.2.1 hC W)
  clear hki
  have hx : ¬ (256 : Int) < (l.length : Int) := by simp [tooLong] at h; omega
  clear hT hC h
  go_enter Tryz.func8, Tryz.ntmps8
  go_wp2_with fail
  refine (HT.out _).mono ?_
  rintro e w1 ⟨rfl, hb⟩
  obtain ⟨hbx0, hbx1, hbx2⟩ := box3 hb
  obtain ⟨⟨z0, z1, z2, z3, z4⟩, -⟩ := box_cells5 hbx0
  obtain ⟨y0, y1⟩ := box_cells2 hbx1
  obtain ⟨⟨r0, r1, r2, r3, r4⟩, hf⟩ := box_cells5 hbx2
  have hw1 := bt (by first | exact alloc3B _ _ _ _ | exact below_drew (alloc3B _ _ _ _)) hb
  have hsc : w.heap.size + 2 < w1.heap.size := World.block_lt_of_cell? _ _ r0
  have hsb : w.heap.size + 1 < w1.heap.size := by omega
  have hsa : w.heap.size < w1.heap.size := by omega
  have hsd : w.heap.size + 1 + 1 < w1.heap.size := by omega
  clear hb
  go_wp2_with fail
  refine (HC.out _).mono ?_
  rintro e w2 ⟨rfl, rfl⟩
  go_wp2_with fail
  refine (refOfTextC _ _).mono ?_
  rintro e w4 ⟨rfl, hb4⟩
  obtain ⟨⟨x0, x1, x2, x3, x4⟩, hf4⟩ := box_cells5 (box_next hbx2 hb4)
  have hw4 := bt hw1 hb4
  go_wp2
  exact bodyPost_ret (v := .tuple #[.agg #[.int .i64 4, .int .i64 0, .bool false, .int .i64 0, .string ⟨l.toArray⟩], .int .i64 0]) (by simp [results, Tryz.results8, go_sem, x0, x1, x2, x3, x4]) rfl ⟨rfl, by repeat' first | (with_reducible exact hw4) | (with_reducible refine Below.setCell ?_ ?_ _) | (with_reducible refine Below.alloc ?_ ?_ _) | (simp; done) | (simp; omega)⟩

set_option maxHeartbeats 3200000 in
theorem rcast_t4_long (s n ts : Int) (l : List UInt8) (w : World) (hT : typeB 4 ts = true) (hC : canB 4 4 = true) (h : tooLong l = true) : Calls Tryz.prog 8 #[.agg #[.int .i64 4, .int .i64 s, .bool false, .int .i64 n, .string ⟨l.toArray⟩], .agg #[.int .i64 4, .int .i64 ts]] w fun e w' => e = .returned (.tuple #[.agg #[.int .i64 0, .int .i64 0, .bool false, .int .i64 0, .string ⟨#[]⟩], .int .i64 10]) ∧ Below w.heap.size w w' := by
  have HT := Lib.hid (fun W => refCheckTypeV 4 ts W hT)
  have hki := kind_in hT
  have HC := Lib.hid (fun W => way_any 4 4 true hki.1 hki.2.1 hC W)
  clear hki
  have hx : (256 : Int) < (l.length : Int) := by simp [tooLong] at h; omega
  clear hT hC h
  go_enter Tryz.func8, Tryz.ntmps8
  go_wp2_with fail
  refine (HT.out _).mono ?_
  rintro e w1 ⟨rfl, hb⟩
  obtain ⟨hbx0, hbx1, hbx2⟩ := box3 hb
  obtain ⟨⟨z0, z1, z2, z3, z4⟩, -⟩ := box_cells5 hbx0
  obtain ⟨y0, y1⟩ := box_cells2 hbx1
  obtain ⟨⟨r0, r1, r2, r3, r4⟩, hf⟩ := box_cells5 hbx2
  have hw1 := bt (by first | exact alloc3B _ _ _ _ | exact below_drew (alloc3B _ _ _ _)) hb
  have hsc : w.heap.size + 2 < w1.heap.size := World.block_lt_of_cell? _ _ r0
  have hsb : w.heap.size + 1 < w1.heap.size := by omega
  have hsa : w.heap.size < w1.heap.size := by omega
  have hsd : w.heap.size + 1 + 1 < w1.heap.size := by omega
  clear hb
  go_wp2_with fail
  refine (HC.out _).mono ?_
  rintro e w2 ⟨rfl, rfl⟩
  go_wp2
  exact bodyPost_ret (v := .tuple #[.agg #[.int .i64 0, .int .i64 0, .bool false, .int .i64 0, .string ⟨#[]⟩], .int .i64 10]) (by simp [results, Tryz.results8, go_sem, r0, r1, r2, r3, r4]) rfl ⟨rfl, by repeat' first | (with_reducible exact hw1) | (with_reducible refine Below.setCell ?_ ?_ _) | (with_reducible refine Below.alloc ?_ ?_ _) | (simp; done) | (simp; omega)⟩

set_option maxHeartbeats 3200000 in
theorem rcast_tk_ok (k s n ts : Int) (l T : List UInt8) (w : World) (hT : typeB 4 ts = true) (hC : canB k 4 = true) (h4 : ¬ k = 4) (HS : ∀ W, Below w.heap.size w W → Calls Tryz.prog 11 #[.agg #[.int .i64 k, .int .i64 s, .bool false, .int .i64 n, .string ⟨l.toArray⟩]] W fun e w' => e = .returned (.string ⟨T.toArray⟩) ∧ Below W.heap.size W w') (h : tooLong T = false) : Calls Tryz.prog 8 #[.agg #[.int .i64 k, .int .i64 s, .bool false, .int .i64 n, .string ⟨l.toArray⟩], .agg #[.int .i64 4, .int .i64 ts]] w fun e w' => e = .returned (.tuple #[.agg #[.int .i64 4, .int .i64 0, .bool false, .int .i64 0, .string ⟨T.toArray⟩], .int .i64 0]) ∧ Below w.heap.size w w' := by
  have HT := Lib.hid (fun W => refCheckTypeV 4 ts W hT)
  have hki := kind_in hT
  have HC := Lib.hid (fun W => way_any k 4 true hki.1 hki.2.1 hC W)
  clear hki
  have hx : ¬ (256 : Int) < (T.length : Int) := by simp [tooLong] at h; omega
  have HS := Lib.hid HS
  have e4 : (k == 4) = false := by simpa using h4
  clear h4
  clear hT hC h
  go_enter Tryz.func8, Tryz.ntmps8
  go_wp2_with fail
  refine (HT.out _).mono ?_
  rintro e w1 ⟨rfl, hb⟩
  obtain ⟨hbx0, hbx1, hbx2⟩ := box3 hb
  obtain ⟨⟨z0, z1, z2, z3, z4⟩, -⟩ := box_cells5 hbx0
  obtain ⟨y0, y1⟩ := box_cells2 hbx1
  obtain ⟨⟨r0, r1, r2, r3, r4⟩, hf⟩ := box_cells5 hbx2
  have hw1 := bt (by first | exact alloc3B _ _ _ _ | exact below_drew (alloc3B _ _ _ _)) hb
  have hsc : w.heap.size + 2 < w1.heap.size := World.block_lt_of_cell? _ _ r0
  have hsb : w.heap.size + 1 < w1.heap.size := by omega
  have hsa : w.heap.size < w1.heap.size := by omega
  have hsd : w.heap.size + 1 + 1 < w1.heap.size := by omega
  clear hb
  go_wp2_with fail
  refine (HC.out _).mono ?_
  rintro e w2 ⟨rfl, rfl⟩
  go_wp2_with fail
  refine (HS.out _ hw1).mono ?_
  rintro e w3 ⟨rfl, hb3⟩
  obtain ⟨⟨q0, q1, q2, q3, q4⟩, hf3⟩ := box_cells5 (box_next hbx2 hb3)
  have hw3 := bt hw1 hb3
  go_wp2_with fail
  refine (refOfTextC _ _).mono ?_
  rintro e w4 ⟨rfl, hb4⟩
  obtain ⟨⟨x0, x1, x2, x3, x4⟩, hf4⟩ := box_cells5 (box_next (box_next hbx2 hb3) hb4)
  have hw4 := bt hw3 hb4
  go_wp2
  exact bodyPost_ret (v := .tuple #[.agg #[.int .i64 4, .int .i64 0, .bool false, .int .i64 0, .string ⟨T.toArray⟩], .int .i64 0]) (by simp [results, Tryz.results8, go_sem, x0, x1, x2, x3, x4]) rfl ⟨rfl, by repeat' first | (with_reducible exact hw4) | (with_reducible refine Below.setCell ?_ ?_ _) | (with_reducible refine Below.alloc ?_ ?_ _) | (simp; done) | (simp; omega)⟩

set_option maxHeartbeats 3200000 in
theorem rcast_tk_long (k s n ts : Int) (l T : List UInt8) (w : World) (hT : typeB 4 ts = true) (hC : canB k 4 = true) (h4 : ¬ k = 4) (HS : ∀ W, Below w.heap.size w W → Calls Tryz.prog 11 #[.agg #[.int .i64 k, .int .i64 s, .bool false, .int .i64 n, .string ⟨l.toArray⟩]] W fun e w' => e = .returned (.string ⟨T.toArray⟩) ∧ Below W.heap.size W w') (h : tooLong T = true) : Calls Tryz.prog 8 #[.agg #[.int .i64 k, .int .i64 s, .bool false, .int .i64 n, .string ⟨l.toArray⟩], .agg #[.int .i64 4, .int .i64 ts]] w fun e w' => e = .returned (.tuple #[.agg #[.int .i64 0, .int .i64 0, .bool false, .int .i64 0, .string ⟨#[]⟩], .int .i64 10]) ∧ Below w.heap.size w w' := by
  have HT := Lib.hid (fun W => refCheckTypeV 4 ts W hT)
  have hki := kind_in hT
  have HC := Lib.hid (fun W => way_any k 4 true hki.1 hki.2.1 hC W)
  clear hki
  have hx : (256 : Int) < (T.length : Int) := by simp [tooLong] at h; omega
  have HS := Lib.hid HS
  have e4 : (k == 4) = false := by simpa using h4
  clear h4
  clear hT hC h
  go_enter Tryz.func8, Tryz.ntmps8
  go_wp2_with fail
  refine (HT.out _).mono ?_
  rintro e w1 ⟨rfl, hb⟩
  obtain ⟨hbx0, hbx1, hbx2⟩ := box3 hb
  obtain ⟨⟨z0, z1, z2, z3, z4⟩, -⟩ := box_cells5 hbx0
  obtain ⟨y0, y1⟩ := box_cells2 hbx1
  obtain ⟨⟨r0, r1, r2, r3, r4⟩, hf⟩ := box_cells5 hbx2
  have hw1 := bt (by first | exact alloc3B _ _ _ _ | exact below_drew (alloc3B _ _ _ _)) hb
  have hsc : w.heap.size + 2 < w1.heap.size := World.block_lt_of_cell? _ _ r0
  have hsb : w.heap.size + 1 < w1.heap.size := by omega
  have hsa : w.heap.size < w1.heap.size := by omega
  have hsd : w.heap.size + 1 + 1 < w1.heap.size := by omega
  clear hb
  go_wp2_with fail
  refine (HC.out _).mono ?_
  rintro e w2 ⟨rfl, rfl⟩
  go_wp2_with fail
  refine (HS.out _ hw1).mono ?_
  rintro e w3 ⟨rfl, hb3⟩
  obtain ⟨⟨q0, q1, q2, q3, q4⟩, hf3⟩ := box_cells5 (box_next hbx2 hb3)
  have hw3 := bt hw1 hb3
  go_wp2
  exact bodyPost_ret (v := .tuple #[.agg #[.int .i64 0, .int .i64 0, .bool false, .int .i64 0, .string ⟨#[]⟩], .int .i64 10]) (by simp [results, Tryz.results8, go_sem, q0, q1, q2, q3, q4]) rfl ⟨rfl, by repeat' first | (with_reducible exact hw3) | (with_reducible refine Below.setCell ?_ ?_ _) | (with_reducible refine Below.alloc ?_ ?_ _) | (simp; done) | (simp; omega)⟩

set_option maxHeartbeats 3200000 in
theorem rcast_read (s n tk ts : Int) (l : List UInt8) (w : World) (hT : typeB tk ts = true) (hC : canB 4 tk = true) (h4 : ¬ tk = 4) (a0 a1 a3 e0 : Int) (HR : ∀ W, Below w.heap.size w W → Calls Tryz.prog 27 #[.string ⟨l.toArray⟩, .agg #[.int .i64 tk, .int .i64 ts]] W fun e w' => e = .returned (.tuple #[.agg #[.int .i64 a0, .int .i64 a1, .bool false, .int .i64 a3, .string ⟨#[]⟩], .int .i64 e0]) ∧ Below W.heap.size W w') : Calls Tryz.prog 8 #[.agg #[.int .i64 4, .int .i64 s, .bool false, .int .i64 n, .string ⟨l.toArray⟩], .agg #[.int .i64 tk, .int .i64 ts]] w fun e w' => e = .returned (.tuple #[.agg #[.int .i64 a0, .int .i64 a1, .bool false, .int .i64 a3, .string ⟨#[]⟩], .int .i64 e0]) ∧ Below w.heap.size w w' := by
  have HT := Lib.hid (fun W => refCheckTypeV tk ts W hT)
  have hki := kind_in hT
  have HC := Lib.hid (fun W => way_any 4 tk true hki.1 hki.2.1 hC W)
  clear hki
  have HR := Lib.hid HR
  have e4 : (tk == 4) = false := by simpa using h4
  clear hT hC
  go_enter Tryz.func8, Tryz.ntmps8
  go_wp2_with fail
  refine (HT.out _).mono ?_
  rintro e w1 ⟨rfl, hb⟩
  obtain ⟨hbx0, hbx1, hbx2⟩ := box3 hb
  obtain ⟨⟨z0, z1, z2, z3, z4⟩, -⟩ := box_cells5 hbx0
  obtain ⟨y0, y1⟩ := box_cells2 hbx1
  obtain ⟨⟨r0, r1, r2, r3, r4⟩, hf⟩ := box_cells5 hbx2
  have hw1 := bt (by first | exact alloc3B _ _ _ _ | exact below_drew (alloc3B _ _ _ _)) hb
  have hsc : w.heap.size + 2 < w1.heap.size := World.block_lt_of_cell? _ _ r0
  have hsb : w.heap.size + 1 < w1.heap.size := by omega
  have hsa : w.heap.size < w1.heap.size := by omega
  have hsd : w.heap.size + 1 + 1 < w1.heap.size := by omega
  clear hb
  go_wp2_with fail
  refine (HC.out _).mono ?_
  rintro e w2 ⟨rfl, rfl⟩
  go_wp2_with fail
  refine (HR.out _ hw1).mono ?_
  rintro e w3 ⟨rfl, hb3⟩
  obtain ⟨⟨q0, q1, q2, q3, q4⟩, hf3⟩ := box_cells5 (box_next hbx2 hb3)
  have hw3 := bt hw1 hb3
  go_wp2
  exact bodyPost_ret (v := .tuple #[.agg #[.int .i64 a0, .int .i64 a1, .bool false, .int .i64 a3, .string ⟨#[]⟩], .int .i64 e0]) (by simp [results, Tryz.results8, go_sem, q0, q1, q2, q3, q4]) rfl ⟨rfl, by repeat' first | (with_reducible exact hw3) | (with_reducible refine Below.setCell ?_ ?_ _) | (with_reducible refine Below.alloc ?_ ?_ _) | (simp; done) | (simp; omega)⟩

set_option maxHeartbeats 3200000 in
theorem rcast_same_1 (s n ts : Int) (l : List UInt8) (w : World) (hT : typeB 1 ts = true) : Calls Tryz.prog 8 #[.agg #[.int .i64 1, .int .i64 s, .bool false, .int .i64 n, .string ⟨l.toArray⟩], .agg #[.int .i64 1, .int .i64 ts]] w fun e w' => e = .returned (.tuple #[.agg #[.int .i64 1, .int .i64 ts, .bool false, .int .i64 n, .string ⟨#[]⟩], .int .i64 0]) ∧ Below w.heap.size w w' := by
  have HT := Lib.hid (fun W => refCheckTypeV 1 ts W hT)
  have hC : canB 1 1 = true := rfl
  have hki := kind_in hT
  have HC := Lib.hid (fun W => way_any 1 1 true hki.1 hki.2.1 hC W)
  clear hki
  clear hT hC
  go_enter Tryz.func8, Tryz.ntmps8
  go_wp2_with fail
  refine (HT.out _).mono ?_
  rintro e w1 ⟨rfl, hb⟩
  obtain ⟨hbx0, hbx1, hbx2⟩ := box3 hb
  obtain ⟨⟨z0, z1, z2, z3, z4⟩, -⟩ := box_cells5 hbx0
  obtain ⟨y0, y1⟩ := box_cells2 hbx1
  obtain ⟨⟨r0, r1, r2, r3, r4⟩, hf⟩ := box_cells5 hbx2
  have hw1 := bt (by first | exact alloc3B _ _ _ _ | exact below_drew (alloc3B _ _ _ _)) hb
  have hsc : w.heap.size + 2 < w1.heap.size := World.block_lt_of_cell? _ _ r0
  have hsb : w.heap.size + 1 < w1.heap.size := by omega
  have hsa : w.heap.size < w1.heap.size := by omega
  have hsd : w.heap.size + 1 + 1 < w1.heap.size := by omega
  clear hb
  go_wp2_with fail
  refine (HC.out _).mono ?_
  rintro e w2 ⟨rfl, rfl⟩
  go_wp2
  exact bodyPost_ret (v := .tuple #[.agg #[.int .i64 1, .int .i64 ts, .bool false, .int .i64 n, .string ⟨#[]⟩], .int .i64 0]) (by simp [results, Tryz.results8, go_sem, r0, r1, r2, r3, r4, hsd]) rfl ⟨rfl, by repeat' first | (with_reducible exact hw1) | (with_reducible refine Below.setCell ?_ ?_ _) | (with_reducible refine Below.alloc ?_ ?_ _) | (simp; done) | (simp; omega)⟩

set_option maxHeartbeats 3200000 in
theorem rcast_same_2 (s n ts : Int) (l : List UInt8) (w : World) (hT : typeB 2 ts = true) : Calls Tryz.prog 8 #[.agg #[.int .i64 2, .int .i64 s, .bool false, .int .i64 n, .string ⟨l.toArray⟩], .agg #[.int .i64 2, .int .i64 ts]] w fun e w' => e = .returned (.tuple #[.agg #[.int .i64 2, .int .i64 ts, .bool false, .int .i64 n, .string ⟨#[]⟩], .int .i64 0]) ∧ Below w.heap.size w w' := by
  have HT := Lib.hid (fun W => refCheckTypeV 2 ts W hT)
  have hC : canB 2 2 = true := rfl
  have hki := kind_in hT
  have HC := Lib.hid (fun W => way_any 2 2 true hki.1 hki.2.1 hC W)
  clear hki
  clear hT hC
  go_enter Tryz.func8, Tryz.ntmps8
  go_wp2_with fail
  refine (HT.out _).mono ?_
  rintro e w1 ⟨rfl, hb⟩
  obtain ⟨hbx0, hbx1, hbx2⟩ := box3 hb
  obtain ⟨⟨z0, z1, z2, z3, z4⟩, -⟩ := box_cells5 hbx0
  obtain ⟨y0, y1⟩ := box_cells2 hbx1
  obtain ⟨⟨r0, r1, r2, r3, r4⟩, hf⟩ := box_cells5 hbx2
  have hw1 := bt (by first | exact alloc3B _ _ _ _ | exact below_drew (alloc3B _ _ _ _)) hb
  have hsc : w.heap.size + 2 < w1.heap.size := World.block_lt_of_cell? _ _ r0
  have hsb : w.heap.size + 1 < w1.heap.size := by omega
  have hsa : w.heap.size < w1.heap.size := by omega
  have hsd : w.heap.size + 1 + 1 < w1.heap.size := by omega
  clear hb
  go_wp2_with fail
  refine (HC.out _).mono ?_
  rintro e w2 ⟨rfl, rfl⟩
  go_wp2
  exact bodyPost_ret (v := .tuple #[.agg #[.int .i64 2, .int .i64 ts, .bool false, .int .i64 n, .string ⟨#[]⟩], .int .i64 0]) (by simp [results, Tryz.results8, go_sem, r0, r1, r2, r3, r4, hsd]) rfl ⟨rfl, by repeat' first | (with_reducible exact hw1) | (with_reducible refine Below.setCell ?_ ?_ _) | (with_reducible refine Below.alloc ?_ ?_ _) | (simp; done) | (simp; omega)⟩

set_option maxHeartbeats 3200000 in
theorem rcast_same_5 (s n ts : Int) (l : List UInt8) (w : World) (hT : typeB 5 ts = true) : Calls Tryz.prog 8 #[.agg #[.int .i64 5, .int .i64 s, .bool false, .int .i64 n, .string ⟨l.toArray⟩], .agg #[.int .i64 5, .int .i64 ts]] w fun e w' => e = .returned (.tuple #[.agg #[.int .i64 5, .int .i64 ts, .bool false, .int .i64 n, .string ⟨#[]⟩], .int .i64 0]) ∧ Below w.heap.size w w' := by
  have HT := Lib.hid (fun W => refCheckTypeV 5 ts W hT)
  have hC : canB 5 5 = true := rfl
  have hki := kind_in hT
  have HC := Lib.hid (fun W => way_any 5 5 true hki.1 hki.2.1 hC W)
  clear hki
  clear hT hC
  go_enter Tryz.func8, Tryz.ntmps8
  go_wp2_with fail
  refine (HT.out _).mono ?_
  rintro e w1 ⟨rfl, hb⟩
  obtain ⟨hbx0, hbx1, hbx2⟩ := box3 hb
  obtain ⟨⟨z0, z1, z2, z3, z4⟩, -⟩ := box_cells5 hbx0
  obtain ⟨y0, y1⟩ := box_cells2 hbx1
  obtain ⟨⟨r0, r1, r2, r3, r4⟩, hf⟩ := box_cells5 hbx2
  have hw1 := bt (by first | exact alloc3B _ _ _ _ | exact below_drew (alloc3B _ _ _ _)) hb
  have hsc : w.heap.size + 2 < w1.heap.size := World.block_lt_of_cell? _ _ r0
  have hsb : w.heap.size + 1 < w1.heap.size := by omega
  have hsa : w.heap.size < w1.heap.size := by omega
  have hsd : w.heap.size + 1 + 1 < w1.heap.size := by omega
  clear hb
  go_wp2_with fail
  refine (HC.out _).mono ?_
  rintro e w2 ⟨rfl, rfl⟩
  go_wp2
  exact bodyPost_ret (v := .tuple #[.agg #[.int .i64 5, .int .i64 ts, .bool false, .int .i64 n, .string ⟨#[]⟩], .int .i64 0]) (by simp [results, Tryz.results8, go_sem, r0, r1, r2, r3, r4, hsd]) rfl ⟨rfl, by repeat' first | (with_reducible exact hw1) | (with_reducible refine Below.setCell ?_ ?_ _) | (with_reducible refine Below.alloc ?_ ?_ _) | (simp; done) | (simp; omega)⟩

set_option maxHeartbeats 3200000 in
theorem rcast_2_3_1 (s n ts x y : Int) (l : List UInt8) (w : World) (hT : typeB 3 ts = true) (hx : scV n (scl 2 s : Int) ts = x) (hE : scE n (scl 2 s : Int) ts = y) (hy : y = 0) : Calls Tryz.prog 8 #[.agg #[.int .i64 2, .int .i64 s, .bool false, .int .i64 n, .string ⟨l.toArray⟩], .agg #[.int .i64 3, .int .i64 ts]] w fun e w' => e = .returned (.tuple #[.agg #[.int .i64 3, .int .i64 ts, .bool false, .int .i64 x, .string ⟨#[]⟩], .int .i64 0]) ∧ Below w.heap.size w w' := by
  have HT := Lib.hid (fun W => refCheckTypeV 3 ts W hT)
  have hC : canB 2 3 = true := rfl
  have hki := kind_in hT
  have HC := Lib.hid (fun W => way_any 2 3 true hki.1 hki.2.1 hC W)
  clear hki
  have HA := Lib.hid (fun W => refScale_any 2 s false n ⟨l.toArray⟩ W)
  have HB := Lib.hid (fun W => refScaleC_any n (scl 2 s : Int) ts W)
  rw [hx, hE] at HB
  generalize (scl 2 s : Int) = sc at *
  clear hT hC hx hE
  subst hy
  go_enter Tryz.func8, Tryz.ntmps8
  go_wp2_with fail
  refine (HT.out _).mono ?_
  rintro e w1 ⟨rfl, hb⟩
  obtain ⟨hbx0, hbx1, hbx2⟩ := box3 hb
  obtain ⟨⟨z0, z1, z2, z3, z4⟩, -⟩ := box_cells5 hbx0
  obtain ⟨y0, y1⟩ := box_cells2 hbx1
  obtain ⟨⟨r0, r1, r2, r3, r4⟩, hf⟩ := box_cells5 hbx2
  have hw1 := bt (by first | exact alloc3B _ _ _ _ | exact below_drew (alloc3B _ _ _ _)) hb
  have hsc : w.heap.size + 2 < w1.heap.size := World.block_lt_of_cell? _ _ r0
  have hsb : w.heap.size + 1 < w1.heap.size := by omega
  have hsa : w.heap.size < w1.heap.size := by omega
  have hsd : w.heap.size + 1 + 1 < w1.heap.size := by omega
  clear hb
  go_wp2_with fail
  refine (HC.out _).mono ?_
  rintro e w2 ⟨rfl, rfl⟩
  go_wp2_with fail
  have hv1 := box_next hbx0 (alloc_below w1 (.cells #[.int .i64 3, .int .i64 ts, .bool false, .int .i64 n, .string ⟨#[]⟩] 25))
  have ht1 := box_next hbx1 (alloc_below w1 (.cells #[.int .i64 3, .int .i64 ts, .bool false, .int .i64 n, .string ⟨#[]⟩] 25))
  have hr1 := box_next hbx2 (alloc_below w1 (.cells #[.int .i64 3, .int .i64 ts, .bool false, .int .i64 n, .string ⟨#[]⟩] 25))
  have hx1 := box_at w1 (.cells #[.int .i64 3, .int .i64 ts, .bool false, .int .i64 n, .string ⟨#[]⟩] 25)
  have hw2 : Below w.heap.size w (w1.alloc (.cells #[.int .i64 3, .int .i64 ts, .bool false, .int .i64 n, .string ⟨#[]⟩] 25)) := hw1.alloc (Nat.le_of_lt hsa) _
  have hsz2 : w1.heap.size < (w1.alloc (.cells #[.int .i64 3, .int .i64 ts, .bool false, .int .i64 n, .string ⟨#[]⟩] 25)).heap.size := by simp
  generalize w1.alloc (.cells #[.int .i64 3, .int .i64 ts, .bool false, .int .i64 n, .string ⟨#[]⟩] 25) = WA at *
  generalize w1.heap.size = b3 at *
  obtain ⟨⟨p0, p1, p2, p3, p4⟩, -⟩ := box_cells5 hv1
  obtain ⟨m0, m1⟩ := box_cells2 ht1
  clear hf hbx0 hbx1 hbx2 r0 r1 r2 r3 r4 y0 y1 z0 z1 z2 z3 z4 hw1 hv1
  go_region_held3 (fun w' => w'.cell? ⟨w.heap.size, 0, none⟩ = some (.int .i64 2) ∧ w'.cell? ⟨w.heap.size, 1, none⟩ = some (.int .i64 s) ∧ w'.cell? ⟨w.heap.size, 2, none⟩ = some (.bool false) ∧ w'.cell? ⟨w.heap.size, 3, none⟩ = some (.int .i64 n) ∧ w'.cell? ⟨w.heap.size, 4, none⟩ = some (.string ⟨l.toArray⟩) ∧ w'.cell? ⟨w.heap.size + 1, 1, none⟩ = some (.int .i64 ts) ∧ w'.heap[w.heap.size + 2]? = some (.cells #[.int .i64 0, .int .i64 0, .bool false, .int .i64 0, .string ⟨#[]⟩] 25) ∧ w'.heap[b3]? = some (.cells #[.int .i64 3, .int .i64 ts, .bool false, .int .i64 n, .string ⟨#[]⟩] 25) ∧ b3 < w'.heap.size ∧ Below w.heap.size w w')
    (((try go_split_ands); refine ⟨?_, ?_, ?_, ?_, ?_, ?_, ?_, ?_, ?_, ?_⟩ <;> first | assumption | (with_reducible exact below_drew hw2) | (rw [(bcell hb3).1 _ _ (by omega)]; assumption) | (have := hb3.size; omega) | (with_reducible refine box_next ?_ hb3; assumption) | (with_reducible refine bt ?_ hb3; (first | assumption | (with_reducible exact below_drew hw2))) | go_keep))
    (first | (go_at_call 29; refine (HA.out _).mono ?_; rintro e w3 ⟨rfl, hb3⟩) | (go_at_call 28; refine (HB.out _).mono ?_; rintro e w3 ⟨rfl, rfl⟩))
  all_goals
    rename_i hH
    obtain ⟨-, -, -, -, -, -, hr3, hx3, hlt3, hw3⟩ := hH
    obtain ⟨⟨q0, q1, q2, q3, q4⟩, hf3⟩ := box_cells5 hr3
    obtain ⟨⟨x0, x1, x2, x3, x4⟩, hg3⟩ := box_cells5 hx3
    go_wp2
    exact bodyPost_ret (v := .tuple #[.agg #[.int .i64 3, .int .i64 ts, .bool false, .int .i64 x, .string ⟨#[]⟩], .int .i64 0]) (by simp [results, Tryz.results8, go_sem, q0, q1, q2, q3, q4]) rfl ⟨rfl, by repeat' first | (with_reducible exact hw3) | (with_reducible refine Below.setCell ?_ ?_ _) | (with_reducible refine Below.alloc ?_ ?_ _) | (simp; done) | (simp; omega)⟩

set_option maxHeartbeats 3200000 in
theorem rcast_2_3_0 (s n ts x y : Int) (l : List UInt8) (w : World) (hT : typeB 3 ts = true) (hx : scV n (scl 2 s : Int) ts = x) (hE : scE n (scl 2 s : Int) ts = y) (hy : ¬ y = 0) : Calls Tryz.prog 8 #[.agg #[.int .i64 2, .int .i64 s, .bool false, .int .i64 n, .string ⟨l.toArray⟩], .agg #[.int .i64 3, .int .i64 ts]] w fun e w' => e = .returned (.tuple #[.agg #[.int .i64 0, .int .i64 0, .bool false, .int .i64 0, .string ⟨#[]⟩], .int .i64 y]) ∧ Below w.heap.size w w' := by
  have HT := Lib.hid (fun W => refCheckTypeV 3 ts W hT)
  have hC : canB 2 3 = true := rfl
  have hki := kind_in hT
  have HC := Lib.hid (fun W => way_any 2 3 true hki.1 hki.2.1 hC W)
  clear hki
  have HA := Lib.hid (fun W => refScale_any 2 s false n ⟨l.toArray⟩ W)
  have HB := Lib.hid (fun W => refScaleC_any n (scl 2 s : Int) ts W)
  rw [hx, hE] at HB
  generalize (scl 2 s : Int) = sc at *
  clear hT hC hx hE
  go_enter Tryz.func8, Tryz.ntmps8
  go_wp2_with fail
  refine (HT.out _).mono ?_
  rintro e w1 ⟨rfl, hb⟩
  obtain ⟨hbx0, hbx1, hbx2⟩ := box3 hb
  obtain ⟨⟨z0, z1, z2, z3, z4⟩, -⟩ := box_cells5 hbx0
  obtain ⟨y0, y1⟩ := box_cells2 hbx1
  obtain ⟨⟨r0, r1, r2, r3, r4⟩, hf⟩ := box_cells5 hbx2
  have hw1 := bt (by first | exact alloc3B _ _ _ _ | exact below_drew (alloc3B _ _ _ _)) hb
  have hsc : w.heap.size + 2 < w1.heap.size := World.block_lt_of_cell? _ _ r0
  have hsb : w.heap.size + 1 < w1.heap.size := by omega
  have hsa : w.heap.size < w1.heap.size := by omega
  have hsd : w.heap.size + 1 + 1 < w1.heap.size := by omega
  clear hb
  go_wp2_with fail
  refine (HC.out _).mono ?_
  rintro e w2 ⟨rfl, rfl⟩
  go_wp2_with fail
  have hv1 := box_next hbx0 (alloc_below w1 (.cells #[.int .i64 3, .int .i64 ts, .bool false, .int .i64 n, .string ⟨#[]⟩] 25))
  have ht1 := box_next hbx1 (alloc_below w1 (.cells #[.int .i64 3, .int .i64 ts, .bool false, .int .i64 n, .string ⟨#[]⟩] 25))
  have hr1 := box_next hbx2 (alloc_below w1 (.cells #[.int .i64 3, .int .i64 ts, .bool false, .int .i64 n, .string ⟨#[]⟩] 25))
  have hx1 := box_at w1 (.cells #[.int .i64 3, .int .i64 ts, .bool false, .int .i64 n, .string ⟨#[]⟩] 25)
  have hw2 : Below w.heap.size w (w1.alloc (.cells #[.int .i64 3, .int .i64 ts, .bool false, .int .i64 n, .string ⟨#[]⟩] 25)) := hw1.alloc (Nat.le_of_lt hsa) _
  have hsz2 : w1.heap.size < (w1.alloc (.cells #[.int .i64 3, .int .i64 ts, .bool false, .int .i64 n, .string ⟨#[]⟩] 25)).heap.size := by simp
  generalize w1.alloc (.cells #[.int .i64 3, .int .i64 ts, .bool false, .int .i64 n, .string ⟨#[]⟩] 25) = WA at *
  generalize w1.heap.size = b3 at *
  obtain ⟨⟨p0, p1, p2, p3, p4⟩, -⟩ := box_cells5 hv1
  obtain ⟨m0, m1⟩ := box_cells2 ht1
  clear hf hbx0 hbx1 hbx2 r0 r1 r2 r3 r4 y0 y1 z0 z1 z2 z3 z4 hw1 hv1
  go_region_held3 (fun w' => w'.cell? ⟨w.heap.size, 0, none⟩ = some (.int .i64 2) ∧ w'.cell? ⟨w.heap.size, 1, none⟩ = some (.int .i64 s) ∧ w'.cell? ⟨w.heap.size, 2, none⟩ = some (.bool false) ∧ w'.cell? ⟨w.heap.size, 3, none⟩ = some (.int .i64 n) ∧ w'.cell? ⟨w.heap.size, 4, none⟩ = some (.string ⟨l.toArray⟩) ∧ w'.cell? ⟨w.heap.size + 1, 1, none⟩ = some (.int .i64 ts) ∧ w'.heap[w.heap.size + 2]? = some (.cells #[.int .i64 0, .int .i64 0, .bool false, .int .i64 0, .string ⟨#[]⟩] 25) ∧ w'.heap[b3]? = some (.cells #[.int .i64 3, .int .i64 ts, .bool false, .int .i64 n, .string ⟨#[]⟩] 25) ∧ b3 < w'.heap.size ∧ Below w.heap.size w w')
    (((try go_split_ands); refine ⟨?_, ?_, ?_, ?_, ?_, ?_, ?_, ?_, ?_, ?_⟩ <;> first | assumption | (with_reducible exact below_drew hw2) | (rw [(bcell hb3).1 _ _ (by omega)]; assumption) | (have := hb3.size; omega) | (with_reducible refine box_next ?_ hb3; assumption) | (with_reducible refine bt ?_ hb3; (first | assumption | (with_reducible exact below_drew hw2))) | go_keep))
    (first | (go_at_call 29; refine (HA.out _).mono ?_; rintro e w3 ⟨rfl, hb3⟩) | (go_at_call 28; refine (HB.out _).mono ?_; rintro e w3 ⟨rfl, rfl⟩))
  all_goals
    rename_i hH
    obtain ⟨-, -, -, -, -, -, hr3, hx3, hlt3, hw3⟩ := hH
    obtain ⟨⟨q0, q1, q2, q3, q4⟩, hf3⟩ := box_cells5 hr3
    obtain ⟨⟨x0, x1, x2, x3, x4⟩, hg3⟩ := box_cells5 hx3
    go_wp2
    exact bodyPost_ret (v := .tuple #[.agg #[.int .i64 0, .int .i64 0, .bool false, .int .i64 0, .string ⟨#[]⟩], .int .i64 y]) (by simp [results, Tryz.results8, go_sem, q0, q1, q2, q3, q4]) rfl ⟨rfl, by repeat' first | (with_reducible exact hw3) | (with_reducible refine Below.setCell ?_ ?_ _) | (with_reducible refine Below.alloc ?_ ?_ _) | (simp; done) | (simp; omega)⟩

set_option maxHeartbeats 3200000 in
theorem rcast_bad_2_lo (s n ts : Int) (l : List UInt8) (w : World) (hT : typeB 2 ts = true) (hs : s < 0) : Calls Tryz.prog 8 #[.agg #[.int .i64 3, .int .i64 s, .bool false, .int .i64 n, .string ⟨l.toArray⟩], .agg #[.int .i64 2, .int .i64 ts]] w fun e w' => e = .returned (.tuple #[.agg #[.int .i64 0, .int .i64 0, .bool false, .int .i64 0, .string ⟨#[]⟩], .int .i64 10]) ∧ Below w.heap.size w w' := by
  have HT := Lib.hid (fun W => refCheckTypeV 2 ts W hT)
  have hC : canB 3 2 = true := rfl
  have hki := kind_in hT
  have HC := Lib.hid (fun W => way_any 3 2 true hki.1 hki.2.1 hC W)
  clear hki
  clear hT hC
  go_enter Tryz.func8, Tryz.ntmps8
  go_wp2_with fail
  refine (HT.out _).mono ?_
  rintro e w1 ⟨rfl, hb⟩
  obtain ⟨hbx0, hbx1, hbx2⟩ := box3 hb
  obtain ⟨⟨z0, z1, z2, z3, z4⟩, -⟩ := box_cells5 hbx0
  obtain ⟨y0, y1⟩ := box_cells2 hbx1
  obtain ⟨⟨r0, r1, r2, r3, r4⟩, hf⟩ := box_cells5 hbx2
  have hw1 := bt (by first | exact alloc3B _ _ _ _ | exact below_drew (alloc3B _ _ _ _)) hb
  have hsc : w.heap.size + 2 < w1.heap.size := World.block_lt_of_cell? _ _ r0
  have hsb : w.heap.size + 1 < w1.heap.size := by omega
  have hsa : w.heap.size < w1.heap.size := by omega
  have hsd : w.heap.size + 1 + 1 < w1.heap.size := by omega
  clear hb
  go_wp2_with fail
  refine (HC.out _).mono ?_
  rintro e w2 ⟨rfl, rfl⟩
  go_wp2
  exact bodyPost_ret (v := .tuple #[.agg #[.int .i64 0, .int .i64 0, .bool false, .int .i64 0, .string ⟨#[]⟩], .int .i64 10]) (by simp [results, Tryz.results8, go_sem, r0, r1, r2, r3, r4, hsd]) rfl ⟨rfl, by repeat' first | (with_reducible exact hw1) | (with_reducible refine Below.setCell ?_ ?_ _) | (with_reducible refine Below.alloc ?_ ?_ _) | (simp; done) | (simp; omega)⟩

set_option maxHeartbeats 3200000 in
theorem rcast_bad_2_hi (s n ts : Int) (l : List UInt8) (w : World) (hT : typeB 2 ts = true) (hs0 : ¬ s < 0) (hs : 18 < s) : Calls Tryz.prog 8 #[.agg #[.int .i64 3, .int .i64 s, .bool false, .int .i64 n, .string ⟨l.toArray⟩], .agg #[.int .i64 2, .int .i64 ts]] w fun e w' => e = .returned (.tuple #[.agg #[.int .i64 0, .int .i64 0, .bool false, .int .i64 0, .string ⟨#[]⟩], .int .i64 10]) ∧ Below w.heap.size w w' := by
  have HT := Lib.hid (fun W => refCheckTypeV 2 ts W hT)
  have hC : canB 3 2 = true := rfl
  have hki := kind_in hT
  have HC := Lib.hid (fun W => way_any 3 2 true hki.1 hki.2.1 hC W)
  clear hki
  clear hT hC
  go_enter Tryz.func8, Tryz.ntmps8
  go_wp2_with fail
  refine (HT.out _).mono ?_
  rintro e w1 ⟨rfl, hb⟩
  obtain ⟨hbx0, hbx1, hbx2⟩ := box3 hb
  obtain ⟨⟨z0, z1, z2, z3, z4⟩, -⟩ := box_cells5 hbx0
  obtain ⟨y0, y1⟩ := box_cells2 hbx1
  obtain ⟨⟨r0, r1, r2, r3, r4⟩, hf⟩ := box_cells5 hbx2
  have hw1 := bt (by first | exact alloc3B _ _ _ _ | exact below_drew (alloc3B _ _ _ _)) hb
  have hsc : w.heap.size + 2 < w1.heap.size := World.block_lt_of_cell? _ _ r0
  have hsb : w.heap.size + 1 < w1.heap.size := by omega
  have hsa : w.heap.size < w1.heap.size := by omega
  have hsd : w.heap.size + 1 + 1 < w1.heap.size := by omega
  clear hb
  go_wp2_with fail
  refine (HC.out _).mono ?_
  rintro e w2 ⟨rfl, rfl⟩
  go_wp2
  exact bodyPost_ret (v := .tuple #[.agg #[.int .i64 0, .int .i64 0, .bool false, .int .i64 0, .string ⟨#[]⟩], .int .i64 10]) (by simp [results, Tryz.results8, go_sem, r0, r1, r2, r3, r4, hsd]) rfl ⟨rfl, by repeat' first | (with_reducible exact hw1) | (with_reducible refine Below.setCell ?_ ?_ _) | (with_reducible refine Below.alloc ?_ ?_ _) | (simp; done) | (simp; omega)⟩

set_option maxHeartbeats 3200000 in
theorem rcast_3_2_1 (s n ts x y : Int) (l : List UInt8) (w : World) (hT : typeB 2 ts = true) (hs0 : ¬ s < 0) (hs1 : ¬ 18 < s) (hx : scV n (scl 3 s : Int) ts = x) (hE : scE n (scl 3 s : Int) ts = y) (hy : y = 0) : Calls Tryz.prog 8 #[.agg #[.int .i64 3, .int .i64 s, .bool false, .int .i64 n, .string ⟨l.toArray⟩], .agg #[.int .i64 2, .int .i64 ts]] w fun e w' => e = .returned (.tuple #[.agg #[.int .i64 2, .int .i64 ts, .bool false, .int .i64 x, .string ⟨#[]⟩], .int .i64 0]) ∧ Below w.heap.size w w' := by
  have HT := Lib.hid (fun W => refCheckTypeV 2 ts W hT)
  have hC : canB 3 2 = true := rfl
  have hki := kind_in hT
  have HC := Lib.hid (fun W => way_any 3 2 true hki.1 hki.2.1 hC W)
  clear hki
  have HA := Lib.hid (fun W => refScale_any 3 s false n ⟨l.toArray⟩ W)
  have HB := Lib.hid (fun W => refScaleC_any n (scl 3 s : Int) ts W)
  rw [hx, hE] at HB
  generalize (scl 3 s : Int) = sc at *
  clear hT hC hx hE
  subst hy
  go_enter Tryz.func8, Tryz.ntmps8
  go_wp2_with fail
  refine (HT.out _).mono ?_
  rintro e w1 ⟨rfl, hb⟩
  obtain ⟨hbx0, hbx1, hbx2⟩ := box3 hb
  obtain ⟨⟨z0, z1, z2, z3, z4⟩, -⟩ := box_cells5 hbx0
  obtain ⟨y0, y1⟩ := box_cells2 hbx1
  obtain ⟨⟨r0, r1, r2, r3, r4⟩, hf⟩ := box_cells5 hbx2
  have hw1 := bt (by first | exact alloc3B _ _ _ _ | exact below_drew (alloc3B _ _ _ _)) hb
  have hsc : w.heap.size + 2 < w1.heap.size := World.block_lt_of_cell? _ _ r0
  have hsb : w.heap.size + 1 < w1.heap.size := by omega
  have hsa : w.heap.size < w1.heap.size := by omega
  have hsd : w.heap.size + 1 + 1 < w1.heap.size := by omega
  clear hb
  go_wp2_with fail
  refine (HC.out _).mono ?_
  rintro e w2 ⟨rfl, rfl⟩
  go_wp2_with fail
  have hv1 := box_next hbx0 (alloc_below w1 (.cells #[.int .i64 2, .int .i64 ts, .bool false, .int .i64 n, .string ⟨#[]⟩] 25))
  have ht1 := box_next hbx1 (alloc_below w1 (.cells #[.int .i64 2, .int .i64 ts, .bool false, .int .i64 n, .string ⟨#[]⟩] 25))
  have hr1 := box_next hbx2 (alloc_below w1 (.cells #[.int .i64 2, .int .i64 ts, .bool false, .int .i64 n, .string ⟨#[]⟩] 25))
  have hx1 := box_at w1 (.cells #[.int .i64 2, .int .i64 ts, .bool false, .int .i64 n, .string ⟨#[]⟩] 25)
  have hw2 : Below w.heap.size w (w1.alloc (.cells #[.int .i64 2, .int .i64 ts, .bool false, .int .i64 n, .string ⟨#[]⟩] 25)) := hw1.alloc (Nat.le_of_lt hsa) _
  have hsz2 : w1.heap.size < (w1.alloc (.cells #[.int .i64 2, .int .i64 ts, .bool false, .int .i64 n, .string ⟨#[]⟩] 25)).heap.size := by simp
  generalize w1.alloc (.cells #[.int .i64 2, .int .i64 ts, .bool false, .int .i64 n, .string ⟨#[]⟩] 25) = WA at *
  generalize w1.heap.size = b3 at *
  obtain ⟨⟨p0, p1, p2, p3, p4⟩, -⟩ := box_cells5 hv1
  obtain ⟨m0, m1⟩ := box_cells2 ht1
  clear hf hbx0 hbx1 hbx2 r0 r1 r2 r3 r4 y0 y1 z0 z1 z2 z3 z4 hw1 hv1
  go_region_held3 (fun w' => w'.cell? ⟨w.heap.size, 0, none⟩ = some (.int .i64 3) ∧ w'.cell? ⟨w.heap.size, 1, none⟩ = some (.int .i64 s) ∧ w'.cell? ⟨w.heap.size, 2, none⟩ = some (.bool false) ∧ w'.cell? ⟨w.heap.size, 3, none⟩ = some (.int .i64 n) ∧ w'.cell? ⟨w.heap.size, 4, none⟩ = some (.string ⟨l.toArray⟩) ∧ w'.cell? ⟨w.heap.size + 1, 1, none⟩ = some (.int .i64 ts) ∧ w'.heap[w.heap.size + 2]? = some (.cells #[.int .i64 0, .int .i64 0, .bool false, .int .i64 0, .string ⟨#[]⟩] 25) ∧ w'.heap[b3]? = some (.cells #[.int .i64 2, .int .i64 ts, .bool false, .int .i64 n, .string ⟨#[]⟩] 25) ∧ b3 < w'.heap.size ∧ Below w.heap.size w w')
    (((try go_split_ands); refine ⟨?_, ?_, ?_, ?_, ?_, ?_, ?_, ?_, ?_, ?_⟩ <;> first | assumption | (with_reducible exact below_drew hw2) | (rw [(bcell hb3).1 _ _ (by omega)]; assumption) | (have := hb3.size; omega) | (with_reducible refine box_next ?_ hb3; assumption) | (with_reducible refine bt ?_ hb3; (first | assumption | (with_reducible exact below_drew hw2))) | go_keep))
    (first | (go_at_call 29; refine (HA.out _).mono ?_; rintro e w3 ⟨rfl, hb3⟩) | (go_at_call 28; refine (HB.out _).mono ?_; rintro e w3 ⟨rfl, rfl⟩))
  all_goals
    rename_i hH
    obtain ⟨-, -, -, -, -, -, hr3, hx3, hlt3, hw3⟩ := hH
    obtain ⟨⟨q0, q1, q2, q3, q4⟩, hf3⟩ := box_cells5 hr3
    obtain ⟨⟨x0, x1, x2, x3, x4⟩, hg3⟩ := box_cells5 hx3
    go_wp2
    exact bodyPost_ret (v := .tuple #[.agg #[.int .i64 2, .int .i64 ts, .bool false, .int .i64 x, .string ⟨#[]⟩], .int .i64 0]) (by simp [results, Tryz.results8, go_sem, q0, q1, q2, q3, q4]) rfl ⟨rfl, by repeat' first | (with_reducible exact hw3) | (with_reducible refine Below.setCell ?_ ?_ _) | (with_reducible refine Below.alloc ?_ ?_ _) | (simp; done) | (simp; omega)⟩

set_option maxHeartbeats 3200000 in
theorem rcast_3_2_0 (s n ts x y : Int) (l : List UInt8) (w : World) (hT : typeB 2 ts = true) (hs0 : ¬ s < 0) (hs1 : ¬ 18 < s) (hx : scV n (scl 3 s : Int) ts = x) (hE : scE n (scl 3 s : Int) ts = y) (hy : ¬ y = 0) : Calls Tryz.prog 8 #[.agg #[.int .i64 3, .int .i64 s, .bool false, .int .i64 n, .string ⟨l.toArray⟩], .agg #[.int .i64 2, .int .i64 ts]] w fun e w' => e = .returned (.tuple #[.agg #[.int .i64 0, .int .i64 0, .bool false, .int .i64 0, .string ⟨#[]⟩], .int .i64 y]) ∧ Below w.heap.size w w' := by
  have HT := Lib.hid (fun W => refCheckTypeV 2 ts W hT)
  have hC : canB 3 2 = true := rfl
  have hki := kind_in hT
  have HC := Lib.hid (fun W => way_any 3 2 true hki.1 hki.2.1 hC W)
  clear hki
  have HA := Lib.hid (fun W => refScale_any 3 s false n ⟨l.toArray⟩ W)
  have HB := Lib.hid (fun W => refScaleC_any n (scl 3 s : Int) ts W)
  rw [hx, hE] at HB
  generalize (scl 3 s : Int) = sc at *
  clear hT hC hx hE
  go_enter Tryz.func8, Tryz.ntmps8
  go_wp2_with fail
  refine (HT.out _).mono ?_
  rintro e w1 ⟨rfl, hb⟩
  obtain ⟨hbx0, hbx1, hbx2⟩ := box3 hb
  obtain ⟨⟨z0, z1, z2, z3, z4⟩, -⟩ := box_cells5 hbx0
  obtain ⟨y0, y1⟩ := box_cells2 hbx1
  obtain ⟨⟨r0, r1, r2, r3, r4⟩, hf⟩ := box_cells5 hbx2
  have hw1 := bt (by first | exact alloc3B _ _ _ _ | exact below_drew (alloc3B _ _ _ _)) hb
  have hsc : w.heap.size + 2 < w1.heap.size := World.block_lt_of_cell? _ _ r0
  have hsb : w.heap.size + 1 < w1.heap.size := by omega
  have hsa : w.heap.size < w1.heap.size := by omega
  have hsd : w.heap.size + 1 + 1 < w1.heap.size := by omega
  clear hb
  go_wp2_with fail
  refine (HC.out _).mono ?_
  rintro e w2 ⟨rfl, rfl⟩
  go_wp2_with fail
  have hv1 := box_next hbx0 (alloc_below w1 (.cells #[.int .i64 2, .int .i64 ts, .bool false, .int .i64 n, .string ⟨#[]⟩] 25))
  have ht1 := box_next hbx1 (alloc_below w1 (.cells #[.int .i64 2, .int .i64 ts, .bool false, .int .i64 n, .string ⟨#[]⟩] 25))
  have hr1 := box_next hbx2 (alloc_below w1 (.cells #[.int .i64 2, .int .i64 ts, .bool false, .int .i64 n, .string ⟨#[]⟩] 25))
  have hx1 := box_at w1 (.cells #[.int .i64 2, .int .i64 ts, .bool false, .int .i64 n, .string ⟨#[]⟩] 25)
  have hw2 : Below w.heap.size w (w1.alloc (.cells #[.int .i64 2, .int .i64 ts, .bool false, .int .i64 n, .string ⟨#[]⟩] 25)) := hw1.alloc (Nat.le_of_lt hsa) _
  have hsz2 : w1.heap.size < (w1.alloc (.cells #[.int .i64 2, .int .i64 ts, .bool false, .int .i64 n, .string ⟨#[]⟩] 25)).heap.size := by simp
  generalize w1.alloc (.cells #[.int .i64 2, .int .i64 ts, .bool false, .int .i64 n, .string ⟨#[]⟩] 25) = WA at *
  generalize w1.heap.size = b3 at *
  obtain ⟨⟨p0, p1, p2, p3, p4⟩, -⟩ := box_cells5 hv1
  obtain ⟨m0, m1⟩ := box_cells2 ht1
  clear hf hbx0 hbx1 hbx2 r0 r1 r2 r3 r4 y0 y1 z0 z1 z2 z3 z4 hw1 hv1
  go_region_held3 (fun w' => w'.cell? ⟨w.heap.size, 0, none⟩ = some (.int .i64 3) ∧ w'.cell? ⟨w.heap.size, 1, none⟩ = some (.int .i64 s) ∧ w'.cell? ⟨w.heap.size, 2, none⟩ = some (.bool false) ∧ w'.cell? ⟨w.heap.size, 3, none⟩ = some (.int .i64 n) ∧ w'.cell? ⟨w.heap.size, 4, none⟩ = some (.string ⟨l.toArray⟩) ∧ w'.cell? ⟨w.heap.size + 1, 1, none⟩ = some (.int .i64 ts) ∧ w'.heap[w.heap.size + 2]? = some (.cells #[.int .i64 0, .int .i64 0, .bool false, .int .i64 0, .string ⟨#[]⟩] 25) ∧ w'.heap[b3]? = some (.cells #[.int .i64 2, .int .i64 ts, .bool false, .int .i64 n, .string ⟨#[]⟩] 25) ∧ b3 < w'.heap.size ∧ Below w.heap.size w w')
    (((try go_split_ands); refine ⟨?_, ?_, ?_, ?_, ?_, ?_, ?_, ?_, ?_, ?_⟩ <;> first | assumption | (with_reducible exact below_drew hw2) | (rw [(bcell hb3).1 _ _ (by omega)]; assumption) | (have := hb3.size; omega) | (with_reducible refine box_next ?_ hb3; assumption) | (with_reducible refine bt ?_ hb3; (first | assumption | (with_reducible exact below_drew hw2))) | go_keep))
    (first | (go_at_call 29; refine (HA.out _).mono ?_; rintro e w3 ⟨rfl, hb3⟩) | (go_at_call 28; refine (HB.out _).mono ?_; rintro e w3 ⟨rfl, rfl⟩))
  all_goals
    rename_i hH
    obtain ⟨-, -, -, -, -, -, hr3, hx3, hlt3, hw3⟩ := hH
    obtain ⟨⟨q0, q1, q2, q3, q4⟩, hf3⟩ := box_cells5 hr3
    obtain ⟨⟨x0, x1, x2, x3, x4⟩, hg3⟩ := box_cells5 hx3
    go_wp2
    exact bodyPost_ret (v := .tuple #[.agg #[.int .i64 0, .int .i64 0, .bool false, .int .i64 0, .string ⟨#[]⟩], .int .i64 y]) (by simp [results, Tryz.results8, go_sem, q0, q1, q2, q3, q4]) rfl ⟨rfl, by repeat' first | (with_reducible exact hw3) | (with_reducible refine Below.setCell ?_ ?_ _) | (with_reducible refine Below.alloc ?_ ?_ _) | (simp; done) | (simp; omega)⟩

set_option maxHeartbeats 3200000 in
theorem rcast_bad_3_lo (s n ts : Int) (l : List UInt8) (w : World) (hT : typeB 3 ts = true) (hs : s < 0) : Calls Tryz.prog 8 #[.agg #[.int .i64 3, .int .i64 s, .bool false, .int .i64 n, .string ⟨l.toArray⟩], .agg #[.int .i64 3, .int .i64 ts]] w fun e w' => e = .returned (.tuple #[.agg #[.int .i64 0, .int .i64 0, .bool false, .int .i64 0, .string ⟨#[]⟩], .int .i64 10]) ∧ Below w.heap.size w w' := by
  have HT := Lib.hid (fun W => refCheckTypeV 3 ts W hT)
  have hC : canB 3 3 = true := rfl
  have hki := kind_in hT
  have HC := Lib.hid (fun W => way_any 3 3 true hki.1 hki.2.1 hC W)
  clear hki
  clear hT hC
  go_enter Tryz.func8, Tryz.ntmps8
  go_wp2_with fail
  refine (HT.out _).mono ?_
  rintro e w1 ⟨rfl, hb⟩
  obtain ⟨hbx0, hbx1, hbx2⟩ := box3 hb
  obtain ⟨⟨z0, z1, z2, z3, z4⟩, -⟩ := box_cells5 hbx0
  obtain ⟨y0, y1⟩ := box_cells2 hbx1
  obtain ⟨⟨r0, r1, r2, r3, r4⟩, hf⟩ := box_cells5 hbx2
  have hw1 := bt (by first | exact alloc3B _ _ _ _ | exact below_drew (alloc3B _ _ _ _)) hb
  have hsc : w.heap.size + 2 < w1.heap.size := World.block_lt_of_cell? _ _ r0
  have hsb : w.heap.size + 1 < w1.heap.size := by omega
  have hsa : w.heap.size < w1.heap.size := by omega
  have hsd : w.heap.size + 1 + 1 < w1.heap.size := by omega
  clear hb
  go_wp2_with fail
  refine (HC.out _).mono ?_
  rintro e w2 ⟨rfl, rfl⟩
  go_wp2
  exact bodyPost_ret (v := .tuple #[.agg #[.int .i64 0, .int .i64 0, .bool false, .int .i64 0, .string ⟨#[]⟩], .int .i64 10]) (by simp [results, Tryz.results8, go_sem, r0, r1, r2, r3, r4, hsd]) rfl ⟨rfl, by repeat' first | (with_reducible exact hw1) | (with_reducible refine Below.setCell ?_ ?_ _) | (with_reducible refine Below.alloc ?_ ?_ _) | (simp; done) | (simp; omega)⟩

set_option maxHeartbeats 3200000 in
theorem rcast_bad_3_hi (s n ts : Int) (l : List UInt8) (w : World) (hT : typeB 3 ts = true) (hs0 : ¬ s < 0) (hs : 18 < s) : Calls Tryz.prog 8 #[.agg #[.int .i64 3, .int .i64 s, .bool false, .int .i64 n, .string ⟨l.toArray⟩], .agg #[.int .i64 3, .int .i64 ts]] w fun e w' => e = .returned (.tuple #[.agg #[.int .i64 0, .int .i64 0, .bool false, .int .i64 0, .string ⟨#[]⟩], .int .i64 10]) ∧ Below w.heap.size w w' := by
  have HT := Lib.hid (fun W => refCheckTypeV 3 ts W hT)
  have hC : canB 3 3 = true := rfl
  have hki := kind_in hT
  have HC := Lib.hid (fun W => way_any 3 3 true hki.1 hki.2.1 hC W)
  clear hki
  clear hT hC
  go_enter Tryz.func8, Tryz.ntmps8
  go_wp2_with fail
  refine (HT.out _).mono ?_
  rintro e w1 ⟨rfl, hb⟩
  obtain ⟨hbx0, hbx1, hbx2⟩ := box3 hb
  obtain ⟨⟨z0, z1, z2, z3, z4⟩, -⟩ := box_cells5 hbx0
  obtain ⟨y0, y1⟩ := box_cells2 hbx1
  obtain ⟨⟨r0, r1, r2, r3, r4⟩, hf⟩ := box_cells5 hbx2
  have hw1 := bt (by first | exact alloc3B _ _ _ _ | exact below_drew (alloc3B _ _ _ _)) hb
  have hsc : w.heap.size + 2 < w1.heap.size := World.block_lt_of_cell? _ _ r0
  have hsb : w.heap.size + 1 < w1.heap.size := by omega
  have hsa : w.heap.size < w1.heap.size := by omega
  have hsd : w.heap.size + 1 + 1 < w1.heap.size := by omega
  clear hb
  go_wp2_with fail
  refine (HC.out _).mono ?_
  rintro e w2 ⟨rfl, rfl⟩
  go_wp2
  exact bodyPost_ret (v := .tuple #[.agg #[.int .i64 0, .int .i64 0, .bool false, .int .i64 0, .string ⟨#[]⟩], .int .i64 10]) (by simp [results, Tryz.results8, go_sem, r0, r1, r2, r3, r4, hsd]) rfl ⟨rfl, by repeat' first | (with_reducible exact hw1) | (with_reducible refine Below.setCell ?_ ?_ _) | (with_reducible refine Below.alloc ?_ ?_ _) | (simp; done) | (simp; omega)⟩

set_option maxHeartbeats 3200000 in
theorem rcast_3_3_1 (s n ts x y : Int) (l : List UInt8) (w : World) (hT : typeB 3 ts = true) (hs0 : ¬ s < 0) (hs1 : ¬ 18 < s) (hx : scV n (scl 3 s : Int) ts = x) (hE : scE n (scl 3 s : Int) ts = y) (hy : y = 0) : Calls Tryz.prog 8 #[.agg #[.int .i64 3, .int .i64 s, .bool false, .int .i64 n, .string ⟨l.toArray⟩], .agg #[.int .i64 3, .int .i64 ts]] w fun e w' => e = .returned (.tuple #[.agg #[.int .i64 3, .int .i64 ts, .bool false, .int .i64 x, .string ⟨#[]⟩], .int .i64 0]) ∧ Below w.heap.size w w' := by
  have HT := Lib.hid (fun W => refCheckTypeV 3 ts W hT)
  have hC : canB 3 3 = true := rfl
  have hki := kind_in hT
  have HC := Lib.hid (fun W => way_any 3 3 true hki.1 hki.2.1 hC W)
  clear hki
  have HA := Lib.hid (fun W => refScale_any 3 s false n ⟨l.toArray⟩ W)
  have HB := Lib.hid (fun W => refScaleC_any n (scl 3 s : Int) ts W)
  rw [hx, hE] at HB
  generalize (scl 3 s : Int) = sc at *
  clear hT hC hx hE
  subst hy
  go_enter Tryz.func8, Tryz.ntmps8
  go_wp2_with fail
  refine (HT.out _).mono ?_
  rintro e w1 ⟨rfl, hb⟩
  obtain ⟨hbx0, hbx1, hbx2⟩ := box3 hb
  obtain ⟨⟨z0, z1, z2, z3, z4⟩, -⟩ := box_cells5 hbx0
  obtain ⟨y0, y1⟩ := box_cells2 hbx1
  obtain ⟨⟨r0, r1, r2, r3, r4⟩, hf⟩ := box_cells5 hbx2
  have hw1 := bt (by first | exact alloc3B _ _ _ _ | exact below_drew (alloc3B _ _ _ _)) hb
  have hsc : w.heap.size + 2 < w1.heap.size := World.block_lt_of_cell? _ _ r0
  have hsb : w.heap.size + 1 < w1.heap.size := by omega
  have hsa : w.heap.size < w1.heap.size := by omega
  have hsd : w.heap.size + 1 + 1 < w1.heap.size := by omega
  clear hb
  go_wp2_with fail
  refine (HC.out _).mono ?_
  rintro e w2 ⟨rfl, rfl⟩
  go_wp2_with fail
  have hv1 := box_next hbx0 (alloc_below w1 (.cells #[.int .i64 3, .int .i64 ts, .bool false, .int .i64 n, .string ⟨#[]⟩] 25))
  have ht1 := box_next hbx1 (alloc_below w1 (.cells #[.int .i64 3, .int .i64 ts, .bool false, .int .i64 n, .string ⟨#[]⟩] 25))
  have hr1 := box_next hbx2 (alloc_below w1 (.cells #[.int .i64 3, .int .i64 ts, .bool false, .int .i64 n, .string ⟨#[]⟩] 25))
  have hx1 := box_at w1 (.cells #[.int .i64 3, .int .i64 ts, .bool false, .int .i64 n, .string ⟨#[]⟩] 25)
  have hw2 : Below w.heap.size w (w1.alloc (.cells #[.int .i64 3, .int .i64 ts, .bool false, .int .i64 n, .string ⟨#[]⟩] 25)) := hw1.alloc (Nat.le_of_lt hsa) _
  have hsz2 : w1.heap.size < (w1.alloc (.cells #[.int .i64 3, .int .i64 ts, .bool false, .int .i64 n, .string ⟨#[]⟩] 25)).heap.size := by simp
  generalize w1.alloc (.cells #[.int .i64 3, .int .i64 ts, .bool false, .int .i64 n, .string ⟨#[]⟩] 25) = WA at *
  generalize w1.heap.size = b3 at *
  obtain ⟨⟨p0, p1, p2, p3, p4⟩, -⟩ := box_cells5 hv1
  obtain ⟨m0, m1⟩ := box_cells2 ht1
  clear hf hbx0 hbx1 hbx2 r0 r1 r2 r3 r4 y0 y1 z0 z1 z2 z3 z4 hw1 hv1
  go_region_held3 (fun w' => w'.cell? ⟨w.heap.size, 0, none⟩ = some (.int .i64 3) ∧ w'.cell? ⟨w.heap.size, 1, none⟩ = some (.int .i64 s) ∧ w'.cell? ⟨w.heap.size, 2, none⟩ = some (.bool false) ∧ w'.cell? ⟨w.heap.size, 3, none⟩ = some (.int .i64 n) ∧ w'.cell? ⟨w.heap.size, 4, none⟩ = some (.string ⟨l.toArray⟩) ∧ w'.cell? ⟨w.heap.size + 1, 1, none⟩ = some (.int .i64 ts) ∧ w'.heap[w.heap.size + 2]? = some (.cells #[.int .i64 0, .int .i64 0, .bool false, .int .i64 0, .string ⟨#[]⟩] 25) ∧ w'.heap[b3]? = some (.cells #[.int .i64 3, .int .i64 ts, .bool false, .int .i64 n, .string ⟨#[]⟩] 25) ∧ b3 < w'.heap.size ∧ Below w.heap.size w w')
    (((try go_split_ands); refine ⟨?_, ?_, ?_, ?_, ?_, ?_, ?_, ?_, ?_, ?_⟩ <;> first | assumption | (with_reducible exact below_drew hw2) | (rw [(bcell hb3).1 _ _ (by omega)]; assumption) | (have := hb3.size; omega) | (with_reducible refine box_next ?_ hb3; assumption) | (with_reducible refine bt ?_ hb3; (first | assumption | (with_reducible exact below_drew hw2))) | go_keep))
    (first | (go_at_call 29; refine (HA.out _).mono ?_; rintro e w3 ⟨rfl, hb3⟩) | (go_at_call 28; refine (HB.out _).mono ?_; rintro e w3 ⟨rfl, rfl⟩))
  all_goals
    rename_i hH
    obtain ⟨-, -, -, -, -, -, hr3, hx3, hlt3, hw3⟩ := hH
    obtain ⟨⟨q0, q1, q2, q3, q4⟩, hf3⟩ := box_cells5 hr3
    obtain ⟨⟨x0, x1, x2, x3, x4⟩, hg3⟩ := box_cells5 hx3
    go_wp2
    exact bodyPost_ret (v := .tuple #[.agg #[.int .i64 3, .int .i64 ts, .bool false, .int .i64 x, .string ⟨#[]⟩], .int .i64 0]) (by simp [results, Tryz.results8, go_sem, q0, q1, q2, q3, q4]) rfl ⟨rfl, by repeat' first | (with_reducible exact hw3) | (with_reducible refine Below.setCell ?_ ?_ _) | (with_reducible refine Below.alloc ?_ ?_ _) | (simp; done) | (simp; omega)⟩

set_option maxHeartbeats 3200000 in
theorem rcast_3_3_0 (s n ts x y : Int) (l : List UInt8) (w : World) (hT : typeB 3 ts = true) (hs0 : ¬ s < 0) (hs1 : ¬ 18 < s) (hx : scV n (scl 3 s : Int) ts = x) (hE : scE n (scl 3 s : Int) ts = y) (hy : ¬ y = 0) : Calls Tryz.prog 8 #[.agg #[.int .i64 3, .int .i64 s, .bool false, .int .i64 n, .string ⟨l.toArray⟩], .agg #[.int .i64 3, .int .i64 ts]] w fun e w' => e = .returned (.tuple #[.agg #[.int .i64 0, .int .i64 0, .bool false, .int .i64 0, .string ⟨#[]⟩], .int .i64 y]) ∧ Below w.heap.size w w' := by
  have HT := Lib.hid (fun W => refCheckTypeV 3 ts W hT)
  have hC : canB 3 3 = true := rfl
  have hki := kind_in hT
  have HC := Lib.hid (fun W => way_any 3 3 true hki.1 hki.2.1 hC W)
  clear hki
  have HA := Lib.hid (fun W => refScale_any 3 s false n ⟨l.toArray⟩ W)
  have HB := Lib.hid (fun W => refScaleC_any n (scl 3 s : Int) ts W)
  rw [hx, hE] at HB
  generalize (scl 3 s : Int) = sc at *
  clear hT hC hx hE
  go_enter Tryz.func8, Tryz.ntmps8
  go_wp2_with fail
  refine (HT.out _).mono ?_
  rintro e w1 ⟨rfl, hb⟩
  obtain ⟨hbx0, hbx1, hbx2⟩ := box3 hb
  obtain ⟨⟨z0, z1, z2, z3, z4⟩, -⟩ := box_cells5 hbx0
  obtain ⟨y0, y1⟩ := box_cells2 hbx1
  obtain ⟨⟨r0, r1, r2, r3, r4⟩, hf⟩ := box_cells5 hbx2
  have hw1 := bt (by first | exact alloc3B _ _ _ _ | exact below_drew (alloc3B _ _ _ _)) hb
  have hsc : w.heap.size + 2 < w1.heap.size := World.block_lt_of_cell? _ _ r0
  have hsb : w.heap.size + 1 < w1.heap.size := by omega
  have hsa : w.heap.size < w1.heap.size := by omega
  have hsd : w.heap.size + 1 + 1 < w1.heap.size := by omega
  clear hb
  go_wp2_with fail
  refine (HC.out _).mono ?_
  rintro e w2 ⟨rfl, rfl⟩
  go_wp2_with fail
  have hv1 := box_next hbx0 (alloc_below w1 (.cells #[.int .i64 3, .int .i64 ts, .bool false, .int .i64 n, .string ⟨#[]⟩] 25))
  have ht1 := box_next hbx1 (alloc_below w1 (.cells #[.int .i64 3, .int .i64 ts, .bool false, .int .i64 n, .string ⟨#[]⟩] 25))
  have hr1 := box_next hbx2 (alloc_below w1 (.cells #[.int .i64 3, .int .i64 ts, .bool false, .int .i64 n, .string ⟨#[]⟩] 25))
  have hx1 := box_at w1 (.cells #[.int .i64 3, .int .i64 ts, .bool false, .int .i64 n, .string ⟨#[]⟩] 25)
  have hw2 : Below w.heap.size w (w1.alloc (.cells #[.int .i64 3, .int .i64 ts, .bool false, .int .i64 n, .string ⟨#[]⟩] 25)) := hw1.alloc (Nat.le_of_lt hsa) _
  have hsz2 : w1.heap.size < (w1.alloc (.cells #[.int .i64 3, .int .i64 ts, .bool false, .int .i64 n, .string ⟨#[]⟩] 25)).heap.size := by simp
  generalize w1.alloc (.cells #[.int .i64 3, .int .i64 ts, .bool false, .int .i64 n, .string ⟨#[]⟩] 25) = WA at *
  generalize w1.heap.size = b3 at *
  obtain ⟨⟨p0, p1, p2, p3, p4⟩, -⟩ := box_cells5 hv1
  obtain ⟨m0, m1⟩ := box_cells2 ht1
  clear hf hbx0 hbx1 hbx2 r0 r1 r2 r3 r4 y0 y1 z0 z1 z2 z3 z4 hw1 hv1
  go_region_held3 (fun w' => w'.cell? ⟨w.heap.size, 0, none⟩ = some (.int .i64 3) ∧ w'.cell? ⟨w.heap.size, 1, none⟩ = some (.int .i64 s) ∧ w'.cell? ⟨w.heap.size, 2, none⟩ = some (.bool false) ∧ w'.cell? ⟨w.heap.size, 3, none⟩ = some (.int .i64 n) ∧ w'.cell? ⟨w.heap.size, 4, none⟩ = some (.string ⟨l.toArray⟩) ∧ w'.cell? ⟨w.heap.size + 1, 1, none⟩ = some (.int .i64 ts) ∧ w'.heap[w.heap.size + 2]? = some (.cells #[.int .i64 0, .int .i64 0, .bool false, .int .i64 0, .string ⟨#[]⟩] 25) ∧ w'.heap[b3]? = some (.cells #[.int .i64 3, .int .i64 ts, .bool false, .int .i64 n, .string ⟨#[]⟩] 25) ∧ b3 < w'.heap.size ∧ Below w.heap.size w w')
    (((try go_split_ands); refine ⟨?_, ?_, ?_, ?_, ?_, ?_, ?_, ?_, ?_, ?_⟩ <;> first | assumption | (with_reducible exact below_drew hw2) | (rw [(bcell hb3).1 _ _ (by omega)]; assumption) | (have := hb3.size; omega) | (with_reducible refine box_next ?_ hb3; assumption) | (with_reducible refine bt ?_ hb3; (first | assumption | (with_reducible exact below_drew hw2))) | go_keep))
    (first | (go_at_call 29; refine (HA.out _).mono ?_; rintro e w3 ⟨rfl, hb3⟩) | (go_at_call 28; refine (HB.out _).mono ?_; rintro e w3 ⟨rfl, rfl⟩))
  all_goals
    rename_i hH
    obtain ⟨-, -, -, -, -, -, hr3, hx3, hlt3, hw3⟩ := hH
    obtain ⟨⟨q0, q1, q2, q3, q4⟩, hf3⟩ := box_cells5 hr3
    obtain ⟨⟨x0, x1, x2, x3, x4⟩, hg3⟩ := box_cells5 hx3
    go_wp2
    exact bodyPost_ret (v := .tuple #[.agg #[.int .i64 0, .int .i64 0, .bool false, .int .i64 0, .string ⟨#[]⟩], .int .i64 y]) (by simp [results, Tryz.results8, go_sem, q0, q1, q2, q3, q4]) rfl ⟨rfl, by repeat' first | (with_reducible exact hw3) | (with_reducible refine Below.setCell ?_ ?_ _) | (with_reducible refine Below.alloc ?_ ?_ _) | (simp; done) | (simp; omega)⟩
end Go.Proofs.YtogdkhnakenbcaaGreatDoor
