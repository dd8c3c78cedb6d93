/-
  Casts: the program's Cast.
-/
import Derived.Test.YtogdkhnakenbcaaGreatDoorVCast4
namespace Go.Proofs.YtogdkhnakenbcaaGreatDoor
open Go.ChangeShapes Go.WideShapes Go.ChangeAt Go.RowKit
set_option linter.unusedVariables false

theorem alloc3B (w : World) (a b c : Obj) : Below w.heap.size w (((w.alloc a).alloc b).alloc c) := (alloc2B w a b).alloc (by simp; omega) c
theorem box_at (w : World) (o : Obj) : (w.alloc o).heap[w.heap.size]? = some o := Array.getElem?_push_size
theorem box_next {w w' : World} {b : Nat} {o : Obj} (h : w.heap[b]? = some o) (hb : Below w.heap.size w w') : w'.heap[b]? = some o := (hb.block b (Array.getElem?_eq_some_iff.1 h).1).trans h
theorem box3 {w w1 : World} {a b c : Obj} (hb : Below (((w.alloc a).alloc b).alloc c).heap.size (((w.alloc a).alloc b).alloc c) w1) : w1.heap[w.heap.size]? = some a ∧ w1.heap[w.heap.size + 1]? = some b ∧ w1.heap[w.heap.size + 2]? = some c := by
  have e1 : (w.alloc a).heap.size = w.heap.size + 1 := by simp
  have e2 : ((w.alloc a).alloc b).heap.size = w.heap.size + 2 := by simp
  refine ⟨box_next (box_next (box_next (box_at w a) (alloc_below _ _)) (alloc_below _ _)) hb, ?_, ?_⟩
  · have h := box_next (box_next (box_at (w.alloc a) b) (alloc_below _ _)) hb
    rwa [e1] at h
  · have h := box_next (box_at ((w.alloc a).alloc b) c) hb
    rwa [e2] at h
theorem box_cells5 {w : World} {b : Nat} {a0 a1 a2 a3 a4 : Value} {t : TypeId} (hb : w.heap[b]? = some (.cells #[a0, a1, a2, a3, a4] t (0, 0))) : (w.cell? ⟨b, 0, none⟩ = some a0 ∧ w.cell? ⟨b, 1, none⟩ = some a1 ∧ w.cell? ⟨b, 2, none⟩ = some a2 ∧ w.cell? ⟨b, 3, none⟩ = some a3 ∧ w.cell? ⟨b, 4, none⟩ = some a4) ∧ ∀ o, w.frozen? ⟨b, o, none⟩ = false := by
  refine ⟨?_, fun o => ?_⟩
  · unfold World.cell?
    simp [hb]
  · unfold World.frozen?
    simp [hb]
theorem box_cells2 {w : World} {b : Nat} {a0 a1 : Value} {t : TypeId} (hb : w.heap[b]? = some (.cells #[a0, a1] t (0, 0))) : w.cell? ⟨b, 0, none⟩ = some a0 ∧ w.cell? ⟨b, 1, none⟩ = some a1 := by
  unfold World.cell?
  simp [hb]
set_option maxHeartbeats 3200000 in
theorem castText_k (k : Int) (l T : List UInt8) (s n ts : Int) (w : World) (h4 : ¬ k = 4) (HS : ∀ W, Below w.heap.size w W → Calls Tryz.prog 10 #[.agg #[.int .i64 k, .int .i64 s, .bool false, .int .i64 n, .string ⟨l.toArray⟩]] W fun e w' => e = .returned (.string ⟨T.toArray⟩) ∧ Below W.heap.size W w') : Calls Tryz.prog 21 #[.agg #[.int .i64 k, .int .i64 s, .bool false, .int .i64 n, .string ⟨l.toArray⟩], .agg #[.int .i64 4, .int .i64 ts]] w fun e w' => e = .returned (if tooLong T then .tuple #[.agg #[.int .i64 0, .int .i64 0, .bool false, .int .i64 0, .string ⟨#[]⟩], .int .i64 10] else .tuple #[.agg #[.int .i64 4, .int .i64 ts, .bool false, .int .i64 0, .string ⟨T.toArray⟩], .int .i64 0]) ∧ Below w.heap.size w w' := by
  have H := Lib.hid HS
  have e4 : (k == 4) = false := by simpa using h4
  clear HS h4
  cases h : tooLong T
  · have hx : ¬ (256 : Int) < (T.length : Int) := by simp [tooLong] at h; omega
    clear h
    go_enter Tryz.func21, Tryz.ntmps21
    go_wp2_with fail
    refine (H.out _ (by first | exact alloc3B _ _ _ _ | exact below_drew (alloc3B _ _ _ _))).mono ?_
    rintro e w1 ⟨rfl, hb⟩
    obtain ⟨-, hbx1, hbx2⟩ := box3 hb
    obtain ⟨y0, y1⟩ := box_cells2 hbx1
    obtain ⟨⟨r0, r1, r2, r3, r4⟩, hf⟩ := box_cells5 hbx2
    clear hbx1 hbx2
    have hB1 := bt (by first | exact alloc3B _ _ _ _ | exact below_drew (alloc3B _ _ _ _)) hb
    clear hb
    go_wp2
    exact bodyPost_ret (v := .tuple #[.agg #[.int .i64 4, .int .i64 ts, .bool false, .int .i64 0, .string ⟨T.toArray⟩], .int .i64 0]) (by simp [results, Tryz.results21, go_sem, r0, r1, r2, r3, r4]) rfl ⟨rfl, by first | exact hB1 | (repeat' first | exact hB1 | (refine Below.setCell ?_ (by have := hB1.size; simp; omega) _) | (refine Below.alloc ?_ (by have := hB1.size; simp; omega) _)) | (trace_state; fail)⟩
  · have hx : (256 : Int) < (T.length : Int) := by simp [tooLong] at h; omega
    clear h
    go_enter Tryz.func21, Tryz.ntmps21
    go_wp2_with fail
    refine (H.out _ (by first | exact alloc3B _ _ _ _ | exact below_drew (alloc3B _ _ _ _))).mono ?_
    rintro e w1 ⟨rfl, hb⟩
    obtain ⟨-, -, hbx2⟩ := box3 hb
    obtain ⟨⟨r0, r1, r2, r3, r4⟩, hf⟩ := box_cells5 hbx2
    clear hbx2
    have hB1 := bt (by first | exact alloc3B _ _ _ _ | exact below_drew (alloc3B _ _ _ _)) hb
    clear hb
    go_wp2
    exact bodyPost_ret (v := .tuple #[.agg #[.int .i64 0, .int .i64 0, .bool false, .int .i64 0, .string ⟨#[]⟩], .int .i64 10]) (by simp [results, Tryz.results21, go_sem, r0, r1, r2, r3, r4]) rfl ⟨rfl, by first | exact hB1 | (repeat' first | exact hB1 | (refine Below.setCell ?_ (by have := hB1.size; simp; omega) _) | (refine Below.alloc ?_ (by have := hB1.size; simp; omega) _)) | (trace_state; fail)⟩

theorem castNum_any (k : Int) (l : List UInt8) (s n tk ts : Int) (w : World) (hc : canB k tk = true) (ht : tk = 1 ∨ tk = 2 ∨ tk = 3 ∨ tk = 5) (hl : l.length ≤ 140737488355328) (hV : VRange w) (hM : MLaid w) : Calls Tryz.prog 22 #[.agg #[.int .i64 k, .int .i64 s, .bool false, .int .i64 n, .string ⟨l.toArray⟩], .agg #[.int .i64 tk, .int .i64 ts]] w fun e w' => e = .returned (.tuple #[.int .i64 (cnV ⟨k, s, false, n, ⟨l.toArray⟩⟩ tk ts), .int .i64 (cnE ⟨k, s, false, n, ⟨l.toArray⟩⟩ tk ts)]) ∧ Below w.heap.size w w' := by
  by_cases h4 : k = 4
  · subst h4
    rcases ht with rfl | rfl | rfl | rfl
    · exact castNum_4_1 l s n ts w hl hV hM
    · exact castNum_4_2 l s n ts w hl hV hM
    · exact castNum_4_3 l s n ts w hl hV hM
    · exact castNum_4_5 l s n ts w hl hV hM
  · by_cases h2 : k = 2
    · subst h2
      rcases ht with rfl | rfl | rfl | rfl
      · exact absurd hc (by decide)
      · exact castNum_2_2 l s n ts w
      · exact castNum_2_3 l s n ts w
      · exact absurd hc (by decide)
    · by_cases h3 : k = 3
      · subst h3
        rcases ht with rfl | rfl | rfl | rfl
        · exact absurd hc (by decide)
        · exact castNum_3_2 l s n ts w
        · exact castNum_3_3 l s n ts w
        · exact absurd hc (by decide)
      · have h23 : ¬ (k = 2 ∨ k = 3) := by omega
        unfold canB at hc
        rw [if_neg h4, if_neg h23] at hc
        by_cases h15 : k = 1 ∨ k = 5
        · rw [if_pos h15] at hc
          have : tk = k := by simp at hc; omega
          subst this
          rcases h15 with rfl | rfl
          · exact castNum_1_1 l s n ts w
          · exact castNum_5_5 l s n ts w
        · rw [if_neg h15] at hc
          cases hc
theorem mkNoneC (k s : Int) (w : World) : Calls Tryz.prog 20 #[.agg #[.int .i64 k, .int .i64 s]] w fun e w' => e = .returned (.agg #[.int .i64 k, .int .i64 s, .bool true, .int .i64 0, .string ⟨#[]⟩]) ∧ Below w.heap.size w w' := by
  go_enter Tryz.func20, Tryz.ntmps20
  go_wp2
  exact bodyPost_ret (v := .agg #[.int .i64 k, .int .i64 s, .bool true, .int .i64 0, .string ⟨#[]⟩]) (by simp [results, Tryz.results20, go_sem]) rfl ⟨rfl, by first | exact alloc_below _ _ | exact alloc2_below _ _ _ | exact ((Below.refl _ _).alloc (Nat.le_refl _) _).setCell (by simp) _ | exact (alloc2_below _ _ _).setCell (by simp) _⟩
theorem refNoneC (k s : Int) (w : World) : Calls Tryz.prog 25 #[.agg #[.int .i64 k, .int .i64 s]] w fun e w' => e = .returned (.agg #[.int .i64 k, .int .i64 s, .bool true, .int .i64 0, .string ⟨#[]⟩]) ∧ Below w.heap.size w w' := by
  go_enter Tryz.func25, Tryz.ntmps25
  go_wp2
  exact bodyPost_ret (v := .agg #[.int .i64 k, .int .i64 s, .bool true, .int .i64 0, .string ⟨#[]⟩]) (by simp [results, Tryz.results25, go_sem]) rfl ⟨rfl, by first | exact alloc_below _ _ | exact alloc2_below _ _ _ | exact ((Below.refl _ _).alloc (Nat.le_refl _) _).setCell (by simp) _ | exact (alloc2_below _ _ _).setCell (by simp) _⟩

/-- What a value is as one of another type, and the error. -/
def zr : VR := ⟨0, 0, false, 0, ⟨#[]⟩⟩
def castO (v : VR) (tk ts : Int) (L : List UInt8) : VR × Int :=
  if typeB tk ts = false then (zr, 21) else if canB v.k tk = false then (zr, 21) else if v.nl then (⟨tk, ts, true, 0, ⟨#[]⟩⟩, 0)
  else if tk = 4 then (if tooLong (txL v L) then (zr, 10) else (⟨4, ts, false, 0, ⟨(txL v L).toArray⟩⟩, 0))
  else if cnE v tk ts = 0 then (⟨tk, ts, false, cnV v tk ts, ⟨#[]⟩⟩, 0) else (zr, cnE v tk ts)
def outV (o : VR × Int) : Value := .tuple #[.agg #[.int .i64 o.1.k, .int .i64 o.1.s, .bool o.1.nl, .int .i64 o.1.n, .string o.1.t], .int .i64 o.2]
theorem ret_out {o : VR × Int} {a b : VR × Int} (h : o = a) : Ending.returned (outV a) = Ending.returned (outV o) := by rw [h]

set_option maxHeartbeats 3200000 in
theorem cast_bad (k s n tk ts : Int) (nl : Bool) (l : List UInt8) (w : World) (htk : In64 tk) (hT : typeB tk ts = false) : Calls Tryz.prog 7 #[.agg #[.int .i64 k, .int .i64 s, .bool nl, .int .i64 n, .string ⟨l.toArray⟩], .agg #[.int .i64 tk, .int .i64 ts]] w fun e w' => e = .returned (.tuple #[.agg #[.int .i64 0, .int .i64 0, .bool false, .int .i64 0, .string ⟨#[]⟩], .int .i64 21]) ∧ Below w.heap.size w w' := by
  have HT := Lib.hid (fun W => checkTypeV tk ts W htk hT)
  clear hT
  go_enter Tryz.func7, Tryz.ntmps7
  go_wp2_with fail
  refine (HT.out _).mono ?_
  rintro e w1 ⟨rfl, hb⟩
  obtain ⟨hbx0, hbx1, hbx2⟩ := box3 hb
  obtain ⟨⟨z0, z1, z2, z3, z4⟩, -⟩ := box_cells5 hbx0
  obtain ⟨y0, y1⟩ := box_cells2 hbx1
  obtain ⟨⟨r0, r1, r2, r3, r4⟩, hf⟩ := box_cells5 hbx2
  have hw1 := bt (by first | exact alloc3B _ _ _ _ | exact below_drew (alloc3B _ _ _ _)) hb
  have hlt1 : w.heap.size + 1 < w1.heap.size := World.block_lt_of_cell? _ _ y0
  clear hb
  go_wp2
  exact bodyPost_ret (v := .tuple #[.agg #[.int .i64 0, .int .i64 0, .bool false, .int .i64 0, .string ⟨#[]⟩], .int .i64 21]) (by simp [results, Tryz.results7, go_sem, r0, r1, r2, r3, r4]) rfl ⟨rfl, by first | exact hw1 | (repeat' first | exact hw1 | (refine Below.setCell ?_ (by have := hw1.size; simp; omega) _) | (refine Below.alloc ?_ (by have := hw1.size; simp; omega) _)) | (trace_state; fail)⟩

set_option maxHeartbeats 3200000 in
theorem cast_noway (k s n tk ts : Int) (nl : Bool) (l : List UInt8) (w : World) (htk : In64 tk) (hT : typeB tk ts = true) (hC : canB k tk = false) : Calls Tryz.prog 7 #[.agg #[.int .i64 k, .int .i64 s, .bool nl, .int .i64 n, .string ⟨l.toArray⟩], .agg #[.int .i64 tk, .int .i64 ts]] w fun e w' => e = .returned (.tuple #[.agg #[.int .i64 0, .int .i64 0, .bool false, .int .i64 0, .string ⟨#[]⟩], .int .i64 21]) ∧ Below w.heap.size w w' := by
  have HT := Lib.hid (fun W => checkTypeV tk ts W htk hT)
  have HC := Lib.hid (fun W => castable_any k tk false hC W)
  clear hT hC
  go_enter Tryz.func7, Tryz.ntmps7
  go_wp2_with fail
  refine (HT.out _).mono ?_
  rintro e w1 ⟨rfl, hb⟩
  obtain ⟨hbx0, hbx1, hbx2⟩ := box3 hb
  obtain ⟨⟨z0, z1, z2, z3, z4⟩, -⟩ := box_cells5 hbx0
  obtain ⟨y0, y1⟩ := box_cells2 hbx1
  obtain ⟨⟨r0, r1, r2, r3, r4⟩, hf⟩ := box_cells5 hbx2
  have hw1 := bt (by first | exact alloc3B _ _ _ _ | exact below_drew (alloc3B _ _ _ _)) hb
  have hlt1 : w.heap.size + 1 < w1.heap.size := World.block_lt_of_cell? _ _ y0
  clear hb
  go_wp2_with fail
  refine (HC.out _).mono ?_
  rintro e w2 ⟨rfl, rfl⟩
  go_wp2
  exact bodyPost_ret (v := .tuple #[.agg #[.int .i64 0, .int .i64 0, .bool false, .int .i64 0, .string ⟨#[]⟩], .int .i64 21]) (by simp [results, Tryz.results7, go_sem, r0, r1, r2, r3, r4]) rfl ⟨rfl, by first | exact hw1 | (repeat' first | exact hw1 | (refine Below.setCell ?_ (by have := hw1.size; simp; omega) _) | (refine Below.alloc ?_ (by have := hw1.size; simp; omega) _)) | (trace_state; fail)⟩

set_option maxHeartbeats 3200000 in
theorem cast_null (k s n tk ts : Int) (nl : Bool) (l : List UInt8) (w : World) (htk : In64 tk) (hT : typeB tk ts = true) (hC : canB k tk = true) : Calls Tryz.prog 7 #[.agg #[.int .i64 k, .int .i64 s, .bool true, .int .i64 n, .string ⟨l.toArray⟩], .agg #[.int .i64 tk, .int .i64 ts]] w fun e w' => e = .returned (.tuple #[.agg #[.int .i64 tk, .int .i64 ts, .bool true, .int .i64 0, .string ⟨#[]⟩], .int .i64 0]) ∧ Below w.heap.size w w' := by
  have HT := Lib.hid (fun W => checkTypeV tk ts W htk hT)
  have HC := Lib.hid (fun W => castable_any k tk true hC W)
  clear hT hC
  go_enter Tryz.func7, Tryz.ntmps7
  go_wp2_with fail
  refine (HT.out _).mono ?_
  rintro e w1 ⟨rfl, hb⟩
  obtain ⟨hbx0, hbx1, hbx2⟩ := box3 hb
  obtain ⟨⟨z0, z1, z2, z3, z4⟩, -⟩ := box_cells5 hbx0
  obtain ⟨y0, y1⟩ := box_cells2 hbx1
  obtain ⟨⟨r0, r1, r2, r3, r4⟩, hf⟩ := box_cells5 hbx2
  have hw1 := bt (by first | exact alloc3B _ _ _ _ | exact below_drew (alloc3B _ _ _ _)) hb
  have hlt1 : w.heap.size + 1 < w1.heap.size := World.block_lt_of_cell? _ _ y0
  clear hb
  go_wp2_with fail
  refine (HC.out _).mono ?_
  rintro e w2 ⟨rfl, rfl⟩
  go_wp2_with fail
  refine (mkNoneC tk ts _).mono ?_
  rintro e w3 ⟨rfl, hb3⟩
  obtain ⟨⟨q0, q1, q2, q3, q4⟩, hf3⟩ := box_cells5 (box_next hbx2 hb3)
  have hw3 := bt hw1 hb3
  go_wp2
  exact bodyPost_ret (v := .tuple #[.agg #[.int .i64 tk, .int .i64 ts, .bool true, .int .i64 0, .string ⟨#[]⟩], .int .i64 0]) (by simp [results, Tryz.results7, go_sem, q0, q1, q2, q3, q4]) rfl ⟨rfl, by first | exact hw3 | (repeat' first | exact hw3 | (refine Below.setCell ?_ (by have := hw3.size; simp; omega) _) | (refine Below.alloc ?_ (by have := hw3.size; simp; omega) _)) | (trace_state; fail)⟩

set_option maxHeartbeats 3200000 in
theorem cast_text (k s n ts : Int) (l : List UInt8) (w : World) (hT : typeB 4 ts = true) (hC : canB k 4 = true) (T : List UInt8) (HX : ∀ W, Below w.heap.size w W → Calls Tryz.prog 21 #[.agg #[.int .i64 k, .int .i64 s, .bool false, .int .i64 n, .string ⟨l.toArray⟩], .agg #[.int .i64 4, .int .i64 ts]] W fun e w' => e = .returned (if tooLong T then .tuple #[.agg #[.int .i64 0, .int .i64 0, .bool false, .int .i64 0, .string ⟨#[]⟩], .int .i64 10] else .tuple #[.agg #[.int .i64 4, .int .i64 ts, .bool false, .int .i64 0, .string ⟨T.toArray⟩], .int .i64 0]) ∧ Below W.heap.size W w') : Calls Tryz.prog 7 #[.agg #[.int .i64 k, .int .i64 s, .bool false, .int .i64 n, .string ⟨l.toArray⟩], .agg #[.int .i64 4, .int .i64 ts]] w fun e w' => e = .returned (if tooLong T then .tuple #[.agg #[.int .i64 0, .int .i64 0, .bool false, .int .i64 0, .string ⟨#[]⟩], .int .i64 10] else .tuple #[.agg #[.int .i64 4, .int .i64 ts, .bool false, .int .i64 0, .string ⟨T.toArray⟩], .int .i64 0]) ∧ Below w.heap.size w w' := by
  have HT := Lib.hid (fun W => checkTypeV 4 ts W (by unfold In64; omega) hT)
  have HC := Lib.hid (fun W => castable_any k 4 true hC W)
  have HX := Lib.hid HX
  clear hT hC
  cases hTT : tooLong T
  · rw [hTT] at HX
    simp only [Bool.false_eq_true, if_false] at HX
    go_enter Tryz.func7, Tryz.ntmps7
    go_wp2_with fail
    refine (HT.out _).mono ?_
    rintro e w1 ⟨rfl, hb⟩
    obtain ⟨hbx0, hbx1, hbx2⟩ := box3 hb
    obtain ⟨⟨z0, z1, z2, z3, z4⟩, -⟩ := box_cells5 hbx0
    obtain ⟨y0, y1⟩ := box_cells2 hbx1
    obtain ⟨⟨r0, r1, r2, r3, r4⟩, hf⟩ := box_cells5 hbx2
    have hw1 := bt (by first | exact alloc3B _ _ _ _ | exact below_drew (alloc3B _ _ _ _)) hb
    have hlt1 : w.heap.size + 1 < w1.heap.size := World.block_lt_of_cell? _ _ y0
    clear hb
    go_wp2_with fail
    refine (HC.out _).mono ?_
    rintro e w2 ⟨rfl, rfl⟩
    go_wp2_with fail
    refine (HX.out _ hw1).mono ?_
    rintro e w3 ⟨rfl, hb3⟩
    obtain ⟨⟨q0, q1, q2, q3, q4⟩, hf3⟩ := box_cells5 (box_next hbx2 hb3)
    have hw3 := bt hw1 hb3
    go_wp2
    exact bodyPost_ret (v := .tuple #[.agg #[.int .i64 4, .int .i64 ts, .bool false, .int .i64 0, .string ⟨T.toArray⟩], .int .i64 0]) (by simp [results, Tryz.results7, go_sem, q0, q1, q2, q3, q4]) rfl ⟨rfl, by first | exact hw3 | (repeat' first | exact hw3 | (refine Below.setCell ?_ (by have := hw3.size; simp; omega) _) | (refine Below.alloc ?_ (by have := hw3.size; simp; omega) _)) | (trace_state; fail)⟩
  · rw [hTT] at HX
    simp only [if_true] at HX
    go_enter Tryz.func7, Tryz.ntmps7
    go_wp2_with fail
    refine (HT.out _).mono ?_
    rintro e w1 ⟨rfl, hb⟩
    obtain ⟨hbx0, hbx1, hbx2⟩ := box3 hb
    obtain ⟨⟨z0, z1, z2, z3, z4⟩, -⟩ := box_cells5 hbx0
    obtain ⟨y0, y1⟩ := box_cells2 hbx1
    obtain ⟨⟨r0, r1, r2, r3, r4⟩, hf⟩ := box_cells5 hbx2
    have hw1 := bt (by first | exact alloc3B _ _ _ _ | exact below_drew (alloc3B _ _ _ _)) hb
    have hlt1 : w.heap.size + 1 < w1.heap.size := World.block_lt_of_cell? _ _ y0
    clear hb
    go_wp2_with fail
    refine (HC.out _).mono ?_
    rintro e w2 ⟨rfl, rfl⟩
    go_wp2_with fail
    refine (HX.out _ hw1).mono ?_
    rintro e w3 ⟨rfl, hb3⟩
    obtain ⟨⟨q0, q1, q2, q3, q4⟩, hf3⟩ := box_cells5 (box_next hbx2 hb3)
    have hw3 := bt hw1 hb3
    go_wp2
    exact bodyPost_ret (v := .tuple #[.agg #[.int .i64 0, .int .i64 0, .bool false, .int .i64 0, .string ⟨#[]⟩], .int .i64 10]) (by simp [results, Tryz.results7, go_sem, q0, q1, q2, q3, q4]) rfl ⟨rfl, by first | exact hw3 | (repeat' first | exact hw3 | (refine Below.setCell ?_ (by have := hw3.size; simp; omega) _) | (refine Below.alloc ?_ (by have := hw3.size; simp; omega) _)) | (trace_state; fail)⟩

set_option maxHeartbeats 3200000 in
theorem cast_num (k s n tk ts : Int) (nl : Bool) (l : List UInt8) (w : World) (htk : In64 tk) (hT : typeB tk ts = true) (hC : canB k tk = true) (h4 : ¬ tk = 4) (x y : Int) (HX : ∀ W, Below w.heap.size w W → Calls Tryz.prog 22 #[.agg #[.int .i64 k, .int .i64 s, .bool false, .int .i64 n, .string ⟨l.toArray⟩], .agg #[.int .i64 tk, .int .i64 ts]] W fun e w' => e = .returned (.tuple #[.int .i64 x, .int .i64 y]) ∧ Below W.heap.size W w') (hy : y = 0) : Calls Tryz.prog 7 #[.agg #[.int .i64 k, .int .i64 s, .bool false, .int .i64 n, .string ⟨l.toArray⟩], .agg #[.int .i64 tk, .int .i64 ts]] w fun e w' => e = .returned (.tuple #[.agg #[.int .i64 tk, .int .i64 ts, .bool false, .int .i64 x, .string ⟨#[]⟩], .int .i64 0]) ∧ Below w.heap.size w w' := by
  have HT := Lib.hid (fun W => checkTypeV tk ts W htk hT)
  have HC := Lib.hid (fun W => castable_any k tk true hC W)
  have HX := Lib.hid HX
  have e4 : (tk == 4) = false := by simpa using h4
  clear hT hC
  subst hy
  go_enter Tryz.func7, Tryz.ntmps7
  go_wp2_with fail
  refine (HT.out _).mono ?_
  rintro e w1 ⟨rfl, hb⟩
  obtain ⟨hbx0, hbx1, hbx2⟩ := box3 hb
  obtain ⟨⟨z0, z1, z2, z3, z4⟩, -⟩ := box_cells5 hbx0
  obtain ⟨y0, y1⟩ := box_cells2 hbx1
  obtain ⟨⟨r0, r1, r2, r3, r4⟩, hf⟩ := box_cells5 hbx2
  have hw1 := bt (by first | exact alloc3B _ _ _ _ | exact below_drew (alloc3B _ _ _ _)) hb
  have hlt1 : w.heap.size + 1 < w1.heap.size := World.block_lt_of_cell? _ _ y0
  clear hb
  go_wp2_with fail
  refine (HC.out _).mono ?_
  rintro e w2 ⟨rfl, rfl⟩
  go_wp2_with fail
  refine (HX.out _ hw1).mono ?_
  rintro e w3 ⟨rfl, hb3⟩
  obtain ⟨x0, x1⟩ := box_cells2 (box_next hbx1 hb3)
  obtain ⟨⟨q0, q1, q2, q3, q4⟩, hf3⟩ := box_cells5 (box_next hbx2 hb3)
  have hw3 := bt hw1 hb3
  clear hb3
  go_wp2
  exact bodyPost_ret (v := .tuple #[.agg #[.int .i64 tk, .int .i64 ts, .bool false, .int .i64 x, .string ⟨#[]⟩], .int .i64 0]) (by simp [results, Tryz.results7, go_sem, q0, q1, q2, q3, q4]) rfl ⟨rfl, by first | exact hw3 | (repeat' first | exact hw3 | (refine Below.setCell ?_ (by have := hw3.size; simp; omega) _) | (refine Below.alloc ?_ (by have := hw3.size; simp; omega) _)) | (trace_state; fail)⟩

set_option maxHeartbeats 3200000 in
theorem cast_err (k s n tk ts : Int) (nl : Bool) (l : List UInt8) (w : World) (htk : In64 tk) (hT : typeB tk ts = true) (hC : canB k tk = true) (h4 : ¬ tk = 4) (x y : Int) (HX : ∀ W, Below w.heap.size w W → Calls Tryz.prog 22 #[.agg #[.int .i64 k, .int .i64 s, .bool false, .int .i64 n, .string ⟨l.toArray⟩], .agg #[.int .i64 tk, .int .i64 ts]] W fun e w' => e = .returned (.tuple #[.int .i64 x, .int .i64 y]) ∧ Below W.heap.size W w') (hy : ¬ y = 0) : Calls Tryz.prog 7 #[.agg #[.int .i64 k, .int .i64 s, .bool false, .int .i64 n, .string ⟨l.toArray⟩], .agg #[.int .i64 tk, .int .i64 ts]] w fun e w' => e = .returned (.tuple #[.agg #[.int .i64 0, .int .i64 0, .bool false, .int .i64 0, .string ⟨#[]⟩], .int .i64 y]) ∧ Below w.heap.size w w' := by
  have HT := Lib.hid (fun W => checkTypeV tk ts W htk hT)
  have HC := Lib.hid (fun W => castable_any k tk true hC W)
  have HX := Lib.hid HX
  have e4 : (tk == 4) = false := by simpa using h4
  clear hT hC
  go_enter Tryz.func7, Tryz.ntmps7
  go_wp2_with fail
  refine (HT.out _).mono ?_
  rintro e w1 ⟨rfl, hb⟩
  obtain ⟨hbx0, hbx1, hbx2⟩ := box3 hb
  obtain ⟨⟨z0, z1, z2, z3, z4⟩, -⟩ := box_cells5 hbx0
  obtain ⟨y0, y1⟩ := box_cells2 hbx1
  obtain ⟨⟨r0, r1, r2, r3, r4⟩, hf⟩ := box_cells5 hbx2
  have hw1 := bt (by first | exact alloc3B _ _ _ _ | exact below_drew (alloc3B _ _ _ _)) hb
  have hlt1 : w.heap.size + 1 < w1.heap.size := World.block_lt_of_cell? _ _ y0
  clear hb
  go_wp2_with fail
  refine (HC.out _).mono ?_
  rintro e w2 ⟨rfl, rfl⟩
  go_wp2_with fail
  refine (HX.out _ hw1).mono ?_
  rintro e w3 ⟨rfl, hb3⟩
  obtain ⟨x0, x1⟩ := box_cells2 (box_next hbx1 hb3)
  obtain ⟨⟨q0, q1, q2, q3, q4⟩, hf3⟩ := box_cells5 (box_next hbx2 hb3)
  have hw3 := bt hw1 hb3
  clear hb3
  go_wp2
  exact bodyPost_ret (v := .tuple #[.agg #[.int .i64 0, .int .i64 0, .bool false, .int .i64 0, .string ⟨#[]⟩], .int .i64 y]) (by simp [results, Tryz.results7, go_sem, q0, q1, q2, q3, q4]) rfl ⟨rfl, by first | exact hw3 | (repeat' first | exact hw3 | (refine Below.setCell ?_ (by have := hw3.size; simp; omega) _) | (refine Below.alloc ?_ (by have := hw3.size; simp; omega) _)) | (trace_state; fail)⟩
end Go.Proofs.YtogdkhnakenbcaaGreatDoor
