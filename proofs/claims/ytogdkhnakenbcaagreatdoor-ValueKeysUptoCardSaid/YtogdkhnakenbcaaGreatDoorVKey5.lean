/-
  Contracts of appendKey.
-/
import Derived.Test.YtogdkhnakenbcaaGreatDoorVKey4
import Derived.Deep.AppendLies
namespace Go.Proofs.YtogdkhnakenbcaaGreatDoor
open Go.ChangeShapes Go.WideShapes Go.ChangeAt Go.RowKit Go.Sort
set_option linter.unusedVariables false


/-- An append of a string, as one step of a region that draws. -/
theorem step_append_str {P : Program} (w : World) {ops : Array Oper} {o : Oper} {a : Act} {K : Act → World → Prop} {Q : Exit → Act → World → Prop} {E : Prop} (hgd : o.guard = none) (sl x : Operand) (t u : TypeId)
    (ho : o.op = .call { callee := .builtin .append, args := #[sl, x], argTypes := #[t, u] })
    (base : Nat) (e : TypeId) (i : TypeInfo) (ht : P.underlying t = some (.slice e)) (hu : P.underlying u = some .string) (hi : P.info? e = some i) (hz : i.zero = some (.int .u8 0)) (hsize : i.size = 1) (hby : i.bytes = 1)
    (v : Value) (n : Nat) (xs : List Value) (hs : a.eval sl = v) (hown : w.ownsRow base e 1 v n xs) (s : ByteArray) (hx : a.eval x = .string s)
    (hlim : n + s.size ≤ 140737488355328) (hbase : base ≤ w.heap.size)
    (h : ∀ v' w', w'.ownsRow base e 1 v' (n + s.size) (xs ++ Lib.strCells s) → w.grownBy w' v.ownBlock → K (a.put o.dst v') w') :
    if Region.wanted o (yielded ops a.tmps) = true then Oper.wp P o a w K Q else E := by
  have hw : Region.wanted o (yielded ops a.tmps) = true := by simp [Region.wanted, hgd]
  rw [if_pos hw]
  obtain ⟨v', w', hr, h2, h3, _⟩ := Lib.run_append_own_string (P := P) w base t u o.type e i ht hu hi hz hsize hby v n xs hown s (by unfold maxLen; omega) hlim hbase
  unfold Oper.wp execOp
  simp only [ho, resolve, invoke, builtin, Sem.run_bind, Sem.run_pure, Result.andThen_ok, List.map_toArray, List.map_cons, List.map_nil, hs, hx, hr]
  exact h v' w' h2 h3
theorem box_alloc {w : World} {b : Nat} {cs : Array Value} {t : TypeId} {fz : Nat × Nat} (o : Obj) (h : w.heap[b]? = some (.cells cs t fz)) : (w.alloc o).heap[b]? = some (.cells cs t fz) := ((alloc_below w o).block b (Array.getElem?_eq_some_iff.1 h).1).trans h
theorem powLaid_alloc {w : World} (o : Obj) (h : PowLaid w) : PowLaid (w.alloc o) := Lib.tabIs_alloc h o
set_option maxHeartbeats 1600000 in
set_option maxRecDepth 100000 in
theorem appendKey_text (B n : Nat) (sv : Value) (xs : List Value) (s x : Int) (t : ByteArray) (w : World) (hown : w.ownsRow B 5 1 sv n xs) (hB : B ≤ w.heap.size) (hlim : n + 100 + t.size ≤ 140737488355328) (hgB : 1 < B) (htab : PowLaid w) :
    Calls Tryz.prog 42 #[sv, .agg #[.int .i64 4, .int .i64 s, .bool false, .int .i64 x, .string t]] w (KeyOwn B n xs (keyV ⟨4, s, false, x, t⟩) w) := by
  obtain ⟨i0, hi, hz0, hz1, hz2⟩ := info_parts bytesInfo
  have hki : (Lib.itoa 4).length ≤ 21 := Lib.itoa_length_le 4 (by decide) (by decide)
  have hBa := alloc_below w (.cells #[.int .i64 4, .int .i64 s, .bool false, .int .i64 x, .string t] 25)
  have HBX := Lib.hid (show (w.alloc (.cells #[.int .i64 4, .int .i64 s, .bool false, .int .i64 x, .string t] 25)).heap[w.heap.size]? = some (.cells #[.int .i64 4, .int .i64 s, .bool false, .int .i64 x, .string t] 25) from Array.getElem?_push_size)
  have HN := Lib.hid (fun W h1 h2 h3 => appendInt_own B n 4 sv xs W (by unfold In64; omega) h1 h2 (by omega) hgB h3)
  have HT := Lib.hid (show PowLaid _ from htab.below hBa)
  have HO := Lib.hid (own_same hown hBa.block)
  have HB0 := Lib.hid (bt_alloc hB (.cells #[.int .i64 4, .int .i64 s, .bool false, .int .i64 x, .string t] 25))
  have HK := Lib.hid hki
  have HX : Hid (keyV ⟨4, s, false, x, t⟩ = Lib.itoa 4 ++ 118 :: (Lib.itoa t.size ++ 58 :: t.data.toList)) := by show _ = _; simp [keyV, headK, bodyK]
  have HK2 : Hid ((Lib.itoa (t.size : Int)).length ≤ 21) := Lib.itoa_length_le _ (by omega) (by omega)
  clear hBa hown htab hki
  go_enter Tryz.func42, Tryz.ntmps42
  go_wp2_with fail
  refine (HN.out _ HO.out (by simp; omega) HT.out).mono ?_
  rintro e w1 ⟨v1, rfl, hown1, hg1⟩
  have HBX1 := Lib.hid (box_far HO.out hg1 HBX.out)
  have HB1 := Lib.hid (below_of_grown HB0.out (by simp; omega) HO.out hg1)
  have HT1 := Lib.hid (powLaid_grown hg1 HO.out hgB HT.out)
  have HS1 : B ≤ w1.heap.size := Nat.le_trans (by simp; omega) hg1.size
  obtain ⟨c0, c1, c2, c3, c4⟩ := box_cells HBX1.out
  clear hg1 HO HBX HT HB0
  have HN2 := Lib.hid (fun v2 W h1 h2 h3 => appendInt_own B (n + (Lib.itoa 4).length + 1) (t.size : Int) v2 (xs ++ Lib.byteCells (Lib.itoa 4) ++ [.int .u8 118]) W (by unfold In64; omega) h1 h2 (by have := HK.out; omega) hgB h3)
  go_wp2_with fail
  go_region_held3 (fun w' => w'.cell? ⟨w.heap.size, 3, none⟩ = some (.int .i64 x) ∧ w'.cell? ⟨w.heap.size, 4, none⟩ = some (.string t))
    (((try go_split_ands); refine ⟨?_, ?_⟩ <;> first | assumption | (with_reducible exact (box_cells HBX3.out).2.2.2.1) | (with_reducible exact (box_cells HBX3.out).2.2.2.2) | (with_reducible exact (box_cells HBX2.out).2.2.2.1) | (with_reducible exact (box_cells HBX2.out).2.2.2.2) | go_keep))
    (first | ((refine step_append_lies _ (by rfl) _ _ _ (by rfl) B 5 i0 (.int .u8 0) 1 1 Tryz.underlying61 hi hz0 hz1 hz2 (by rfl) (by decide) _ _ _ (by rfl) (hown1.alloc _) ⟨_, 0, none⟩ 1 1 [.int .u8 118] (by rfl) (by rfl) (by intro j u' hj; match j, hj with | 0, hj => (simp at hj; subst hj; simp [Addr.add])) (by intro u' hu'; simp at hu'; subst hu'; rfl) (by decide) (by unfold maxLen; have := HK.out; omega) (by have := HK.out; omega) (by simp; omega) _ (by rfl) ?_; intro g2 cap2 w2 hown2 hgrow2 hat2 hlt2; have hg2 : w1.grownBy w2 v1.ownBlock := grown_of_below (below_drew (alloc_below _ _)) hgrow2; have HBX2 := Lib.hid (box_far hown1 hg2 HBX1.out); have HT2 := Lib.hid (powLaid_grown hg2 hown1 hgB HT1.out); have HS2 : B ≤ w2.heap.size := Nat.le_trans HS1 hg2.size; have HB2 := Lib.hid (below_of_grown HB1.out HS1 hown1 hg2); clear hgrow2 hg2 hat2 hlt2)) | (refine (HN2.out _ _ hown2 HS2 HT2.out).mono ?_; rintro e w3 ⟨v3, rfl, hown3, hg3⟩; have HBX3 := Lib.hid (box_far hown2 hg3 HBX2.out)))
  rename_i hH
  obtain ⟨f3, f4⟩ := hH
  have HB3 := Lib.hid (below_of_grown HB2.out HS2 hown2 hg3)
  have HS3 : B ≤ w3.heap.size := Nat.le_trans HS2 hg3.size
  clear hg3 hown2 hown1 HBX1 HBX2 HT1 HT2 HB1 HB2 c0 c1 c2 c3 c4
  go_wp2_with fail
  go_region_held3 (fun w' => w'.cell? ⟨w.heap.size, 4, none⟩ = some (.string t))
    (first | assumption | (with_reducible exact (box_cells HBX4.out).2.2.2.2) | trivial | go_keep)
    (first | ((refine step_append_lies _ (by rfl) _ _ _ (by rfl) B 5 i0 (.int .u8 0) 1 1 Tryz.underlying61 hi hz0 hz1 hz2 (by rfl) (by decide) _ _ _ (by rfl) (hown3.alloc _) ⟨_, 0, none⟩ 1 1 [.int .u8 58] (by rfl) (by rfl) (by intro j u' hj; match j, hj with | 0, hj => (simp at hj; subst hj; simp [Addr.add])) (by intro u' hu'; simp at hu'; subst hu'; rfl) (by decide) (by unfold maxLen; have := HK.out; have := HK2.out; omega) (by have := HK.out; have := HK2.out; omega) (by simp; omega) _ (by rfl) ?_; intro g4 cap4 w4 hown4 hgrow4 hat4 hlt4; have hg4 : w3.grownBy w4 v3.ownBlock := grown_of_below (below_drew (alloc_below _ _)) hgrow4; have HBX4 := Lib.hid (box_far hown3 hg4 HBX3.out); have HS4 : B ≤ w4.heap.size := Nat.le_trans HS3 hg4.size; have HB4 := Lib.hid (below_of_grown HB3.out HS3 hown3 hg4); clear hgrow4 hg4 hat4 hlt4)) | ((refine step_append_str _ (by rfl) _ _ _ _ (by rfl) B 5 i0 Tryz.underlying61 Tryz.underlying9 hi hz0 hz1 hz2 _ _ _ (by rfl) hown4 t (by rfl) (by have := HK.out; have := HK2.out; omega) HS4 ?_; intro v5 w5 hown5 hgrow5; have HB5 := Lib.hid (below_of_grown HB4.out HS4 hown4 hgrow5); have HBX5 := Lib.hid (box_far hown4 hgrow5 HBX4.out); have z5 := (box_cells HBX5.out).2.2.2.2; clear hgrow5)))
  clear HBX3 HB3 HN2 HK HK2
  go_wp2
  go_ret
  refine ⟨_, rfl, ?_, HB5.out⟩
  rw [HX.out]
  have es : Lib.strCells t = Lib.byteCells t.data.toList := Lib.strCells_eq t
  have el : t.data.toList.length = t.size := Array.length_toList
  have e1 : n + (Lib.itoa 4).length + 1 + (Lib.itoa (t.size : Int)).length + 1 + t.size = n + (Lib.itoa 4 ++ 118 :: (Lib.itoa (t.size : Int) ++ 58 :: t.data.toList)).length := by
    simp only [List.length_append, List.length_cons, el]; omega
  have e2 : xs ++ Lib.byteCells (Lib.itoa 4) ++ [.int .u8 118] ++ Lib.byteCells (Lib.itoa (t.size : Int)) ++ [.int .u8 58] ++ Lib.byteCells t.data.toList = xs ++ Lib.byteCells (Lib.itoa 4 ++ 118 :: (Lib.itoa (t.size : Int) ++ 58 :: t.data.toList)) := by
    simp [Lib.byteCells]
  rw [es, e1, e2] at hown5
  exact hown5
end Go.Proofs.YtogdkhnakenbcaaGreatDoor
