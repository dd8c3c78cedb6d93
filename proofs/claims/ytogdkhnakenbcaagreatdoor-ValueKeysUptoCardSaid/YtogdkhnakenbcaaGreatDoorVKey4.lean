/-
  Contracts of appendKey.
-/
import Derived.Test.YtogdkhnakenbcaaGreatDoorVKey3
import Derived.Deep.AppendLies
namespace Go.Proofs.YtogdkhnakenbcaaGreatDoor
open Go.ChangeShapes Go.WideShapes Go.ChangeAt Go.RowKit Go.Sort
set_option linter.unusedVariables false

/-- What appendKey leaves: the key behind what was there, and what lies below the base as it was. -/
def KeyOwn (B n : Nat) (xs : List Value) (l : List UInt8) (w : World) (e : Ending) (w' : World) : Prop := ∃ v', e = .returned v' ∧ w'.ownsRow B 5 1 v' (n + l.length) (xs ++ Lib.byteCells l) ∧ Below B w w'
theorem box_far {w w' : World} {B b : Nat} {v : Value} {n : Nat} {xs : List Value} {cs : Array Value} {fz : Nat × Nat} (hown : w.ownsRow B 5 1 v n xs) (hg : w.grownBy w' v.ownBlock) (hb : w.heap[b]? = some (.cells cs 25 fz)) : w'.heap[b]? = some (.cells cs 25 fz) := by
  have hlt : b < w.heap.size := (Array.getElem?_eq_some_iff.1 hb).1
  refine (hg.block b hlt ?_).trans hb
  intro e
  obtain ⟨c, f, h⟩ := own_kind hown b e.symm
  rw [hb] at h
  simp at h
theorem box_cells {w : World} {b : Nat} {a0 a1 a2 a3 a4 : Value} {t : TypeId} {fz : Nat × Nat} (hb : w.heap[b]? = some (.cells #[a0, a1, a2, a3, a4] t fz)) : w.cell? ⟨b, 0, none⟩ = some a0 ∧ w.cell? ⟨b, 1, none⟩ = some a1 ∧ w.cell? ⟨b, 2, none⟩ = some a2 ∧ w.cell? ⟨b, 3, none⟩ = some a3 ∧ w.cell? ⟨b, 4, none⟩ = some a4 := by
  refine ⟨?_, ?_, ?_, ?_, ?_⟩ <;> (rw [cell_of_row w b _ _ t fz hb]; rfl)
theorem below_of_grown {w w1 w2 : World} {B : Nat} {v : Value} {n : Nat} {xs : List Value} (hB : Below B w w1) (hsz : B ≤ w1.heap.size) (hown : w1.ownsRow B 5 1 v n xs) (hg : w1.grownBy w2 v.ownBlock) : Below B w w2 := hB.grown hg hsz (fun k hk => (hown.lt k hk).1)
theorem bt_alloc {B : Nat} {w : World} (hB : B ≤ w.heap.size) (o : Obj) : Below B w (w.alloc o) := (Below.refl _ _).alloc hB o

set_option maxHeartbeats 1600000 in
set_option maxRecDepth 100000 in
theorem appendKey_null (B n : Nat) (sv : Value) (xs : List Value) (k s x : Int) (t : ByteArray) (w : World) (hk : In64 k) (hk3 : ¬k = 3) (hown : w.ownsRow B 5 1 sv n xs) (hB : B ≤ w.heap.size) (hlim : n + 100 ≤ 140737488355328) (hgB : 1 < B) (htab : PowLaid w) :
    Calls Tryz.prog 42 #[sv, .agg #[.int .i64 k, .int .i64 s, .bool true, .int .i64 x, .string t]] w (KeyOwn B n xs (keyV ⟨k, s, true, x, t⟩) w) := by
  obtain ⟨i0, hi, hz0, hz1, hz2⟩ := info_parts bytesInfo
  have hki : (Lib.itoa k).length ≤ 21 := Lib.itoa_length_le k hk.1 hk.2
  have hBa := alloc_below w (.cells #[.int .i64 k, .int .i64 s, .bool true, .int .i64 x, .string t] 25)
  have HBX := Lib.hid (show (w.alloc (.cells #[.int .i64 k, .int .i64 s, .bool true, .int .i64 x, .string t] 25)).heap[w.heap.size]? = some (.cells #[.int .i64 k, .int .i64 s, .bool true, .int .i64 x, .string t] 25) from Array.getElem?_push_size)
  have HN := Lib.hid (fun W h1 h2 h3 => appendInt_own B n k sv xs W hk h1 h2 (by omega) hgB h3)
  have HT := Lib.hid (show PowLaid _ from htab.below hBa)
  have HO := Lib.hid (own_same hown hBa.block)
  have HB0 := Lib.hid (bt_alloc hB (.cells #[.int .i64 k, .int .i64 s, .bool true, .int .i64 x, .string t] 25))
  have HK := Lib.hid hki
  have e3 : (k == 3) = false := by simpa using hk3
  have HX : Hid (keyV ⟨k, s, true, x, t⟩ = Lib.itoa k ++ [110]) := by show _ = _; simp [keyV, headK, bodyK, hk3]
  clear hk3
  clear hBa hown htab hki
  go_enter Tryz.func42, Tryz.ntmps42
  go_wp2_with fail
  refine (HN.out _ HO.out (by simp; omega) HT.out).mono ?_
  rintro e w1 ⟨v1, rfl, hown1, hg1⟩
  have HBX1 := Lib.hid (box_far HO.out hg1 HBX.out)
  have HB1 := Lib.hid (below_of_grown HB0.out (by simp; omega) HO.out hg1)
  have HT1 := Lib.hid (powLaid_grown hg1 HO.out hgB HT.out)
  have HS1 : B ≤ w1.heap.size := Nat.le_trans (by simp; omega) hg1.size
  obtain ⟨c0, c1, c2, c3, c4⟩ := box_cells HBX1.out
  clear hg1 HO HBX HT HB0
  go_wp2_with (at_builtin; refine wpList_append_own _ rfl _ _ 61 rfl B 5 i0 (.int .u8 0) 1 1 Tryz.underlying61 hi hz0 hz1 hz2 rfl (by decide) _ _ _ rfl (hown1.alloc _) ⟨_, 0, none⟩ 1 1 [.int .u8 110] rfl rfl (by intro j u' hj; match j, hj with | 0, hj => (simp at hj; subst hj; simp [Addr.add])) (by intro u' hu'; simp at hu'; subst hu'; rfl) (by unfold maxLen; have := HK.out; omega) (by have := HK.out; omega) (by simp; omega) ?_; intro v2 v2w v2own v2grow _; refine Hid.out ?_)
  refine Lib.hid ?_
  have HB2 := Lib.hid (below_of_grown (HB1.out.alloc HS1 _) (by simp; omega) (hown1.alloc _) v2grow)
  clear v2grow
  go_wp2
  go_ret
  refine ⟨_, rfl, ?_, HB2.out⟩
  rw [HX.out]
  simpa [Lib.byteCells, Nat.add_assoc] using v2own

set_option maxHeartbeats 1600000 in
set_option maxRecDepth 100000 in
theorem appendKey_null3 (B n : Nat) (sv : Value) (xs : List Value) (s x : Int) (t : ByteArray) (w : World) (hown : w.ownsRow B 5 1 sv n xs) (hB : B ≤ w.heap.size) (hlim : n + 100 ≤ 140737488355328) (hgB : 1 < B) (htab : PowLaid w) :
    Calls Tryz.prog 42 #[sv, .agg #[.int .i64 3, .int .i64 s, .bool true, .int .i64 x, .string t]] w (KeyOwn B n xs (keyV ⟨3, s, true, x, t⟩) w) := by
  obtain ⟨i0, hi, hz0, hz1, hz2⟩ := info_parts bytesInfo
  have hki : (Lib.itoa 3).length ≤ 21 := Lib.itoa_length_le 3 (by decide) (by decide)
  have hBa := alloc_below w (.cells #[.int .i64 3, .int .i64 s, .bool true, .int .i64 x, .string t] 25)
  have HBX := Lib.hid (show (w.alloc (.cells #[.int .i64 3, .int .i64 s, .bool true, .int .i64 x, .string t] 25)).heap[w.heap.size]? = some (.cells #[.int .i64 3, .int .i64 s, .bool true, .int .i64 x, .string t] 25) from Array.getElem?_push_size)
  have HN := Lib.hid (fun W h1 h2 h3 => appendInt_own B n 3 sv xs W (by unfold In64; omega) h1 h2 (by omega) hgB h3)
  have HT := Lib.hid (show PowLaid _ from htab.below hBa)
  have HO := Lib.hid (own_same hown hBa.block)
  have HB0 := Lib.hid (bt_alloc hB (.cells #[.int .i64 3, .int .i64 s, .bool true, .int .i64 x, .string t] 25))
  have HK := Lib.hid hki
  have HX : Hid (keyV ⟨3, s, true, x, t⟩ = Lib.itoa 3 ++ sc2 s ++ [110]) := by show _ = _; simp [keyV, headK, bodyK]
  have HL2 : Hid ((sc2 s).length = 2) := rfl
  clear hBa hown htab hki
  go_enter Tryz.func42, Tryz.ntmps42
  go_wp2_with fail
  refine (HN.out _ HO.out (by simp; omega) HT.out).mono ?_
  rintro e w1 ⟨v1, rfl, hown1, hg1⟩
  have HBX1 := Lib.hid (box_far HO.out hg1 HBX.out)
  have HB1 := Lib.hid (below_of_grown HB0.out (by simp; omega) HO.out hg1)
  have HT1 := Lib.hid (powLaid_grown hg1 HO.out hgB HT.out)
  have HS1 : B ≤ w1.heap.size := Nat.le_trans (by simp; omega) hg1.size
  obtain ⟨c0, c1, c2, c3, c4⟩ := box_cells HBX1.out
  clear hg1 HO HBX HT HB0
  have HSC := Lib.hid (fun W h1 h2 => appendScale_own B (n + (Lib.itoa 3).length) v1 (xs ++ Lib.byteCells (Lib.itoa 3)) s W h1 h2 (by have := HK.out; omega))
  go_wp2_with fail
  refine (HSC.out _ hown1 HS1).mono ?_
  rintro e w2 ⟨v2, rfl, hown2, hg2⟩
  have HBX2 := Lib.hid (box_far hown1 hg2 HBX1.out)
  have HB2 := Lib.hid (below_of_grown HB1.out HS1 hown1 hg2)
  have HT2 := Lib.hid (powLaid_grown hg2 hown1 hgB HT1.out)
  have HS2 : B ≤ w2.heap.size := Nat.le_trans HS1 hg2.size
  obtain ⟨d0, d1, d2, d3, d4⟩ := box_cells HBX2.out
  clear hg2 hown1 HBX1 HT1 HB1 c0 c1 c2 c3 c4
  go_wp2_with (at_builtin; refine wpList_append_own _ rfl _ _ 61 rfl B 5 i0 (.int .u8 0) 1 1 Tryz.underlying61 hi hz0 hz1 hz2 rfl (by decide) _ _ _ rfl (hown2.alloc _) ⟨_, 0, none⟩ 1 1 [.int .u8 110] rfl rfl (by intro j u' hj; match j, hj with | 0, hj => (simp at hj; subst hj; simp [Addr.add])) (by intro u' hu'; simp at hu'; subst hu'; rfl) (by unfold maxLen; have := HK.out; have := HL2.out; omega) (by have := HK.out; have := HL2.out; omega) (by simp; omega) ?_; intro v3 v3w v3own v3grow _; refine Hid.out ?_)
  refine Lib.hid ?_
  have HB3 := Lib.hid (below_of_grown (HB2.out.alloc HS2 _) (by simp; omega) (hown2.alloc _) v3grow)
  clear v3grow
  go_wp2
  go_ret
  refine ⟨_, rfl, ?_, HB3.out⟩
  rw [HX.out]
  simpa [Lib.byteCells, Nat.add_assoc] using v3own
end Go.Proofs.YtogdkhnakenbcaaGreatDoor
