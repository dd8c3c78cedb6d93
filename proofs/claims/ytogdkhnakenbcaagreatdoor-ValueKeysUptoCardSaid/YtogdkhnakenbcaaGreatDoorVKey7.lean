/-
  Contracts of appendKey.
-/
import Derived.Test.YtogdkhnakenbcaaGreatDoorVKey6
import Derived.Deep.AppendLies
namespace Go.Proofs.YtogdkhnakenbcaaGreatDoor
open Go.ChangeShapes Go.WideShapes Go.ChangeAt Go.RowKit Go.Sort
set_option linter.unusedVariables false


set_option maxHeartbeats 3200000 in
set_option maxRecDepth 100000 in
theorem appendKey_dec (B n : Nat) (sv : Value) (xs : List Value) (s x : Int) (t : ByteArray) (w : World) (hx : In64 x) (hown : w.ownsRow B 5 1 sv n xs) (hB : B ≤ w.heap.size) (hlim : n + 100 ≤ 140737488355328) (hgB : 1 < B) (htab : PowLaid w) :
    Calls Tryz.prog 42 #[sv, .agg #[.int .i64 3, .int .i64 s, .bool false, .int .i64 x, .string t]] w (KeyOwn B n xs (keyV ⟨3, s, false, x, t⟩) w) := by
  obtain ⟨i0, hi, hz0, hz1, hz2⟩ := info_parts bytesInfo
  have hki : (Lib.itoa 3).length ≤ 21 := Lib.itoa_length_le 3 (by decide) (by decide)
  have hBa := alloc_below w (.cells #[.int .i64 3, .int .i64 s, .bool false, .int .i64 x, .string t] 25)
  have HBX := Lib.hid (show (w.alloc (.cells #[.int .i64 3, .int .i64 s, .bool false, .int .i64 x, .string t] 25)).heap[w.heap.size]? = some (.cells #[.int .i64 3, .int .i64 s, .bool false, .int .i64 x, .string t] 25) from Array.getElem?_push_size)
  have HN := Lib.hid (fun W h1 h2 h3 => appendInt_own B n 3 sv xs W (by unfold In64; omega) h1 h2 (by omega) hgB h3)
  have HT := Lib.hid (show PowLaid _ from htab.below hBa)
  have HO := Lib.hid (own_same hown hBa.block)
  have HB0 := Lib.hid (bt_alloc hB (.cells #[.int .i64 3, .int .i64 s, .bool false, .int .i64 x, .string t] 25))
  have HK := Lib.hid hki
  have HX : Hid (keyV ⟨3, s, false, x, t⟩ = Lib.itoa 3 ++ (sc2 s ++ 118 :: (Lib.itoa x ++ [59]))) := by show _ = _; simp [keyV, headK, bodyK]
  have HL2 : Hid ((sc2 s).length = 2) := rfl
  have HK2 : Hid ((Lib.itoa x).length ≤ 21) := Lib.itoa_length_le x hx.1 hx.2
  clear hBa hown htab hki
  go_enter Tryz.func42, Tryz.ntmps42
  go_wp2_with fail
  refine (HN.out _ HO.out (by simp; omega) HT.out).mono ?_
  rintro e w1 ⟨v1, rfl, hown1, hg1⟩
  have HBX1 := Lib.hid (box_far HO.out hg1 HBX.out)
  have HB1 := Lib.hid (below_of_grown HB0.out (by simp; omega) HO.out hg1)
  have HT1 := Lib.hid (powLaid_grown hg1 HO.out hgB HT.out)
  have HS1 : B ≤ w1.heap.size := Nat.le_trans (by simp; omega) hg1.size
  obtain ⟨c0, c1, c2, c3, c4⟩ := box_cells HBX1.out
  clear hg1 HO HBX HT HB0
  have HSC := Lib.hid (fun W h1 h2 => appendScale_own B (n + (Lib.itoa 3).length) v1 (xs ++ Lib.byteCells (Lib.itoa 3)) s W h1 h2 (by have := HK.out; omega))
  go_wp2_with fail
  refine (HSC.out _ hown1 HS1).mono ?_
  rintro e w2 ⟨v2, rfl, hown2, hg2⟩
  have HBX2 := Lib.hid (box_far hown1 hg2 HBX1.out)
  have HB2 := Lib.hid (below_of_grown HB1.out HS1 hown1 hg2)
  have HT2 := Lib.hid (powLaid_grown hg2 hown1 hgB HT1.out)
  have HS2 : B ≤ w2.heap.size := Nat.le_trans HS1 hg2.size
  obtain ⟨d0, d1, d2, d3, d4⟩ := box_cells HBX2.out
  clear hg2 hown1 HBX1 HT1 HB1 c0 c1 c2 c3 c4
  have HN2 := Lib.hid (fun v2 W h1 h2 h3 => appendInt_own B (n + (Lib.itoa 3).length + (sc2 s).length + 1) x v2 (xs ++ Lib.byteCells (Lib.itoa 3) ++ Lib.byteCells (sc2 s) ++ [.int .u8 118]) W hx h1 h2 (by have := HK.out; have := HL2.out; omega) hgB h3)
  go_wp2_with fail
  go_region_held3 (fun w' => w'.cell? ⟨w.heap.size, 3, none⟩ = some (.int .i64 x))
    (first | assumption | go_keep)
    (first | (refine step_append_lies _ (by rfl) _ _ _ (by rfl) B 5 i0 (.int .u8 0) 1 1 Tryz.underlying61 hi hz0 hz1 hz2 (by rfl) (by decide) v2 _ _ (by rfl) (by exact own_same hown2 (Below.block (by first | (with_reducible exact below_drew (below2 _ _ _)) | (with_reducible exact below_drew (alloc_below _ _)) | (with_reducible exact below2 _ _ _) | (with_reducible exact alloc_below _ _) | (with_reducible exact below_drew (Below.refl _ _)) | (with_reducible exact Below.refl _ _)))) ⟨_, 0, none⟩ 1 1 [.int .u8 118] (by rfl) (by rfl) (by intro j u' hj; match j, hj with | 0, hj => (simp at hj; subst hj; first | (simp [Addr.add, Z3.out] <;> fail) | (simp [Addr.add] <;> fail))) (by intro u' hu'; simp at hu'; subst hu'; rfl) (by decide) (by unfold maxLen; have := HK.out; have := HK2.out; have := HL2.out; omega) (by have := HK.out; have := HK2.out; have := HL2.out; omega) (by first | omega | (simp; omega)) _ (by rfl) ?_; intro g3 cap3 w3 hown3 hgrow3 hat3 hlt3; have hg3 : w2.grownBy w3 v2.ownBlock := grown_of_below (by first | (with_reducible exact below_drew (below2 _ _ _)) | (with_reducible exact below_drew (alloc_below _ _)) | (with_reducible exact below2 _ _ _) | (with_reducible exact alloc_below _ _) | (with_reducible exact below_drew (Below.refl _ _)) | (with_reducible exact Below.refl _ _)) hgrow3; have HBX3 := Lib.hid (box_far hown2 hg3 HBX2.out); have HT3 := Lib.hid (powLaid_grown hg3 hown2 hgB HT2.out); have HS3 : B ≤ w3.heap.size := Nat.le_trans HS2 hg3.size; have HB3 := Lib.hid (below_of_grown HB2.out HS2 hown2 hg3); have z3 := (box_cells HBX3.out).2.2.2.1; (first | (refine mk_semi (b := w2.heap.size + 1) hown2 hgrow3 hat3 ?_ ?_ ?_ (fun Z3 => ?_); (focus omega); (focus (simp <;> omega)); (focus (simp <;> fail))) | (refine mk_semi (b := w2.heap.size) hown2 hgrow3 hat3 ?_ ?_ ?_ (fun Z3 => ?_); (focus omega); (focus (simp <;> omega)); (focus (simp <;> fail))) | skip); clear hgrow3 hg3 hat3 hlt3) | (go_at_call 69; refine (HN2.out _ _ ?_ ?_ ?_).mono ?_; (focus first | (with_reducible exact hown3) | exact hown3.alloc _ | exact own_same hown3 (fun _ h => (alloc_below w3 _).block _ h) | trace_state); (focus first | (with_reducible exact HS3) | (simp; omega)); (focus first | (with_reducible exact HT3.out) | exact powLaid_alloc _ HT3.out); rintro e w4 ⟨v4, rfl, hown4, hgrow4⟩; (first | (with_reducible refine pass_on (grown_one (m := 0) hown3 hgrow4) (fun hg4 => ?_)); (have Z3 := Lib.hid (semi_next (semi_B hown3) hgrow4)) | (have hg4 := grown_id hown3 hgrow4; have Z3 := Lib.hid (semi_next Z3.out hgrow4)) | (have hg4 := grown_id hown3 hgrow4)); have HBX4 := Lib.hid (box_far hown3 hg4 HBX3.out); have HS4 : B ≤ w4.heap.size := Nat.le_trans HS3 hg4.size; have HB4 := Lib.hid (below_of_grown HB3.out HS3 hown3 hg4); have z4 := (box_cells HBX4.out).2.2.2.1; clear hgrow4 hg4) | (refine step_append_lies _ (by rfl) _ _ _ (by rfl) B 5 i0 (.int .u8 0) 1 1 Tryz.underlying61 hi hz0 hz1 hz2 (by rfl) (by decide) v4 _ _ (by rfl) (by exact own_same hown4 (Below.block (by first | (with_reducible exact below_drew (below2 _ _ _)) | (with_reducible exact below_drew (alloc_below _ _)) | (with_reducible exact below2 _ _ _) | (with_reducible exact alloc_below _ _) | (with_reducible exact below_drew (Below.refl _ _)) | (with_reducible exact Below.refl _ _)))) ⟨_, 0, none⟩ 1 1 [.int .u8 59] (by rfl) (by rfl) (by intro j u' hj; match j, hj with | 0, hj => (simp at hj; subst hj; first | (simp [Addr.add, Z3.out] <;> fail) | (simp [Addr.add] <;> fail))) (by intro u' hu'; simp at hu'; subst hu'; rfl) (by decide) (by unfold maxLen; have := HK.out; have := HK2.out; have := HL2.out; omega) (by have := HK.out; have := HK2.out; have := HL2.out; omega) (by first | omega | (simp; omega)) _ (by rfl) ?_; intro g5 cap5 w5 hown5 hgrow5 hat5 hlt5; have hg5 : w4.grownBy w5 v4.ownBlock := grown_of_below (by first | (with_reducible exact below_drew (below2 _ _ _)) | (with_reducible exact below_drew (alloc_below _ _)) | (with_reducible exact below2 _ _ _) | (with_reducible exact alloc_below _ _) | (with_reducible exact below_drew (Below.refl _ _)) | (with_reducible exact Below.refl _ _)) hgrow5; have HBX5 := Lib.hid (box_far hown4 hg5 HBX4.out); have HB5 := Lib.hid (below_of_grown HB4.out HS4 hown4 hg5); have z5 := (box_cells HBX5.out).2.2.2.1; clear hgrow5 hg5 hat5 hlt5))
  all_goals
    clear HN2
    go_wp2
    go_ret
    refine ⟨_, rfl, ?_, HB5.out⟩
    rw [HX.out]
    have e1 : n + (Lib.itoa 3).length + (sc2 s).length + 1 + (Lib.itoa x).length + 1 = n + (Lib.itoa 3 ++ (sc2 s ++ 118 :: (Lib.itoa x ++ [59]))).length := by
      simp only [List.length_append, List.length_cons, List.length_nil]; omega
    have e2 : xs ++ Lib.byteCells (Lib.itoa 3) ++ Lib.byteCells (sc2 s) ++ [.int .u8 118] ++ Lib.byteCells (Lib.itoa x) ++ [.int .u8 59] = xs ++ Lib.byteCells (Lib.itoa 3 ++ (sc2 s ++ 118 :: (Lib.itoa x ++ [59]))) := by
      simp [Lib.byteCells]
    rw [← e1, ← e2]
    exact hown5

/-- The whole of appendKey. -/
theorem appendKey_any (B n : Nat) (sv : Value) (xs : List Value) (k s : Int) (nl : Bool) (x : Int) (t : ByteArray) (w : World) (hk : In64 k) (hx : In64 x) (hown : w.ownsRow B 5 1 sv n xs) (hB : B ≤ w.heap.size) (hlim : n + 100 + t.size ≤ 140737488355328) (hgB : 1 < B) (htab : PowLaid w) :
    Calls Tryz.prog 42 #[sv, .agg #[.int .i64 k, .int .i64 s, .bool nl, .int .i64 x, .string t]] w (KeyOwn B n xs (keyV ⟨k, s, nl, x, t⟩) w) := by
  cases nl
  · by_cases k3 : k = 3
    · subst k3; exact appendKey_dec B n sv xs s x t w hx hown hB (by omega) hgB htab
    · by_cases k4 : k = 4
      · subst k4; exact appendKey_text B n sv xs s x t w hown hB hlim hgB htab
      · exact appendKey_num B n sv xs k s x t w hk hx k3 k4 hown hB (by omega) hgB htab
  · by_cases k3 : k = 3
    · subst k3; exact appendKey_null3 B n sv xs s x t w hown hB (by omega) hgB htab
    · exact appendKey_null B n sv xs k s x t w hk k3 hown hB (by omega) hgB htab
end Go.Proofs.YtogdkhnakenbcaaGreatDoor
