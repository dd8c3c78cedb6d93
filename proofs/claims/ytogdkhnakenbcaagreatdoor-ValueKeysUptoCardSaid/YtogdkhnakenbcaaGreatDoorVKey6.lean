/-
  Contracts of appendKey.
-/
import Derived.Test.YtogdkhnakenbcaaGreatDoorVKey5
import Derived.Deep.AppendLies
namespace Go.Proofs.YtogdkhnakenbcaaGreatDoor
open Go.ChangeShapes Go.WideShapes Go.ChangeAt Go.RowKit Go.Sort
set_option linter.unusedVariables false


theorem below2 (w : World) (a b : Obj) : Below w.heap.size w ((w.alloc a).alloc b) := (alloc_below w a).alloc (by simp) b
/-- The byte ';' lies in block b, which is not the row's own block g. -/
def Semi (b g : Nat) (w : World) : Prop := w.cell? ⟨b, 0, none⟩ = some (.int .u8 59) ∧ b ≠ g ∧ b < w.heap.size
theorem semi_of {w1 W w2 : World} {B b g n : Nat} {v : Value} {xs : List Value} (hown : w1.ownsRow B 5 1 v n xs) (hg : W.grownBy w2 v.ownBlock) (hat : v.ownBlock = some g ∨ g = W.heap.size) (hb : w1.heap.size ≤ b) (hbW : b < W.heap.size) (hc : W.cell? ⟨b, 0, none⟩ = some (.int .u8 59)) : Semi b g w2 := by
  have hl := hown.lt
  refine ⟨(hg.cell_far ⟨b, 0, none⟩ hbW ?_).trans hc, ?_, ?_⟩
  · intro e; have h2 : b < w1.heap.size := (hl _ e.symm).2; omega
  · rcases hat with h | h
    · have := (hl _ h).2; omega
    · omega
  · have := hg.size; omega
theorem mk_semi {G : Prop} {w1 W w2 : World} {B b g n : Nat} {v : Value} {xs : List Value} (hown : w1.ownsRow B 5 1 v n xs) (hg : W.grownBy w2 v.ownBlock) (hat : v.ownBlock = some g ∨ g = W.heap.size) (hb : w1.heap.size ≤ b) (hbW : b < W.heap.size) (hc : W.cell? ⟨b, 0, none⟩ = some (.int .u8 59)) (k : Hid (Semi b g w2) → G) : G := k (Lib.hid (semi_of hown hg hat hb hbW hc))
theorem semi_B {w : World} {B g n m cap : Nat} {xs : List Value} (hown : w.ownsRow B 5 1 (.slice (some ⟨g, 0, none⟩) m cap) n xs) : Semi w.heap.size g (w.alloc (.cells #[.int .u8 59] 5)) := by
  have hl := (hown.lt g rfl).2
  exact ⟨by simp, by omega, by simp⟩
theorem semi_next {w w' : World} {b g m cap : Nat} (h : Semi b g w) (hg : w.grownBy w' (Value.slice (some ⟨g, 0, none⟩) m cap).ownBlock) : w'.cell? ⟨b, 0, none⟩ = some (.int .u8 59) :=
  (hg.cell_far ⟨b, 0, none⟩ h.2.2 (fun e => h.2.1 (Option.some.inj e))).trans h.1
theorem grown_one {w w' : World} {B n m : Nat} {v : Value} {xs : List Value} (hown : w.ownsRow B 5 1 v n xs) (hg : (w.alloc (.cells #[.int .u8 59] 5)).grownBy w' v.ownBlock) : w.grownBy w' v.ownBlock := grown_of_below (alloc_below _ _) hg
theorem pass_on {P G : Prop} (h : P) (k : P → G) : G := k h
theorem grown_id {w w' : World} {B n : Nat} {v : Value} {xs : List Value} (hown : w.ownsRow B 5 1 v n xs) (hg : w.grownBy w' v.ownBlock) : w.grownBy w' v.ownBlock := hg

set_option maxHeartbeats 3200000 in
set_option maxRecDepth 100000 in
theorem appendKey_num (B n : Nat) (sv : Value) (xs : List Value) (k s x : Int) (t : ByteArray) (w : World) (hk : In64 k) (hx : In64 x) (hk3 : ¬k = 3) (hk4 : ¬k = 4) (hown : w.ownsRow B 5 1 sv n xs) (hB : B ≤ w.heap.size) (hlim : n + 100 ≤ 140737488355328) (hgB : 1 < B) (htab : PowLaid w) :
    Calls Tryz.prog 42 #[sv, .agg #[.int .i64 k, .int .i64 s, .bool false, .int .i64 x, .string t]] w (KeyOwn B n xs (keyV ⟨k, s, false, x, t⟩) w) := by
  obtain ⟨i0, hi, hz0, hz1, hz2⟩ := info_parts bytesInfo
  have hki : (Lib.itoa k).length ≤ 21 := Lib.itoa_length_le k hk.1 hk.2
  have hBa := alloc_below w (.cells #[.int .i64 k, .int .i64 s, .bool false, .int .i64 x, .string t] 25)
  have HBX := Lib.hid (show (w.alloc (.cells #[.int .i64 k, .int .i64 s, .bool false, .int .i64 x, .string t] 25)).heap[w.heap.size]? = some (.cells #[.int .i64 k, .int .i64 s, .bool false, .int .i64 x, .string t] 25) from Array.getElem?_push_size)
  have HN := Lib.hid (fun W h1 h2 h3 => appendInt_own B n k sv xs W hk h1 h2 (by omega) hgB h3)
  have HT := Lib.hid (show PowLaid _ from htab.below hBa)
  have HO := Lib.hid (own_same hown hBa.block)
  have HB0 := Lib.hid (bt_alloc hB (.cells #[.int .i64 k, .int .i64 s, .bool false, .int .i64 x, .string t] 25))
  have HK := Lib.hid hki
  have e3 : (k == 3) = false := by simpa using hk3
  have e4 : (k == 4) = false := by simpa using hk4
  have HX : Hid (keyV ⟨k, s, false, x, t⟩ = Lib.itoa k ++ 118 :: (Lib.itoa x ++ [59])) := by show _ = _; simp [keyV, headK, bodyK, hk3, hk4]
  have HK2 : Hid ((Lib.itoa x).length ≤ 21) := Lib.itoa_length_le x hx.1 hx.2
  clear hk3 hk4
  clear hBa hown htab hki
  go_enter Tryz.func42, Tryz.ntmps42
  go_wp2_with fail
  refine (HN.out _ HO.out (by simp; omega) HT.out).mono ?_
  rintro e w1 ⟨v1, rfl, hown1, hg1⟩
  have HBX1 := Lib.hid (box_far HO.out hg1 HBX.out)
  have HB1 := Lib.hid (below_of_grown HB0.out (by simp; omega) HO.out hg1)
  have HT1 := Lib.hid (powLaid_grown hg1 HO.out hgB HT.out)
  have HS1 : B ≤ w1.heap.size := Nat.le_trans (by simp; omega) hg1.size
  obtain ⟨c0, c1, c2, c3, c4⟩ := box_cells HBX1.out
  clear hg1 HO HBX HT HB0
  have HN2 := Lib.hid (fun v2 W h1 h2 h3 => appendInt_own B (n + (Lib.itoa k).length + 1) x v2 (xs ++ Lib.byteCells (Lib.itoa k) ++ [.int .u8 118]) W hx h1 h2 (by have := HK.out; omega) hgB h3)
  go_wp2_with fail
  go_region_held3 (fun w' => w'.cell? ⟨w.heap.size, 3, none⟩ = some (.int .i64 x))
    (first | assumption | go_keep)
    (first | (refine step_append_lies _ (by rfl) _ _ _ (by rfl) B 5 i0 (.int .u8 0) 1 1 Tryz.underlying61 hi hz0 hz1 hz2 (by rfl) (by decide) v1 _ _ (by rfl) (by exact own_same hown1 (Below.block (by first | (with_reducible exact below_drew (below2 _ _ _)) | (with_reducible exact below_drew (alloc_below _ _)) | (with_reducible exact below2 _ _ _) | (with_reducible exact alloc_below _ _) | (with_reducible exact below_drew (Below.refl _ _)) | (with_reducible exact Below.refl _ _)))) ⟨_, 0, none⟩ 1 1 [.int .u8 118] (by rfl) (by rfl) (by intro j u' hj; match j, hj with | 0, hj => (simp at hj; subst hj; first | (simp [Addr.add, Z3.out] <;> fail) | (simp [Addr.add] <;> fail))) (by intro u' hu'; simp at hu'; subst hu'; rfl) (by decide) (by unfold maxLen; have := HK.out; have := HK2.out; omega) (by have := HK.out; have := HK2.out; omega) (by first | omega | (simp; omega)) _ (by rfl) ?_; intro g2 cap2 w2 hown2 hgrow2 hat2 hlt2; have hg2 : w1.grownBy w2 v1.ownBlock := grown_of_below (by first | (with_reducible exact below_drew (below2 _ _ _)) | (with_reducible exact below_drew (alloc_below _ _)) | (with_reducible exact below2 _ _ _) | (with_reducible exact alloc_below _ _) | (with_reducible exact below_drew (Below.refl _ _)) | (with_reducible exact Below.refl _ _)) hgrow2; have HBX2 := Lib.hid (box_far hown1 hg2 HBX1.out); have HT2 := Lib.hid (powLaid_grown hg2 hown1 hgB HT1.out); have HS2 : B ≤ w2.heap.size := Nat.le_trans HS1 hg2.size; have HB2 := Lib.hid (below_of_grown HB1.out HS1 hown1 hg2); have z2 := (box_cells HBX2.out).2.2.2.1; (first | (refine mk_semi (b := w1.heap.size + 1) hown1 hgrow2 hat2 ?_ ?_ ?_ (fun Z2 => ?_); (focus omega); (focus (simp <;> omega)); (focus (simp <;> fail))) | (refine mk_semi (b := w1.heap.size) hown1 hgrow2 hat2 ?_ ?_ ?_ (fun Z2 => ?_); (focus omega); (focus (simp <;> omega)); (focus (simp <;> fail))) | skip); clear hgrow2 hg2 hat2 hlt2) | (go_at_call 69; refine (HN2.out _ _ ?_ ?_ ?_).mono ?_; (focus first | (with_reducible exact hown2) | exact hown2.alloc _ | exact own_same hown2 (fun _ h => (alloc_below w2 _).block _ h) | trace_state); (focus first | (with_reducible exact HS2) | (simp; omega)); (focus first | (with_reducible exact HT2.out) | exact powLaid_alloc _ HT2.out); rintro e w3 ⟨v3, rfl, hown3, hgrow3⟩; (first | (with_reducible refine pass_on (grown_one (m := 0) hown2 hgrow3) (fun hg3 => ?_)); (have Z3 := Lib.hid (semi_next (semi_B hown2) hgrow3)) | (have hg3 := grown_id hown2 hgrow3; have Z3 := Lib.hid (semi_next Z2.out hgrow3)) | (have hg3 := grown_id hown2 hgrow3)); have HBX3 := Lib.hid (box_far hown2 hg3 HBX2.out); have HS3 : B ≤ w3.heap.size := Nat.le_trans HS2 hg3.size; have HB3 := Lib.hid (below_of_grown HB2.out HS2 hown2 hg3); have z3 := (box_cells HBX3.out).2.2.2.1; clear hgrow3 hg3) | (refine step_append_lies _ (by rfl) _ _ _ (by rfl) B 5 i0 (.int .u8 0) 1 1 Tryz.underlying61 hi hz0 hz1 hz2 (by rfl) (by decide) v3 _ _ (by rfl) (by exact own_same hown3 (Below.block (by first | (with_reducible exact below_drew (below2 _ _ _)) | (with_reducible exact below_drew (alloc_below _ _)) | (with_reducible exact below2 _ _ _) | (with_reducible exact alloc_below _ _) | (with_reducible exact below_drew (Below.refl _ _)) | (with_reducible exact Below.refl _ _)))) ⟨_, 0, none⟩ 1 1 [.int .u8 59] (by rfl) (by rfl) (by intro j u' hj; match j, hj with | 0, hj => (simp at hj; subst hj; first | (simp [Addr.add, Z3.out] <;> fail) | (simp [Addr.add] <;> fail))) (by intro u' hu'; simp at hu'; subst hu'; rfl) (by decide) (by unfold maxLen; have := HK.out; have := HK2.out; omega) (by have := HK.out; have := HK2.out; omega) (by first | omega | (simp; omega)) _ (by rfl) ?_; intro g4 cap4 w4 hown4 hgrow4 hat4 hlt4; have hg4 : w3.grownBy w4 v3.ownBlock := grown_of_below (by first | (with_reducible exact below_drew (below2 _ _ _)) | (with_reducible exact below_drew (alloc_below _ _)) | (with_reducible exact below2 _ _ _) | (with_reducible exact alloc_below _ _) | (with_reducible exact below_drew (Below.refl _ _)) | (with_reducible exact Below.refl _ _)) hgrow4; have HBX4 := Lib.hid (box_far hown3 hg4 HBX3.out); have HB4 := Lib.hid (below_of_grown HB3.out HS3 hown3 hg4); have z4 := (box_cells HBX4.out).2.2.2.1; clear hgrow4 hg4 hat4 hlt4))
  all_goals
    clear HN2
    go_wp2
    go_ret
    refine ⟨_, rfl, ?_, HB4.out⟩
    rw [HX.out]
    have e1 : n + (Lib.itoa k).length + 1 + (Lib.itoa x).length + 1 = n + (Lib.itoa k ++ 118 :: (Lib.itoa x ++ [59])).length := by
      simp only [List.length_append, List.length_cons, List.length_nil]; omega
    have e2 : xs ++ Lib.byteCells (Lib.itoa k) ++ [.int .u8 118] ++ Lib.byteCells (Lib.itoa x) ++ [.int .u8 59] = xs ++ Lib.byteCells (Lib.itoa k ++ 118 :: (Lib.itoa x ++ [59])) := by
      simp [Lib.byteCells]
    rw [← e1, ← e2]
    exact hown4
end Go.Proofs.YtogdkhnakenbcaaGreatDoor
