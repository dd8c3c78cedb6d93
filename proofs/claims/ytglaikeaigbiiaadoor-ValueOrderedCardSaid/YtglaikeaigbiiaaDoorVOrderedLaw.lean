/-
  ValueOrdered: the order of values is one: it turns round with its arguments, carries over three values, and says what comparisons say where nothing is missing, for every three values. Condition: the listed tables read as the program's text lays them (the card ties them).
-/
import Derived.Test.YtglaikeaigbiiaaDoorVOpen
import Derived.Deep.RegionHeld3
import Derived.Deep.Cut
import Derived.Deep.CutRange
import Derived.Deep.DeepCutAuto
namespace Go.Proofs.YtglaikeaigbiiaaDoor
open Go.ChangeShapes Go.WideShapes Go.ChangeAt Go.RowKit
set_option linter.unusedVariables false

theorem alloc3_below (w : World) (o o' o'' : Obj) : Below w.heap.size w (((w.alloc o).alloc o').alloc o'') := (alloc2_below w o o').trans ((alloc_below _ _).mono (by simp; omega))
/-- The three answers of the order go together. -/
theorem tri_facts (a b c : VR) : (ordV a b = -1 ∨ ordV a b = 0 ∨ ordV a b = 1) ∧ (ordV b c = -1 ∨ ordV b c = 0 ∨ ordV b c = 1) ∧ (ordV a c = -1 ∨ ordV a c = 0 ∨ ordV a c = 1) ∧
    ¬ (ordV a b ≤ 0 ∧ ordV b c ≤ 0 ∧ 0 < ordV a c) ∧ ¬ (0 ≤ ordV a b ∧ 0 ≤ ordV b c ∧ ordV a c < 0) := by
  refine ⟨ordV_one _ _, ordV_one _ _, ordV_one _ _, ?_, ?_⟩
  · rintro ⟨h1, h2, h3⟩
    have := ordV_trans a b c h1 h2
    omega
  · rintro ⟨h1, h2, h3⟩
    have e1 := ordV_swap a b
    have e2 := ordV_swap b c
    have e3 := ordV_swap a c
    have := ordV_trans c b a (by omega) (by omega)
    omega

theorem new_cell (w : World) (cs : Array Value) (T : TypeId) (j : Nat) (v : Value) (h : cs[j]? = some v) : (w.alloc (.cells cs T)).cell? ⟨w.heap.size, j, none⟩ = some v := by
  simp [h]
theorem new_cell2 (w : World) (o o' : Obj) (cs : Array Value) (T : TypeId) (j : Nat) (v : Value) (h : cs[j]? = some v) : (((w.alloc o).alloc o').alloc (.cells cs T)).cell? ⟨w.heap.size + 2, j, none⟩ = some v := by
  rw [show w.heap.size + 2 = ((w.alloc o).alloc o').heap.size by simp]
  exact new_cell _ _ _ _ _ h
theorem box_keep {w w' : World} {b o : Nat} {v : Value} (h : w.cell? ⟨b, o, none⟩ = some v) (hb : Below w.heap.size w w') : w'.cell? ⟨b, o, none⟩ = some v := (hb.cell (p := ⟨b, o, none⟩) (World.block_lt_of_cell? _ _ h)).trans h
set_option maxHeartbeats 1600000 in
theorem start3 (w : World) (ak as_ : Int) (anl : Bool) (an : Int) (at_ : ByteArray) (bk bs_ : Int) (bnl : Bool) (bn : Int) (bt_ : ByteArray) (ck cs_ : Int) (cnl : Bool) (cn : Int) (ct_ : ByteArray) :
    ((((w.alloc (.cells #[.int .i64 ak, .int .i64 as_, .bool anl, .int .i64 an, .string at_] 25)).alloc (.cells #[.int .i64 bk, .int .i64 bs_, .bool bnl, .int .i64 bn, .string bt_] 25)).alloc (.cells #[.int .i64 ck, .int .i64 cs_, .bool cnl, .int .i64 cn, .string ct_] 25)).drew).cell? ⟨w.heap.size, 0, none⟩ = some (.int .i64 ak) ∧ ((((w.alloc (.cells #[.int .i64 ak, .int .i64 as_, .bool anl, .int .i64 an, .string at_] 25)).alloc (.cells #[.int .i64 bk, .int .i64 bs_, .bool bnl, .int .i64 bn, .string bt_] 25)).alloc (.cells #[.int .i64 ck, .int .i64 cs_, .bool cnl, .int .i64 cn, .string ct_] 25)).drew).cell? ⟨w.heap.size, 1, none⟩ = some (.int .i64 as_) ∧ ((((w.alloc (.cells #[.int .i64 ak, .int .i64 as_, .bool anl, .int .i64 an, .string at_] 25)).alloc (.cells #[.int .i64 bk, .int .i64 bs_, .bool bnl, .int .i64 bn, .string bt_] 25)).alloc (.cells #[.int .i64 ck, .int .i64 cs_, .bool cnl, .int .i64 cn, .string ct_] 25)).drew).cell? ⟨w.heap.size, 2, none⟩ = some (.bool anl) ∧ ((((w.alloc (.cells #[.int .i64 ak, .int .i64 as_, .bool anl, .int .i64 an, .string at_] 25)).alloc (.cells #[.int .i64 bk, .int .i64 bs_, .bool bnl, .int .i64 bn, .string bt_] 25)).alloc (.cells #[.int .i64 ck, .int .i64 cs_, .bool cnl, .int .i64 cn, .string ct_] 25)).drew).cell? ⟨w.heap.size, 3, none⟩ = some (.int .i64 an) ∧ ((((w.alloc (.cells #[.int .i64 ak, .int .i64 as_, .bool anl, .int .i64 an, .string at_] 25)).alloc (.cells #[.int .i64 bk, .int .i64 bs_, .bool bnl, .int .i64 bn, .string bt_] 25)).alloc (.cells #[.int .i64 ck, .int .i64 cs_, .bool cnl, .int .i64 cn, .string ct_] 25)).drew).cell? ⟨w.heap.size, 4, none⟩ = some (.string at_) ∧ ((((w.alloc (.cells #[.int .i64 ak, .int .i64 as_, .bool anl, .int .i64 an, .string at_] 25)).alloc (.cells #[.int .i64 bk, .int .i64 bs_, .bool bnl, .int .i64 bn, .string bt_] 25)).alloc (.cells #[.int .i64 ck, .int .i64 cs_, .bool cnl, .int .i64 cn, .string ct_] 25)).drew).cell? ⟨w.heap.size + 1, 0, none⟩ = some (.int .i64 bk) ∧ ((((w.alloc (.cells #[.int .i64 ak, .int .i64 as_, .bool anl, .int .i64 an, .string at_] 25)).alloc (.cells #[.int .i64 bk, .int .i64 bs_, .bool bnl, .int .i64 bn, .string bt_] 25)).alloc (.cells #[.int .i64 ck, .int .i64 cs_, .bool cnl, .int .i64 cn, .string ct_] 25)).drew).cell? ⟨w.heap.size + 1, 1, none⟩ = some (.int .i64 bs_) ∧ ((((w.alloc (.cells #[.int .i64 ak, .int .i64 as_, .bool anl, .int .i64 an, .string at_] 25)).alloc (.cells #[.int .i64 bk, .int .i64 bs_, .bool bnl, .int .i64 bn, .string bt_] 25)).alloc (.cells #[.int .i64 ck, .int .i64 cs_, .bool cnl, .int .i64 cn, .string ct_] 25)).drew).cell? ⟨w.heap.size + 1, 2, none⟩ = some (.bool bnl) ∧ ((((w.alloc (.cells #[.int .i64 ak, .int .i64 as_, .bool anl, .int .i64 an, .string at_] 25)).alloc (.cells #[.int .i64 bk, .int .i64 bs_, .bool bnl, .int .i64 bn, .string bt_] 25)).alloc (.cells #[.int .i64 ck, .int .i64 cs_, .bool cnl, .int .i64 cn, .string ct_] 25)).drew).cell? ⟨w.heap.size + 1, 3, none⟩ = some (.int .i64 bn) ∧ ((((w.alloc (.cells #[.int .i64 ak, .int .i64 as_, .bool anl, .int .i64 an, .string at_] 25)).alloc (.cells #[.int .i64 bk, .int .i64 bs_, .bool bnl, .int .i64 bn, .string bt_] 25)).alloc (.cells #[.int .i64 ck, .int .i64 cs_, .bool cnl, .int .i64 cn, .string ct_] 25)).drew).cell? ⟨w.heap.size + 1, 4, none⟩ = some (.string bt_) ∧ ((((w.alloc (.cells #[.int .i64 ak, .int .i64 as_, .bool anl, .int .i64 an, .string at_] 25)).alloc (.cells #[.int .i64 bk, .int .i64 bs_, .bool bnl, .int .i64 bn, .string bt_] 25)).alloc (.cells #[.int .i64 ck, .int .i64 cs_, .bool cnl, .int .i64 cn, .string ct_] 25)).drew).cell? ⟨w.heap.size + 2, 0, none⟩ = some (.int .i64 ck) ∧ ((((w.alloc (.cells #[.int .i64 ak, .int .i64 as_, .bool anl, .int .i64 an, .string at_] 25)).alloc (.cells #[.int .i64 bk, .int .i64 bs_, .bool bnl, .int .i64 bn, .string bt_] 25)).alloc (.cells #[.int .i64 ck, .int .i64 cs_, .bool cnl, .int .i64 cn, .string ct_] 25)).drew).cell? ⟨w.heap.size + 2, 1, none⟩ = some (.int .i64 cs_) ∧ ((((w.alloc (.cells #[.int .i64 ak, .int .i64 as_, .bool anl, .int .i64 an, .string at_] 25)).alloc (.cells #[.int .i64 bk, .int .i64 bs_, .bool bnl, .int .i64 bn, .string bt_] 25)).alloc (.cells #[.int .i64 ck, .int .i64 cs_, .bool cnl, .int .i64 cn, .string ct_] 25)).drew).cell? ⟨w.heap.size + 2, 2, none⟩ = some (.bool cnl) ∧ ((((w.alloc (.cells #[.int .i64 ak, .int .i64 as_, .bool anl, .int .i64 an, .string at_] 25)).alloc (.cells #[.int .i64 bk, .int .i64 bs_, .bool bnl, .int .i64 bn, .string bt_] 25)).alloc (.cells #[.int .i64 ck, .int .i64 cs_, .bool cnl, .int .i64 cn, .string ct_] 25)).drew).cell? ⟨w.heap.size + 2, 3, none⟩ = some (.int .i64 cn) ∧ ((((w.alloc (.cells #[.int .i64 ak, .int .i64 as_, .bool anl, .int .i64 an, .string at_] 25)).alloc (.cells #[.int .i64 bk, .int .i64 bs_, .bool bnl, .int .i64 bn, .string bt_] 25)).alloc (.cells #[.int .i64 ck, .int .i64 cs_, .bool cnl, .int .i64 cn, .string ct_] 25)).drew).cell? ⟨w.heap.size + 2, 4, none⟩ = some (.string ct_) ∧ w.heap.size + 2 < ((((w.alloc (.cells #[.int .i64 ak, .int .i64 as_, .bool anl, .int .i64 an, .string at_] 25)).alloc (.cells #[.int .i64 bk, .int .i64 bs_, .bool bnl, .int .i64 bn, .string bt_] 25)).alloc (.cells #[.int .i64 ck, .int .i64 cs_, .bool cnl, .int .i64 cn, .string ct_] 25)).drew).heap.size ∧ Below w.heap.size w ((((w.alloc (.cells #[.int .i64 ak, .int .i64 as_, .bool anl, .int .i64 an, .string at_] 25)).alloc (.cells #[.int .i64 bk, .int .i64 bs_, .bool bnl, .int .i64 bn, .string bt_] 25)).alloc (.cells #[.int .i64 ck, .int .i64 cs_, .bool cnl, .int .i64 cn, .string ct_] 25)).drew) := by
  have A : Below (w.alloc (.cells #[.int .i64 ak, .int .i64 as_, .bool anl, .int .i64 an, .string at_] 25)).heap.size (w.alloc (.cells #[.int .i64 ak, .int .i64 as_, .bool anl, .int .i64 an, .string at_] 25)) ((((w.alloc (.cells #[.int .i64 ak, .int .i64 as_, .bool anl, .int .i64 an, .string at_] 25)).alloc (.cells #[.int .i64 bk, .int .i64 bs_, .bool bnl, .int .i64 bn, .string bt_] 25)).alloc (.cells #[.int .i64 ck, .int .i64 cs_, .bool cnl, .int .i64 cn, .string ct_] 25)).drew) := below_drew (alloc2_below _ _ _)
  have B : Below ((w.alloc (.cells #[.int .i64 ak, .int .i64 as_, .bool anl, .int .i64 an, .string at_] 25)).alloc (.cells #[.int .i64 bk, .int .i64 bs_, .bool bnl, .int .i64 bn, .string bt_] 25)).heap.size ((w.alloc (.cells #[.int .i64 ak, .int .i64 as_, .bool anl, .int .i64 an, .string at_] 25)).alloc (.cells #[.int .i64 bk, .int .i64 bs_, .bool bnl, .int .i64 bn, .string bt_] 25)) ((((w.alloc (.cells #[.int .i64 ak, .int .i64 as_, .bool anl, .int .i64 an, .string at_] 25)).alloc (.cells #[.int .i64 bk, .int .i64 bs_, .bool bnl, .int .i64 bn, .string bt_] 25)).alloc (.cells #[.int .i64 ck, .int .i64 cs_, .bool cnl, .int .i64 cn, .string ct_] 25)).drew) := below_drew (alloc_below _ _)
  refine ⟨box_keep (by simp) A, box_keep (by simp) A, box_keep (by simp) A, box_keep (by simp) A, box_keep (by simp) A, box_keep (by simp) B, box_keep (by simp) B, box_keep (by simp) B, box_keep (by simp) B, box_keep (by simp) B, box_keep (new_cell2 _ _ _ _ _ _ _ rfl) (below_drew (Below.refl _ _)), box_keep (new_cell2 _ _ _ _ _ _ _ rfl) (below_drew (Below.refl _ _)), box_keep (new_cell2 _ _ _ _ _ _ _ rfl) (below_drew (Below.refl _ _)), box_keep (new_cell2 _ _ _ _ _ _ _ rfl) (below_drew (Below.refl _ _)), box_keep (new_cell2 _ _ _ _ _ _ _ rfl) (below_drew (Below.refl _ _)), by simp, below_drew (alloc3_below _ _ _ _)⟩

set_option maxHeartbeats 3200000 in
set_option maxRecDepth 100000 in
theorem valueOrdered_walk (a b c : VR) (w : World) (Ha : a.Ok) (Hb : b.Ok) (Hc : c.Ok) :
    Calls Tryd.prog 5 #[a.val, b.val, c.val] w fun e w' => e = .returned (.bool true) ∧ Below w.heap.size w w' := by
  obtain ⟨hx1, hy1, hz1, ht1, ht2⟩ := tri_facts a b c
  obtain ⟨x, hab⟩ : ∃ x, ordV a b = x := ⟨_, rfl⟩
  obtain ⟨y, hbc⟩ : ∃ y, ordV b c = y := ⟨_, rfl⟩
  obtain ⟨z, hac⟩ : ∃ z, ordV a c = z := ⟨_, rfl⟩
  have hba : ordV b a = -x := by rw [ordV_swap, hab]
  have haa : ordV a a = 0 := ordV_refl a
  rw [hab] at hx1 ht1 ht2
  rw [hbc] at hy1 ht1 ht2
  rw [hac] at hz1 ht1 ht2
  have HX : Hid (ordV a b = x) := hab
  obtain ⟨ak, as_, anl, an, at_⟩ := a
  obtain ⟨bk, bs_, bnl, bn, bt_⟩ := b
  obtain ⟨ck, cs_, cnl, cn, ct_⟩ := c
  have Oab : Hid (∀ W, Calls Tryd.prog 19 #[.agg #[.int .i64 ak, .int .i64 as_, .bool anl, .int .i64 an, .string at_], .agg #[.int .i64 bk, .int .i64 bs_, .bool bnl, .int .i64 bn, .string bt_]] W fun e w' => e = .returned (.int .i64 x) ∧ Below W.heap.size W w') := fun W => hab ▸ order_any ⟨ak, as_, anl, an, at_⟩ ⟨bk, bs_, bnl, bn, bt_⟩ W Ha.n Hb.n
  have Obc : Hid (∀ W, Calls Tryd.prog 19 #[.agg #[.int .i64 bk, .int .i64 bs_, .bool bnl, .int .i64 bn, .string bt_], .agg #[.int .i64 ck, .int .i64 cs_, .bool cnl, .int .i64 cn, .string ct_]] W fun e w' => e = .returned (.int .i64 y) ∧ Below W.heap.size W w') := fun W => hbc ▸ order_any ⟨bk, bs_, bnl, bn, bt_⟩ ⟨ck, cs_, cnl, cn, ct_⟩ W Hb.n Hc.n
  have Oac : Hid (∀ W, Calls Tryd.prog 19 #[.agg #[.int .i64 ak, .int .i64 as_, .bool anl, .int .i64 an, .string at_], .agg #[.int .i64 ck, .int .i64 cs_, .bool cnl, .int .i64 cn, .string ct_]] W fun e w' => e = .returned (.int .i64 z) ∧ Below W.heap.size W w') := fun W => hac ▸ order_any ⟨ak, as_, anl, an, at_⟩ ⟨ck, cs_, cnl, cn, ct_⟩ W Ha.n Hc.n
  have Oba : Hid (∀ W, Calls Tryd.prog 19 #[.agg #[.int .i64 bk, .int .i64 bs_, .bool bnl, .int .i64 bn, .string bt_], .agg #[.int .i64 ak, .int .i64 as_, .bool anl, .int .i64 an, .string at_]] W fun e w' => e = .returned (.int .i64 (-x)) ∧ Below W.heap.size W w') := fun W => hba ▸ order_any ⟨bk, bs_, bnl, bn, bt_⟩ ⟨ak, as_, anl, an, at_⟩ W Hb.n Ha.n
  have Oaa : Hid (∀ W, Calls Tryd.prog 19 #[.agg #[.int .i64 ak, .int .i64 as_, .bool anl, .int .i64 an, .string at_], .agg #[.int .i64 ak, .int .i64 as_, .bool anl, .int .i64 an, .string at_]] W fun e w' => e = .returned (.int .i64 0) ∧ Below W.heap.size W w') := fun W => haa ▸ order_any ⟨ak, as_, anl, an, at_⟩ ⟨ak, as_, anl, an, at_⟩ W Ha.n Ha.n
  have HT : Hid (∀ (op : Int) W, Calls Tryd.prog 6 #[.int .i64 op, .agg #[.int .i64 ak, .int .i64 as_, .bool anl, .int .i64 an, .string at_], .agg #[.int .i64 bk, .int .i64 bs_, .bool bnl, .int .i64 bn, .string bt_]] W fun e w' => e = .returned (.tuple #[.int .i64 (tstV op ⟨ak, as_, anl, an, at_⟩ ⟨bk, bs_, bnl, bn, bt_⟩), .int .i64 (tstE op ⟨ak, as_, anl, an, at_⟩ ⟨bk, bs_, bnl, bn, bt_⟩)]) ∧ Below W.heap.size W w') := fun op W => test_any op ⟨ak, as_, anl, an, at_⟩ ⟨bk, bs_, bnl, bn, bt_⟩ W Ha.n Hb.n
  clear hab hbc hac hba haa Ha Hb Hc
  unfold VR.val
  simp only
  go_enter Tryd.func5, Tryd.ntmps5
  go_upto_region 1 with fail
  go_region_held3 (fun w' => w'.cell? ⟨w.heap.size, 0, none⟩ = some (.int .i64 ak) ∧ w'.cell? ⟨w.heap.size, 1, none⟩ = some (.int .i64 as_) ∧ w'.cell? ⟨w.heap.size, 2, none⟩ = some (.bool anl) ∧ w'.cell? ⟨w.heap.size, 3, none⟩ = some (.int .i64 an) ∧ w'.cell? ⟨w.heap.size, 4, none⟩ = some (.string at_) ∧ w'.cell? ⟨w.heap.size + 1, 0, none⟩ = some (.int .i64 bk) ∧ w'.cell? ⟨w.heap.size + 1, 1, none⟩ = some (.int .i64 bs_) ∧ w'.cell? ⟨w.heap.size + 1, 2, none⟩ = some (.bool bnl) ∧ w'.cell? ⟨w.heap.size + 1, 3, none⟩ = some (.int .i64 bn) ∧ w'.cell? ⟨w.heap.size + 1, 4, none⟩ = some (.string bt_) ∧ w'.cell? ⟨w.heap.size + 2, 0, none⟩ = some (.int .i64 ck) ∧ w'.cell? ⟨w.heap.size + 2, 1, none⟩ = some (.int .i64 cs_) ∧ w'.cell? ⟨w.heap.size + 2, 2, none⟩ = some (.bool cnl) ∧ w'.cell? ⟨w.heap.size + 2, 3, none⟩ = some (.int .i64 cn) ∧ w'.cell? ⟨w.heap.size + 2, 4, none⟩ = some (.string ct_) ∧ w.heap.size + 2 < w'.heap.size ∧ Below w.heap.size w w')
      (first | exact start3 _ _ _ _ _ _ _ _ _ _ _ _ _ _ _ _ | ((try go_split_ands); refine ⟨?_, ?_, ?_, ?_, ?_, ?_, ?_, ?_, ?_, ?_, ?_, ?_, ?_, ?_, ?_, ?_, ?_⟩ <;> first | assumption | (with_reducible exact below_drew (alloc3_below _ _ _ _)) | (rw [(bcell hb1).1 _ _ (by omega)]; assumption) | (have := hb1.size; omega) | (with_reducible refine bt ?_ hb1; assumption) | go_keep))
      (first | ((with_reducible refine (Oab.out _).mono ?_); rintro e w1 ⟨rfl, hb1⟩) | ((with_reducible refine (Obc.out _).mono ?_); rintro e w1 ⟨rfl, hb1⟩) | ((with_reducible refine (Oac.out _).mono ?_); rintro e w1 ⟨rfl, hb1⟩))
  rename_i hH
  obtain ⟨a0, a1, a2, a3, a4, b0, b1, b2, b3, b4, c0, c1, c2, c3, c4, hz, hB⟩ := hH
  go_upto_region 2 with fail
  go_cut [74] (fun s74 wx => s74 = .bool false ∧ wx.cell? ⟨w.heap.size, 0, none⟩ = some (.int .i64 ak) ∧ wx.cell? ⟨w.heap.size, 1, none⟩ = some (.int .i64 as_) ∧ wx.cell? ⟨w.heap.size, 2, none⟩ = some (.bool anl) ∧ wx.cell? ⟨w.heap.size, 3, none⟩ = some (.int .i64 an) ∧ wx.cell? ⟨w.heap.size, 4, none⟩ = some (.string at_) ∧ wx.cell? ⟨w.heap.size + 1, 0, none⟩ = some (.int .i64 bk) ∧ wx.cell? ⟨w.heap.size + 1, 1, none⟩ = some (.int .i64 bs_) ∧ wx.cell? ⟨w.heap.size + 1, 2, none⟩ = some (.bool bnl) ∧ wx.cell? ⟨w.heap.size + 1, 3, none⟩ = some (.int .i64 bn) ∧ wx.cell? ⟨w.heap.size + 1, 4, none⟩ = some (.string bt_) ∧ w.heap.size + 1 < wx.heap.size ∧ Below w.heap.size w wx)
  case first =>
    have hz0 : w.heap.size + 1 < w1.heap.size := by omega
    have hy0 : w.heap.size < w1.heap.size := by omega
    clear c0 c1 c2 c3 c4 Obc Oac Oab HT HX
    rcases hx1 with rfl | rfl | rfl <;> rcases hy1 with rfl | rfl | rfl
    all_goals
      try have z1 : z ≤ 0 := by omega
      try have z2 : 0 ≤ z := by omega
      try (have z3 : z = 0 := by omega
           subst z3)
      clear ht1 ht2 hz1
      go_wp2_with (first | (go_at_call 8; (with_reducible refine (begun_any _).mono ?_); rintro e w2 ⟨rfl, hb2⟩; have hc2 := (bcell hb2).1; have hz2 : w.heap.size + 1 < w2.heap.size := (by have := hb2.size; omega); have hy2 : w.heap.size < w2.heap.size := (by omega)) | ((with_reducible refine (Oba.out _).mono ?_); rintro e w3 ⟨rfl, hb3⟩; have hc3 := (bcell hb3).1; have hz3 : w.heap.size + 1 < w3.heap.size := (by have := hb3.size; omega); have hy3 : w.heap.size < w3.heap.size := (by omega)) | ((with_reducible refine (Oaa.out _).mono ?_); rintro e w4 ⟨rfl, hb4⟩; have hc4 := (bcell hb4).1; have hz4 : w.heap.size + 1 < w4.heap.size := (by have := hb4.size; omega); have hy4 : w.heap.size < w4.heap.size := (by omega)))
      go_meet
      exact ⟨by first | rfl | rw [decide_eq_false (by omega)], box_keep (box_keep (box_keep a0 hb2) hb3) hb4, box_keep (box_keep (box_keep a1 hb2) hb3) hb4, box_keep (box_keep (box_keep a2 hb2) hb3) hb4, box_keep (box_keep (box_keep a3 hb2) hb3) hb4, box_keep (box_keep (box_keep a4 hb2) hb3) hb4, box_keep (box_keep (box_keep b0 hb2) hb3) hb4, box_keep (box_keep (box_keep b1 hb2) hb3) hb4, box_keep (box_keep (box_keep b2 hb2) hb3) hb4, box_keep (box_keep (box_keep b3 hb2) hb3) hb4, box_keep (box_keep (box_keep b4 hb2) hb3) hb4, hz4, bt (bt (bt hB hb2) hb3) hb4⟩
  case rest =>
    clear a0 a1 a2 a3 a4 b0 b1 b2 b3 b4 c0 c1 c2 c3 c4 hz hB Obc Oac Oab Oba Oaa ht1 ht2 hz1 hy1
    obtain ⟨rfl, a0, a1, a2, a3, a4, b0, b1, b2, b3, b4, hz, hB⟩ := hcut
    go_wp2
    go_loopw [10] (fun i wr => ∃ op : Int, 1 ≤ op ∧ op ≤ 7 ∧ i = .int .i64 op ∧ wr.cell? ⟨w.heap.size, 0, none⟩ = some (.int .i64 ak) ∧ wr.cell? ⟨w.heap.size, 1, none⟩ = some (.int .i64 as_) ∧ wr.cell? ⟨w.heap.size, 2, none⟩ = some (.bool anl) ∧ wr.cell? ⟨w.heap.size, 3, none⟩ = some (.int .i64 an) ∧ wr.cell? ⟨w.heap.size, 4, none⟩ = some (.string at_) ∧ wr.cell? ⟨w.heap.size + 1, 0, none⟩ = some (.int .i64 bk) ∧ wr.cell? ⟨w.heap.size + 1, 1, none⟩ = some (.int .i64 bs_) ∧ wr.cell? ⟨w.heap.size + 1, 2, none⟩ = some (.bool bnl) ∧ wr.cell? ⟨w.heap.size + 1, 3, none⟩ = some (.int .i64 bn) ∧ wr.cell? ⟨w.heap.size + 1, 4, none⟩ = some (.string bt_) ∧ w.heap.size + 1 < wr.heap.size ∧ Below w.heap.size w wr) (fun i _ => (7 - intOf i).toNat)
    case atStart => exact ⟨1, by omega, by omega, rfl, a0, a1, a2, a3, a4, b0, b1, b2, b3, b4, hz, hB⟩
    case round =>
      clear a0 a1 a2 a3 a4 b0 b1 b2 b3 b4 hz hB
      obtain ⟨op, k1, k7, rfl, a0, a1, a2, a3, a4, b0, b1, b2, b3, b4, hz, hB⟩ := hrel
      have hy : w.heap.size < wr.heap.size := by omega
      by_cases hlt : op ≤ 6
      · have n1 : ¬ (op < 1 ∨ 6 < op) := by omega
        cases hA : alikeB ak bk
        · have HTk : Hid (∀ W, Calls Tryd.prog 6 #[.int .i64 op, .agg #[.int .i64 ak, .int .i64 as_, .bool anl, .int .i64 an, .string at_], .agg #[.int .i64 bk, .int .i64 bs_, .bool bnl, .int .i64 bn, .string bt_]] W fun e w' => e = .returned (.tuple #[.int .i64 0, .int .i64 21]) ∧ Below W.heap.size W w') := by
            intro W
            have h := HT.out op W
            rw [show tstV op ⟨ak, as_, anl, an, at_⟩ ⟨bk, bs_, bnl, bn, bt_⟩ = 0 from if_pos (.inr (.inr hA)), show tstE op ⟨ak, as_, anl, an, at_⟩ ⟨bk, bs_, bnl, bn, bt_⟩ = 21 from (if_neg n1).trans (if_pos hA)] at h
            exact h
          clear n1 HT
          go_wp2_with (first | (go_at_call 6; (with_reducible refine (HTk.out _).mono ?_); rintro e w2 ⟨rfl, hb2⟩; have hc2 := (bcell hb2).1; have hz2 : w.heap.size + 1 < w2.heap.size := (by have := hb2.size; omega); have hy2 : w.heap.size < w2.heap.size := (by omega)) | (go_at_call 9; (with_reducible refine (alikeV ak as_ bk bs_ _ hA).mono ?_); rintro e w3 ⟨rfl, hb3⟩; have hc3 := (bcell hb3).1; have hz3 : w.heap.size + 1 < w3.heap.size := (by have := hb3.size; omega); have hy3 : w.heap.size < w3.heap.size := (by omega)))
          go_roundw
          case rel => exact ⟨op + 1, by omega, by omega, by go_num, box_keep (box_keep a0 hb2) hb3, box_keep (box_keep a1 hb2) hb3, box_keep (box_keep a2 hb2) hb3, box_keep (box_keep a3 hb2) hb3, box_keep (box_keep a4 hb2) hb3, box_keep (box_keep b0 hb2) hb3, box_keep (box_keep b1 hb2) hb3, box_keep (box_keep b2 hb2) hb3, box_keep (box_keep b3 hb2) hb3, box_keep (box_keep b4 hb2) hb3, hz3, bt (bt hB hb2) hb3⟩
          case measure => simp [intOf]; omega
        · have hE0 : tstE op ⟨ak, as_, anl, an, at_⟩ ⟨bk, bs_, bnl, bn, bt_⟩ = 0 := (if_neg n1).trans (if_neg (by rw [hA]; decide))
          have n2 : ¬ (op < 1 ∨ 6 < op ∨ alikeB ak bk = false) := by rw [hA]; rintro (h | h | h) <;> first | omega | cases h
          obtain ⟨t, ht⟩ : ∃ t, tstV op ⟨ak, as_, anl, an, at_⟩ ⟨bk, bs_, bnl, bn, bt_⟩ = t := ⟨_, rfl⟩
          have HTk : Hid (∀ W, Calls Tryd.prog 6 #[.int .i64 op, .agg #[.int .i64 ak, .int .i64 as_, .bool anl, .int .i64 an, .string at_], .agg #[.int .i64 bk, .int .i64 bs_, .bool bnl, .int .i64 bn, .string bt_]] W fun e w' => e = .returned (.tuple #[.int .i64 t, .int .i64 0]) ∧ Below W.heap.size W w') := by
            intro W
            have h := HT.out op W
            rw [hE0, ht] at h
            exact h
          have hnn : (anl = true ∨ (anl = false ∧ bnl = true)) ∧ t = 2 ∨ (anl = false ∧ bnl = false) ∧ t = truthI (holdsB op x) := by
            cases anl
            · cases bnl
              · have hx : cmpV ⟨ak, as_, false, an, at_⟩ ⟨bk, bs_, false, bn, bt_⟩ = x := (ordV_al rfl rfl hA).symm.trans HX.out
                exact .inr ⟨⟨rfl, rfl⟩, by rw [← ht, ← hx]; exact (if_neg n2).trans (if_neg (by simp))⟩
              · exact .inl ⟨.inr ⟨rfl, rfl⟩, by rw [← ht]; exact (if_neg n2).trans (if_pos rfl)⟩
            · exact .inl ⟨.inl rfl, by rw [← ht]; exact (if_neg n2).trans (if_pos rfl)⟩
          have HN := Lib.hid hnn
          clear n1 n2 hE0 HT ht hnn
          go_upto_region 12 with (first | (go_at_call 6; (with_reducible refine (HTk.out _).mono ?_); rintro e w2 ⟨rfl, hb2⟩; have hc2 := (bcell hb2).1; have hz2 : w.heap.size + 1 < w2.heap.size := (by have := hb2.size; omega); have hy2 : w.heap.size < w2.heap.size := (by omega)))
          go_cut [138] from 75 to 147 (fun s138 wx => s138 = .bool (holdsB op x) ∧ wx = w2)
          case first =>
            clear HN HX HTk hA
            rcases op_cases k1 hlt with rfl | rfl | rfl | rfl | rfl | rfl <;> rcases hx1 with rfl | rfl | rfl
            all_goals
              as_aux_lemma =>
                go_wp2_with fail
                go_meet
                exact ⟨rfl, rfl⟩
          case rest =>
            obtain ⟨rfl, rfl⟩ := hcut
            have t1 : truthI true = 1 := rfl
            have t0 : truthI false = 0 := rfl
            rcases HN.out with ⟨rfl | ⟨rfl, rfl⟩, rfl⟩ | ⟨⟨rfl, rfl⟩, rfl⟩
            all_goals
              cases hH : holdsB op x
              all_goals
                go_wp2
                go_roundw
                case rel => exact ⟨op + 1, by omega, by omega, by go_num, box_keep a0 hb2, box_keep a1 hb2, box_keep a2 hb2, box_keep a3 hb2, box_keep a4 hb2, box_keep b0 hb2, box_keep b1 hb2, box_keep b2 hb2, box_keep b3 hb2, box_keep b4 hb2, hz2, bt hB hb2⟩
                case measure => simp [intOf]; omega
      · go_wp2
        go_ret
        exact ⟨rfl, hB⟩

set_option maxRecDepth 100000 in
theorem valueOrdered_lifted (os : Os) (started : os.Started) (H : Type) (enc : TypeId × Value → H) :
    ReturnsInHanded {} Tryd.checked os 5 .any (fun w args => (Rows.valueOrderedSpec.pre enc Tryd.prog Tryd.f5 [] false w args ∧ laidMetH Tryd.prog laid6 w) ∧ sizedMet enc Tryd.prog Tryd.f5 (OpenSpec.ofChange Rows.valueOrderedSpec) false w args)
      (Rows.valueOrderedSpec.post enc Tryd.prog Tryd.f5 false true false false) := by
  refine returnsInHanded_of_change_and (C := Tryd.checked) (X := fun w _ => laidMetH Tryd.prog laid6 w) (fun _ _ _ hh h => h.of_heap hh) own started (by kernel_rfl) Tryd.func5
    (ChangeSpec.witness_shaped (enc := enc) (C := Tryd.checked) (os := os) (X := fun w _ => laidMetH Tryd.prog laid6 w) false (World.laidAll Tryd.prog os laid6) #[.agg #[.int .i64 0, .int .i64 0, .bool false, .int .i64 0, .string ⟨#[]⟩], .agg #[.int .i64 0, .int .i64 0, .bool false, .int .i64 0, .string ⟨#[]⟩], .agg #[.int .i64 0, .int .i64 0, .bool false, .int .i64 0, .string ⟨#[]⟩]] 8 (World.laidAll_os _ _ _) (World.shaped_of_ZipB (by kernel_rfl) (by kernel_rfl)) (by kernel_rfl) (by kernel_rfl) (by kernel_rfl)
      (by rw [MakeChecks.laidMetH_plain _ _ _ (by kernel_rfl)]; exact laidMet_laidAll _ (by kernel_rfl) (by kernel_rfl))) ?_
  intro W base args ds gs before hval0 hW _ hsz hL _
  have hval : ∀ (j : Nat) t v, Tryd.f5.params[j]? = some t → args[j]? = some v → Value.okWide Tryd.prog W .any base t v := hval0
  have hW' := hW
  obtain ⟨p, q, hA0, hV, rfl, hfz, hnd⟩ := hW
  have hA : DataW.TrodAll enc Tryd.prog W 0 (fun _ => true) true Tryd.f5.params.toList args.toList ds p := hA0
  rw [Tryd.params5] at hA hval
  obtain ⟨v0, vs0, d0, ds0, p0, q0, hargs, rfl, rfl, h0, r0⟩ := trodAll_cons hA
  obtain ⟨v1, vs1, d1, ds1, p1, q1, rfl, rfl, rfl, h1, r1⟩ := trodAll_cons r0
  obtain ⟨v2, vs2, d2, ds2, p2, q2, rfl, rfl, rfl, h2, r2⟩ := trodAll_cons r1
  obtain ⟨rfl, rfl, rfl⟩ := trodAll_nil r2
  obtain rfl : args = #[v0, v1, v2] := by cases args; simp_all
  obtain ⟨rfl, rfl⟩ := trodVars_none hV
  simp only [List.append_nil] at hW'
  have hlt0 : ∀ x ∈ p0, x.block < W.heap.size := fun x hx => hW'.lt x (by simp [hx])
  have hlt1 : ∀ x ∈ p1, x.block < W.heap.size := fun x hx => hW'.lt x (by simp [hx])
  have hlt2 : ∀ x ∈ p2, x.block < W.heap.size := fun x hx => hW'.lt x (by simp [hx])
  obtain ⟨a, rfl, ok0⟩ := open_val (hval 0 25 v0 rfl rfl) h0
  obtain ⟨b, rfl, ok1⟩ := open_val (hval 1 25 v1 rfl rfl) h1
  obtain ⟨c, rfl, ok2⟩ := open_val (hval 2 25 v2 rfl rfl) h2
  clear hA0 hval0
  refine (valueOrdered_walk a b c W ok0 ok1 ok2).mono fun e W' ⟨he, hg⟩ => ?_
  subst he
  exact ⟨_, rfl, post_of_below (pa := p0 ++ (p1 ++ (p2 ++ []))) (pv := []) hW' (fun _ _ _ => (trodAll_cons_mk (shut_bool Tryd.underlying4 _) trodAll_mk0)) (fun sp hsp => (trodAll_cons_mk (WideElems.Trod_stays laidOut (by kernel_rfl) (of_decide_eq_true (by kernel_rfl)) h0 (fun x hx => hg.same (hlt0 x hx)) (fun x hx => hsp x (by simp [hx]))) (trodAll_cons_mk (WideElems.Trod_stays laidOut (by kernel_rfl) (of_decide_eq_true (by kernel_rfl)) h1 (fun x hx => hg.same (hlt1 x hx)) (fun x hx => hsp x (by simp [hx]))) (trodAll_cons_mk (WideElems.Trod_stays laidOut (by kernel_rfl) (of_decide_eq_true (by kernel_rfl)) h2 (fun x hx => hg.same (hlt2 x hx)) (fun x hx => hsp x (by simp [hx]))) trodAll_mk0)))) (fun _ _ => rfl) (by simp) hg (ok_one (by kernel_rfl) rfl (okWide_bool_mk Tryd.underlying4 _))⟩

theorem valueOrdered_holds : Rows.ValueOrderedSaid :=
  OpenClaim.holds_of_wide 5 Tryd.f5 rfl rfl rfl rfl rfl rfl rfl ⟨rfl, rfl, rfl, rfl, rfl⟩ rfl rfl rfl rfl rfl (by kernel_rfl) Tryd.func5 (by kernel_rfl)
    (of_decide_eq_true (by kernel_rfl)) (by unfold Func.isWrapper; first | (rw [if_pos (by decide +kernel)]; kernel_rfl) | (rw [if_neg (by decide +kernel)]; exact ⟨rfl, rfl⟩))
    (fun os started H enc _ => valueOrdered_lifted os started H enc)

theorem valueOrdered_card : Rows.ValueOrderedCardSaid :=
  Claim7.holds_tied_plain_at .later [] [.data, .data, .data, .data, .data, .pinned] true Rows.valueOrderedCard.stood.harness false
    valueOrdered_holds (fun _ h => by cases h) (by kernel_rfl) (fun _ h => by cases h) valueOrdered_row_tie rfl ⟨rfl, rfl⟩ (by kernel_rfl) rfl
    (fun f fn hf hfn => by
      obtain rfl : f = 5 := Option.some.inj ((show Tryd.prog.funcNamed "colonnade/colonnadelaw02.ValueOrdered" = some 5 by kernel_rfl).symm.trans hf) |>.symm
      obtain rfl : fn = Tryd.f5 := (Option.some.inj (Tryd.func5.symm.trans hfn)).symm
      exact ⟨by kernel_rfl, fun j t ht => by
        rw [Tryd.params5] at ht
        have hm : t ∈ [25, 25, 25] := by simpa using Array.mem_of_getElem? ht
        have hall : ([25, 25, 25].all fun u => !Tryd.prog.wantsStandIn u) = true := by kernel_rfl
        exact (show Tryd.prog.wantsStandIn t = false by simpa using List.all_eq_true.1 hall t hm)⟩)
    (by kernel_rfl)
end Go.Proofs.YtglaikeaigbiiaaDoor
