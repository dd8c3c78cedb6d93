/-
  Contracts of CheckType, Check and the makings of values.
-/
import Derived.Test.YtogdkhnakenbcaaGreatDoorVOpen
import Derived.Maps.Own
import Derived.Maps.OwnOps
import Derived.Maps.OwnSet
import Derived.Carry
namespace Go.Proofs.YtogdkhnakenbcaaGreatDoor
open Go.ChangeShapes Go.WideShapes Go.ChangeAt Go.RowKit Go.Maps
set_option linter.unusedVariables false

/-- A map literal's entry is laid in as a store is. -/
theorem wpList_insert_own {H : Type} {P : Program} (w : World) {ops : Array Oper} {rest : List Oper} {o : Oper} {a : Act} {Q : Exit → Act → World → Prop}
    (hg : o.guard = none) (m x v : Operand) (t : TypeId) (hop : o.op = Op.insert t m x v)
    (k e : TypeId) (K : Keyed P k) (ht : P.underlying t = some (.map k e)) (R : Value → Option (DataW H × List MemPlace)) (b n : Nat) (D : DataW H)
    (hm : a.eval m = .map (some b)) (hown : w.ownsMap P k R b n D) (hn : n < maxLen) (key val : Value) (kl : Lit) (hx : a.eval x = key) (hv : a.eval v = val) (hkey : keyOf P k key = some kl)
    (d : DataW H) (ps : List MemPlace) (hval : R val = some (d, ps))
    (hK : ∀ w', w'.ownsMap P k R b (n + 1) (D.put kl d) → w.grownBy w' (some b) → wpList P ops Q rest (a.put o.dst undef) w') :
    wpList P ops Q (o :: rest) a w := by
  refine wpList_plain hg fun K' hK' => ?_
  obtain ⟨w', hrun, r1, r2⟩ := hown.update K ht hn hkey hval
  unfold Oper.wp
  simp [execOp, hop, hm, hx, hv, hrun, Result.andThen]
  exact hK' _ _ (hK w' r1 r2)

theorem lawI : Keyed Tryz.prog 3 := int_keyed Tryz.underlying3
theorem zeroI (w : World) : (zeroValue 3).run Tryz.prog w = .ok (.int .i64 0) w := by kernel_rfl
theorem keyI (k : Int) (h : (Lit.int .i64 k).wf = true) : keyOf Tryz.prog 3 (.int .i64 k) = some (.int .i64 k) := keyOf_int_mk Tryz.underlying3 h
/-- The greatest scales by kind. -/
def scalesD : DataW Unit := (((((DataW.map ([] : List (Lit × DataW Unit))).put (.int .i64 1) (.lit (.int .i64 0))).put (.int .i64 2) (.lit (.int .i64 0))).put (.int .i64 3) (.lit (.int .i64 18))).put (.int .i64 4) (.lit (.int .i64 0))).put (.int .i64 5) (.lit (.int .i64 0))

def greatI (k : Int) : Int := if k = 3 then 18 else 0
def kindB (k : Int) : Bool := decide (1 ≤ k) && decide (k ≤ 5)
theorem scales_eq : scalesD = .map [(.int .i64 1, .lit (.int .i64 0)), (.int .i64 2, .lit (.int .i64 0)), (.int .i64 3, .lit (.int .i64 18)), (.int .i64 4, .lit (.int .i64 0)), (.int .i64 5, .lit (.int .i64 0))] := by rfl
theorem kind_five (k : Int) : k = 1 ∨ k = 2 ∨ k = 3 ∨ k = 4 ∨ k = 5 ∨ (kindB k = false ∧ greatI k = 0 ∧ (1 ≠ k ∧ 2 ≠ k ∧ 3 ≠ k ∧ 4 ≠ k ∧ 5 ≠ k)) := by
  by_cases h : 1 ≤ k ∧ k ≤ 5
  · omega
  · exact .inr (.inr (.inr (.inr (.inr ⟨by unfold kindB; simp; omega, by unfold greatI; rw [if_neg (by omega)], by omega⟩))))
theorem scales_has (k : Int) : Maps.has scalesD (.int .i64 k) = kindB k := by
  rw [scales_eq]
  rcases kind_five k with rfl | rfl | rfl | rfl | rfl | ⟨h, _, h1, h2, h3, h4, h5⟩
  · rfl
  · rfl
  · rfl
  · rfl
  · rfl
  · rw [h]
    simp [Maps.has, Lit.sameKey, h1, h2, h3, h4, h5]
theorem scales_at (k c : Int) (h : scalesD.atKey (.int .i64 k) (.lit (.int .i64 0)) = .lit (.int .i64 c)) : c = greatI k := by
  rw [scales_eq] at h
  rcases kind_five k with rfl | rfl | rfl | rfl | rfl | ⟨_, hg, h1, h2, h3, h4, h5⟩
  · exact (Lit.int.inj (DataW.lit.inj h)).2.symm
  · exact (Lit.int.inj (DataW.lit.inj h)).2.symm
  · exact (Lit.int.inj (DataW.lit.inj h)).2.symm
  · exact (Lit.int.inj (DataW.lit.inj h)).2.symm
  · exact (Lit.int.inj (DataW.lit.inj h)).2.symm
  · rw [hg]
    simp [DataW.atKey, List.find?, Lit.sameKey, h1, h2, h3, h4, h5] at h
    omega
theorem ret_val {a b : Int} {x y : Bool} (h : a = b) (h' : x = y) : Ending.returned (.tuple #[.int .i64 a, .bool x]) = .returned (.tuple #[.int .i64 b, .bool y]) := by rw [h, h']
set_option maxHeartbeats 800000 in
set_option maxRecDepth 100000 in
theorem great_any (k : Int) (w : World) (hk : In64 k) : Calls Tryz.prog 44 #[.int .i64 k] w fun e w' => e = .returned (.tuple #[.int .i64 (greatI k), .bool (kindB k)]) ∧ Below w.heap.size w w' := by
  have hmm := @run_makeMap Tryz.prog
  have hwf := Lib.hid (WalkArith.wf_i64 (by unfold In64 at hk; omega) : (Lit.int .i64 k).wf = true)
  have hmx : Hid ((4 : Nat) < maxLen) := by show _ < _; unfold maxLen; omega
  clear hk
  go_enter Tryz.func44, Tryz.ntmps44
  go_wp2_with (first
    | (refine wpList_insert_own (H := Unit) _ rfl _ _ _ 89 rfl 3 3 lawI Tryz.underlying89 (plainElem Tryz.prog 3) w.heap.size 0 (.map []) rfl (World.ownsMap_made _ _ _ _) (Nat.lt_of_le_of_lt (by omega) hmx.out) _ _ _ rfl rfl (keyI _ rfl) _ [] (plainElem_int Tryz.underlying3 rfl) ?_; intro w1 hown1 hgrow1; have hnx := ((Below.refl w.heap.size w).alloc (Nat.le_refl _) (Obj.map #[] 0)).grown hgrow1 (by simp) (fun j hj => by cases hj; exact Nat.le_refl _); clear hgrow1)
    | (refine wpList_insert_own (H := Unit) _ rfl _ _ _ 89 rfl 3 3 lawI Tryz.underlying89 (plainElem Tryz.prog 3) w.heap.size _ _ rfl (by assumption) (Nat.lt_of_le_of_lt (by omega) hmx.out) _ _ _ rfl rfl (keyI _ rfl) _ [] (plainElem_int Tryz.underlying3 rfl) ?_; intro w1 hown1 hgrow1; have hnx := hnx.grown hgrow1 hnx.size (fun j hj => by cases hj; exact Nat.le_refl _); clear hgrow1)
    | (refine wpList_lookup_own_ok_int _ rfl _ _ 89 rfl 3 3 .i64 lawI Tryz.underlying89 Tryz.underlying3 (zeroI _) w.heap.size _ _ rfl (by assumption) _ _ rfl (keyI k hwf.out) ?_; intro c hat hwc))
  go_ret2
  exact ⟨ret_val (scales_at k c hat) (scales_has k), hnx⟩
end Go.Proofs.YtogdkhnakenbcaaGreatDoor
