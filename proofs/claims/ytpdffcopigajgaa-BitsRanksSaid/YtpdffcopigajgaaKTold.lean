/-
  Of bits: the laws' told: are just these places told, up to where it is left?
-/
import Derived.Test.YtpdffcopigajgaaKPick
import Derived.Test.YtpdffcopigajgaaKWhere
namespace Go.Proofs.Ytpdffcopigajgaa
open Go.ChangeShapes Go.WideShapes Go.ChangeAt Go.RowKit Go.Shelf
set_option linter.unusedVariables false
attribute [local go_sem] Oper.semAt_some

structure TellI (w : World) (aw : Option Addr) (n cw : Nat) (stop : Int) (P : List UInt8) (b7 : Nat) (pre : List Nat) (W : World) : Prop where
  y4 : Boxed W w.heap.size 50 (.slice aw n cw)
  y5 : Boxed W (w.heap.size + 1) 3 (.int .i64 stop)
  y6 : Boxed W (w.heap.size + 2) 4 (.bool false)
  y7 : Boxed W b7 3 (.int .i64 (pre.length : Int))
  pr : pre = (whereL P).take pre.length
  bl : Below w.heap.size w W
structure TellX (w : World) (P : List UInt8) (pre : List Nat) (W : World) : Prop where
  at_ : Boxed W (w.heap.size + 2) 4 (.bool true) ∨ Boxed W (w.heap.size + 2) 4 (.bool false) ∧ ∀ k, pre ≠ whereU P k
  bl : Below w.heap.size w W
theorem TellI.kept {w W W' : World} {aw : Option Addr} {n cw : Nat} {stop : Int} {P : List UInt8} {b7 N0 : Nat} {pre : List Nat} {row : Option Nat} (h : TellI w aw n cw stop P b7 pre W) (hw : w.heap.size ≤ N0) (hg : W.grownBy W' row) (hr : ∀ r, row = some r → N0 ≤ r ∧ ∃ o : Obj, W.heap[r]? = some o ∧ o.isCells = false) : TellI w aw n cw stop P b7 pre W' :=
  ⟨boxed_own' h.y4 hg fun r e => (hr r e).2, boxed_own' h.y5 hg fun r e => (hr r e).2, boxed_own' h.y6 hg fun r e => (hr r e).2, boxed_own' h.y7 hg fun r e => (hr r e).2, h.pr, below_grown h.bl hg fun r e => Nat.le_trans hw (hr r e).1⟩
theorem TellX.kept {w W W' : World} {P : List UInt8} {N0 : Nat} {pre : List Nat} {row : Option Nat} (h : TellX w P pre W) (hw : w.heap.size ≤ N0) (hg : W.grownBy W' row) (hr : ∀ r, row = some r → N0 ≤ r ∧ ∃ o : Obj, W.heap[r]? = some o ∧ o.isCells = false) : TellX w P pre W' :=
  ⟨h.at_.imp (fun h => boxed_own' h hg fun r e => (hr r e).2) (fun h => ⟨boxed_own' h.1 hg fun r e => (hr r e).2, h.2⟩), below_grown h.bl hg fun r e => Nat.le_trans hw (hr r e).1⟩
theorem prefix_ne {P : List UInt8} {pre : List Nat} {x : Nat} (hp : pre = (whereL P).take pre.length) (hl : pre.length < (whereL P).length) (hx : ¬ x = (whereL P)[pre.length]) : ∀ k, pre ++ [x] ≠ whereU P k := fun k e => by
  have h1 := whereU_prefix P k
  rw [← e] at h1
  have h2 : (pre ++ [x])[pre.length]? = some x := by simp
  rw [h1, List.getElem?_take] at h2
  split at h2
  · rw [List.getElem?_eq_getElem hl] at h2
    exact hx (Option.some.inj h2).symm
  · cases h2
theorem prefix_snoc {P : List UInt8} {pre : List Nat} (hp : pre = (whereL P).take pre.length) (hl : pre.length < (whereL P).length) : pre ++ [(whereL P)[pre.length]] = (whereL P).take (pre ++ [(whereL P)[pre.length]]).length := by
  rw [List.length_append, List.length_singleton, List.take_succ_eq_append_getElem hl, ← hp]
theorem four_world (w : World) (u v x y : Value) (t1 t2 t3 t4 : TypeId) : ∃ W4, (((w.alloc (.cells #[u] t1)).alloc (.cells #[v] t2)).alloc (.cells #[x] t3)).alloc (.cells #[y] t4) = W4 ∧ W4.heap.size = w.heap.size + 4 ∧ Below w.heap.size w W4 ∧ Boxed W4 w.heap.size t1 u ∧ Boxed W4 (w.heap.size + 1) t2 v ∧ Boxed W4 (w.heap.size + 2) t3 x ∧ Boxed W4 (w.heap.size + 3) t4 y := by
  refine ⟨_, rfl, by simp, bt (bt (bt (alloc_below _ _) (alloc_below _ _)) (alloc_below _ _)) (alloc_below _ _), (((Boxed.new w t1 u).alloc _).alloc _).alloc _, ?_, ?_, ?_⟩
  · have := Boxed.new (w.alloc (.cells #[u] t1)) t2 v
    rw [World.size_alloc] at this
    exact (this.alloc _).alloc _
  · have := Boxed.new ((w.alloc (.cells #[u] t1)).alloc (.cells #[v] t2)) t3 x
    rw [World.size_alloc, World.size_alloc] at this
    exact this.alloc _
  · have := Boxed.new (((w.alloc (.cells #[u] t1)).alloc (.cells #[v] t2)).alloc (.cells #[x] t3)) t4 y
    rw [World.size_alloc, World.size_alloc, World.size_alloc] at this
    exact this
theorem intsOf_get (l : List Nat) (i : Nat) (h : i < l.length) : (intsOf l)[i]'(by rw [intsOf_len]; exact h) = (l[i] : Int) := by simp [intsOf]
set_option maxHeartbeats 16000000 in
set_option maxRecDepth 100000 in
theorem told_any (Bs : Nat) (N : Int) (a : Option Addr) (ca : Nat) (P : List UInt8) (aw : Option Addr) (cw n : Nat) (stop : Int) (w : World) (hP : P.length ≤ 100000) (hB : w.heap[Bs]? = some (.cells #[.int .i64 N, .slice a P.length ca] 25 (0, 0))) (hr : BRd w a P) (ha : ∀ x, a = some x → x.block < w.heap.size) (hn : n = (whereL P).length) (hw : IRd w aw (intsOf (whereL P))) :
    Calls Try.prog 46 #[.func (.func 59) #[] #[.pointer (some ⟨Bs, 0, none⟩)], .slice aw n cw, .int .i64 stop] w fun e w' => e = .returned (.bool true) ∧ Below w.heap.size w w' := by
  have HBS := Lib.hid hB
  have HR := Lib.hid hr
  have HA := Lib.hid ha
  have HN := Lib.hid hn
  have HIW := Lib.hid hw
  have hnB : n ≤ 800000 := by
    have h1 := List.length_filter_le (fun x => bitL P x) (List.range (8 * P.length))
    rw [List.length_range] at h1
    have h3 : (whereL P).length ≤ 8 * P.length := h1
    omega
  have HPB := Lib.hid hP
  clear hB hr ha hn hw hP
  refine (callsIn_wide (n := 6)).1 ?_
  refine callsIn_of_wp_marks Try.func46 rfl trivial ?_ rfl
  simp only [Try.ntmps46, List.size_toArray, List.length_cons, List.length_nil, Nat.reduceAdd, Nat.reduceSub, Array.replicate_succ, Array.replicate_zero, List.push_toArray, List.append_toArray, List.nil_append, List.cons_append]
  gi_wp2_with fail
  obtain ⟨W4, hW4, hS4, hb04, x4, x5, x6, x7⟩ := four_world w (.slice aw n cw) (.int .i64 stop) (.bool false) (.int .i64 0) 50 3 4 3
  rw [hW4]
  have HS4 := Lib.hid hS4
  have HB4 := Lib.hid hb04
  have HI0 : Hid (TellI w aw n cw stop P (w.heap.size + 3) [] W4) := ⟨x4, x5, x6, x7, by simp, hb04⟩
  clear hW4 hS4 hb04 x4 x5 x6 x7
  refine wpIn_rangeFunc_ownG rfl (by omega) (gf := 59) (lb := #[.pointer (some ⟨Bs, 0, none⟩)]) rfl trivial (enters_of Try.func59 (by kernel_rfl) rfl)
    (all_stops (6 - 1) (by omega) Bs N a ca P (by have := HPB.out; omega) w HBS.out HR.out HA.out)
    KeptA.trans (fun W l o o' hl hlo _ _ => ⟨by simp [World.putObj], World.putObj_heap_other (by have := box_lt HBS.out; have := HB4.out.size; omega), fun x e => World.putObj_heap_other (by have := HA.out x e; have := HB4.out.size; omega)⟩) HB4.out (fun _ => rfl)
    (fun pre W => TellI w aw n cw stop P (w.heap.size + 3) pre W)
    (fun cd pre W => cd = .ret ∧ TellX w P pre W)
    (fun pre W W' row hI hg hr => hI.kept HB4.out.size hg hr)
    (fun cd pre W W' row hI hg hr => ⟨hI.1, hI.2.kept HB4.out.size hg hr⟩)
    HI0.out ?a1 ?assign ?body ?done ?stop
  case assign =>
    intro lp x W K hK
    gi_wp2
    exact hK
  case body =>
    rintro lp pre x W hI hlt
    have c4 := hI.y4.cell
    have c5 := hI.y5.cell
    have c6 := hI.y6.cell
    have f6 := hI.y6.frozen
    have c7 := hI.y7.cell
    have f7 := hI.y7.frozen
    have HI := Lib.hid hI
    have hpl : pre.length < n := by rw [HN.out]; exact hlt
    have hpI : (pre.length : Int) < (n : Int) := by omega
    have hpI2 : decide ((n : Int) ≤ (pre.length : Int)) = false := by simp; omega
    obtain ⟨gw, ow, rfl, hgw, hcw⟩ := HIW.out (by rw [intsOf_len]; omega)
    have cw0 := ((bcell hI.bl).1 _ _ hgw).trans (hcw pre.length (by rw [intsOf_len]; exact hlt))
    rw [intsOf_get _ _ hlt] at cw0
    have HNE := Lib.hid (fun hx => prefix_ne (x := x) hI.pr hlt hx)
    have HSN := Lib.hid (prefix_snoc hI.pr hlt)
    have HKP := Lib.hid (fun (b : Nat) (u : Value) (h1 : w.heap.size ≤ b) => (show KeptA Bs a W (W.setCell ⟨b, 0, none⟩ u) from ⟨by simp [World.setCell], Below.heap_setCell _ _ _ _ (by have := box_lt HBS.out; simp; omega), fun y e => Below.heap_setCell _ _ _ _ (by have := HA.out y e; simp; omega)⟩))
    have hk0 : (0 : Int) ≤ (pre.length : Int) := by omega
    clear hI hcw
    generalize (whereL P)[pre.length] = y at *
    clear hlt
    by_cases hxy : x = y
    · subst hxy
      have hxx : ((x : Int) != (x : Int)) = false := by simp
      by_cases hst : (pre.length : Int) + 1 = stop
      · have hs1 : ((pre.length : Int) + 1 == stop) = true := by simpa using hst
        clear hst
        gi_wp2_with fail
        refine ⟨((KeepsOthers.setCell _ _ _).from _).trans ((KeepsOthers.setCell _ _ _).from _), rfl, .inl ((HI.out.y6.other (by omega) _).set _), (HI.out.bl.setCell (by simp; omega) _).setCell (by simp; omega) _⟩
      · have hs1 : ((pre.length : Int) + 1 == stop) = false := by simpa using hst
        clear hst
        gi_wp2_with fail
        have e : ((pre ++ [x]).length : Int) = (pre.length : Int) + 1 := by simp
        exact ⟨(KeepsOthers.setCell _ _ _).from _, HKP.out _ _ (by omega), HI.out.y4.other (by omega) _, HI.out.y5.other (by omega) _, HI.out.y6.other (by omega) _, by rw [e]; exact HI.out.y7.set _, HSN.out, HI.out.bl.setCell (by simp; omega) _⟩
    · have hxx : ((x : Int) != (y : Int)) = true := by simp; omega
      have HNX := Lib.hid (HNE.out hxy)
      clear hxy
      gi_wp2_with fail
      exact ⟨(KeepsOthers.setCell _ _ _).from _, rfl, .inr ⟨HI.out.y6.set _, HNX.out⟩, HI.out.bl.setCell (by simp; omega) _⟩
  case done =>
    rintro D ys W hD hys hI hK
    have c4 := hI.y4.cell
    have c7 := hI.y7.cell
    have c6 := hI.y6.cell
    have f6 := hI.y6.frozen
    have hyl : (ys.length : Int) = (n : Int) := by rw [hys, HN.out]
    rw [hyl] at c7
    have HI := Lib.hid hI
    have HK := Lib.hid hK
    have HD := Lib.hid hD
    clear hI hK hD hys hyl
    gi_wp2_with fail
    have hK5 := (KeepsOthers.setCell W ⟨w.heap.size + 1 + 1, 0, none⟩ (.bool true)).same D _ HK.out rfl
    have y6 := HI.out.y6.set (.bool true)
    have hrow : ∀ r, some D = some r → W4.heap.size ≤ r ∧ ∃ o : Obj, (W.setCell ⟨w.heap.size + 1 + 1, 0, none⟩ (.bool true)).heap[r]? = some o ∧ o.isCells = false := fun r e => by
      cases e
      exact ⟨HD.out, _, hK5, rfl⟩
    have hgr := grownBy_putObj' (W.setCell ⟨w.heap.size + 1 + 1, 0, none⟩ (.bool true)) D (.deferred none)
    have q6 := (boxed_own' y6 hgr fun r e => (hrow r e).2).cell
    have hb5 := below_grown (HI.out.bl.setCell (p := ⟨w.heap.size + 1 + 1, 0, none⟩) (by simp; omega) (.bool true)) hgr fun r e => by have := (hrow r e).1; have := HB4.out.size; omega
    refine ⟨by simp, .inl ⟨_, _, rfl, run_takeDeferred hK5, ?_⟩⟩
    refine ⟨.bool true, by simp [results, Try.results46, go_sem, q6], rfl, hb5⟩
  case stop =>
    rintro D cd pre W hD ⟨j, hj⟩ ⟨rfl, hX⟩ hK
    have HX := Lib.hid hX
    have HK := Lib.hid hK
    have HD := Lib.hid hD
    clear hX hK hD
    gi_wp2_with fail
    have hrow : ∀ r, some D = some r → W4.heap.size ≤ r ∧ ∃ o : Obj, W.heap[r]? = some o ∧ o.isCells = false := fun r e => by
      cases e
      exact ⟨HD.out, _, HK.out, rfl⟩
    have hgr := grownBy_putObj' W D (.deferred none)
    have y6 := HX.out.at_.elim id fun h => absurd hj (h.2 j)
    have q6 := (boxed_own' y6 hgr fun r e => (hrow r e).2).cell
    have hb5 := below_grown HX.out.bl hgr fun r e => by have := (hrow r e).1; have := HB4.out.size; omega
    refine ⟨by simp, .inl ⟨_, _, rfl, run_takeDeferred HK.out, ?_⟩⟩
    refine ⟨.bool true, by simp [results, Try.results46, go_sem, q6], rfl, hb5⟩
end Go.Proofs.Ytpdffcopigajgaa
