/-
  Of bits: All, and Pick.
-/
import Derived.Test.YtpdffcopigajgaaKAll
namespace Go.Proofs.Ytpdffcopigajgaa
open Go.ChangeShapes Go.WideShapes Go.ChangeAt Go.RowKit Go.Shelf
set_option linter.unusedVariables false
attribute [local go_sem] Oper.semAt_some

/-- What All answers. -/
def AllPost (t : List Bool) (w : World) (e : Ending) (w' : World) : Prop := ∃ B a c, e = .returned (.func (.func 59) #[] #[.pointer (some ⟨B, 0, none⟩)]) ∧ w.heap.size ≤ B ∧ w'.heap[B]? = some (.cells #[.int .i64 (t.length : Int), .slice a (pkB t).length c] 25 (0, 0)) ∧ BRd w' a (pkB t) ∧ (∀ x, a = some x → w.heap.size ≤ x.block ∧ x.block < w'.heap.size) ∧ Below w.heap.size w w'
set_option maxHeartbeats 4000000 in
set_option maxRecDepth 100000 in
theorem all_any (N : Int) (A : Option Addr) (c : Nat) (l : List UInt8) (w : World) (hA : BRd w A l) (hl : l.length ≤ 140737488355328) : Calls Try.prog 42 #[.agg #[.int .i64 N, .slice A l.length c]] w (AllPost (trB N l) w) := by
  have HX := Lib.hid (box_new w (.cells #[.int .i64 N, .slice A l.length c] 25))
  have HB := Lib.hid (alloc_below w (.cells #[.int .i64 N, .slice A l.length c] 25))
  have HC := Lib.hid (normal_any N A c l _ (hA.below HB.out) hl)
  generalize trB N l = t at *
  unfold BPost at HC
  clear hA hl
  go_enter Try.func42, Try.ntmps42
  go_wp2_with fail
  refine HC.out.mono ?_
  rintro e w2 ⟨a, c2, rfl, ho, hac, hnc, hb⟩
  have x := box_next HX.out hb
  have hf := set2_fr w2 w.heap.size (.int .i64 (t.length : Int)) (.slice a (pkB t).length c2)
  have Y := Lib.hid (box_set2 x (.int .i64 (t.length : Int)) (.slice a (pkB t).length c2))
  have HO := Lib.hid (ho.fr hf fun j h e => by subst e; exact box_off ho x (by decide) h)
  have hb2 := bt HB.out hb
  have B2 := Lib.hid (below_tr hb2 (hf.below (B := w.heap.size) (fun j e => by omega) hb2.size))
  obtain ⟨⟨r0, r1⟩, rf⟩ := box_cells2 x
  clear ho hac hnc hb x hf hb2 HC HX HB
  go_wp2_with fail
  go_ret
  refine ⟨_, a, c2, rfl, Nat.le_refl _, Y.out, HO.out.brd, fun x e => ?_, B2.out⟩
  subst e
  have h := World.ownsRow.lt HO.out x.block rfl
  have h1 := h.1
  simp at h1
  exact ⟨by omega, h.2⟩
/-- The blocks that the iterator reads lie as they lay. -/
def KeptA (B : Nat) (a : Option Addr) (X Y : World) : Prop := X.heap.size ≤ Y.heap.size ∧ Y.heap[B]? = X.heap[B]? ∧ ∀ x, a = some x → Y.heap[x.block]? = X.heap[x.block]?
theorem KeptA.trans {B : Nat} {a : Option Addr} {X Y Z : World} (h : KeptA B a X Y) (k : KeptA B a Y Z) : KeptA B a X Z := ⟨Nat.le_trans h.1 k.1, k.2.1.trans h.2.1, fun x e => (k.2.2 x e).trans (h.2.2 x e)⟩
theorem KeptA.refl {B : Nat} {a : Option Addr} (X : World) : KeptA B a X X := ⟨Nat.le_refl _, rfl, fun _ _ => rfl⟩
theorem KeptA.below {B : Nat} {a : Option Addr} {X Y : World} (hb : Below X.heap.size X Y) (hB : B < X.heap.size) (ha : ∀ x, a = some x → x.block < X.heap.size) : KeptA B a X Y := ⟨hb.size, hb.block B hB, fun x e => hb.block _ (ha x e)⟩
theorem KeptA.brd {B : Nat} {a : Option Addr} {X Y : World} {l : List UInt8} (h : KeptA B a X Y) (hr : BRd X a l) : BRd Y a l := fun h0 => by
  obtain ⟨g, off, rfl, hl, hc⟩ := hr h0
  refine ⟨g, off, rfl, Nat.lt_of_lt_of_le hl h.1, fun i hi => ?_⟩
  rw [World.cell?_of_block (w := X) (w' := Y) (a := ⟨g, off + i, none⟩) (show Y.heap[g]? = X.heap[g]? from h.2.2 ⟨g, off, none⟩ rfl)]
  exact hc i hi
theorem all_stops (n : Nat) (hn : 1 ≤ n) (B : Nat) (N : Int) (a : Option Addr) (cap : Nat) (l : List UInt8) (hlen : l.length ≤ 140737488355328) (w : World) (hB : w.heap[B]? = some (.cells #[.int .i64 N, .slice a l.length cap] 25 (0, 0))) (hr : BRd w a l) (ha : ∀ x, a = some x → x.block < w.heap.size) :
    SeqStopsK Fence.wide n Try.prog 59 #[.pointer (some ⟨B, 0, none⟩)] (fun x : Nat => #[.int .i64 (x : Int)]) (KeptA B a) (fun ys => ys = whereL l) (fun pre => ∃ k, pre = whereU l k) (whereL l).length w := fun lp J Jx W hW hJ _ hY h0 => by
  refine all1_in n hn lp B N a cap l (KeptA B a) hlen J Jx hY KeptA.trans KeptA.refl W (fun W' hk => ?_) h0
  have hk2 := (KeptA.below (a := a) hW (box_lt hB) ha).trans hk
  exact ⟨(box_cells2 (hk2.2.1.trans hB)).1, hk2.brd hr⟩
def pickV (l : List UInt8) (k : Int) : Int × Bool := if 0 ≤ k ∧ k < ((whereL l).length : Int) then (((whereL l).getD k.toNat 0 : Nat), true) else (0, false)
theorem whereU_prefix (l : List UInt8) (k : Nat) : whereU l k = (whereL l).take (whereU l k).length := by
  rcases Nat.le_total k (8 * l.length) with h | h
  · unfold whereL whereU
    obtain ⟨m, e⟩ := Nat.exists_eq_add_of_le h
    rw [e, List.range_add, List.filter_append, List.take_left]
  · rw [whereU_far l k h, List.take_length]
structure PickI (w : World) (k : Int) (b6 : Nat) (pre : List Nat) (W : World) : Prop where
  y3 : Boxed W (w.heap.size + 1) 3 (.int .i64 k)
  y4 : Boxed W (w.heap.size + 2) 3 (.int .i64 0)
  y5 : Boxed W (w.heap.size + 3) 4 (.bool false)
  y6 : Boxed W b6 3 (.int .i64 (pre.length : Int))
  le : k < 0 ∨ (pre.length : Int) ≤ k
  bl : Below w.heap.size w W
structure PickX (w : World) (k : Int) (pre : List Nat) (W : World) : Prop where
  at_ : ∃ (q : List Nat) (x : Nat), pre = q ++ [x] ∧ (q.length : Int) = k ∧ Boxed W (w.heap.size + 2) 3 (.int .i64 (x : Int))
  y5 : Boxed W (w.heap.size + 3) 4 (.bool true)
  bl : Below w.heap.size w W
theorem boxed_own' {W W' : World} {b : Nat} {t : TypeId} {v : Value} {row : Option Nat} (h : Boxed W b t v) (hg : W.grownBy W' row) (hr : ∀ r, row = some r → ∃ o : Obj, W.heap[r]? = some o ∧ o.isCells = false) : Boxed W' b t v := h.kept hg fun e => by
  obtain ⟨o, ho, hc⟩ := hr b e.symm
  rw [show W.heap[b]? = _ from h] at ho
  cases ho
  cases hc
theorem boxed_below {W W' : World} {b : Nat} {t : TypeId} {v : Value} (h : Boxed W b t v) (hb : Below W.heap.size W W') : Boxed W' b t v := (hb.block b h.lt).trans h
theorem below_grown {w W W' : World} {row : Option Nat} (h : Below w.heap.size w W) (hg : W.grownBy W' row) (hr : ∀ r, row = some r → w.heap.size ≤ r) : Below w.heap.size w W' :=
  ⟨hg.os.trans h.os, hg.tape.trans h.tape, hg.output.trans h.output, Nat.le_trans h.size hg.size, fun k hk => (hg.block k (Nat.lt_of_lt_of_le hk h.size) fun e => by have := hr k e.symm; omega).trans (h.block k hk)⟩
theorem PickI.kept {w W W' : World} {k : Int} {b6 N0 : Nat} {pre : List Nat} {row : Option Nat} (h : PickI w k b6 pre W) (hw : w.heap.size ≤ N0) (hg : W.grownBy W' row) (hr : ∀ r, row = some r → N0 ≤ r ∧ ∃ o : Obj, W.heap[r]? = some o ∧ o.isCells = false) : PickI w k b6 pre W' :=
  ⟨boxed_own' h.y3 hg fun r e => (hr r e).2, boxed_own' h.y4 hg fun r e => (hr r e).2, boxed_own' h.y5 hg fun r e => (hr r e).2, boxed_own' h.y6 hg fun r e => (hr r e).2, h.le, below_grown h.bl hg fun r e => Nat.le_trans hw (hr r e).1⟩
theorem PickX.kept {w W W' : World} {k : Int} {N0 : Nat} {pre : List Nat} {row : Option Nat} (h : PickX w k pre W) (hw : w.heap.size ≤ N0) (hg : W.grownBy W' row) (hr : ∀ r, row = some r → N0 ≤ r ∧ ∃ o : Obj, W.heap[r]? = some o ∧ o.isCells = false) : PickX w k pre W' := by
  obtain ⟨q, x, h1, h2, h3⟩ := h.at_
  exact ⟨⟨q, x, h1, h2, boxed_own' h3 hg fun r e => (hr r e).2⟩, boxed_own' h.y5 hg fun r e => (hr r e).2, below_grown h.bl hg fun r e => Nat.le_trans hw (hr r e).1⟩
theorem five_world (w : World) (a : Obj) (u v x y : Value) (t1 t2 t3 t4 : TypeId) : ∃ W5, ((((w.alloc a).alloc (.cells #[u] t1)).alloc (.cells #[v] t2)).alloc (.cells #[x] t3)).alloc (.cells #[y] t4) = W5 ∧ W5.heap.size = w.heap.size + 5 ∧ Below w.heap.size w W5 ∧ W5.heap[w.heap.size]? = some a ∧ Boxed W5 (w.heap.size + 1) t1 u ∧ Boxed W5 (w.heap.size + 2) t2 v ∧ Boxed W5 (w.heap.size + 3) t3 x ∧ Boxed W5 (w.heap.size + 4) t4 y := by
  refine ⟨_, rfl, by simp, bt (bt (bt (bt (alloc_below _ _) (alloc_below _ _)) (alloc_below _ _)) (alloc_below _ _)) (alloc_below _ _), box_next (box_next (box_next (box_next (box_new w a) (alloc_below _ _)) (alloc_below _ _)) (alloc_below _ _)) (alloc_below _ _), ?_, ?_, ?_, ?_⟩
  · have := Boxed.new (w.alloc a) t1 u
    rw [World.size_alloc] at this
    exact ((this.alloc _).alloc _).alloc _
  · have := Boxed.new ((w.alloc a).alloc (.cells #[u] t1)) t2 v
    rw [World.size_alloc, World.size_alloc] at this
    exact (this.alloc _).alloc _
  · have := Boxed.new (((w.alloc a).alloc (.cells #[u] t1)).alloc (.cells #[v] t2)) t3 x
    rw [World.size_alloc, World.size_alloc, World.size_alloc] at this
    exact this.alloc _
  · have := Boxed.new ((((w.alloc a).alloc (.cells #[u] t1)).alloc (.cells #[v] t2)).alloc (.cells #[x] t3)) t4 y
    rw [World.size_alloc, World.size_alloc, World.size_alloc, World.size_alloc] at this
    exact this
set_option maxHeartbeats 16000000 in
set_option maxRecDepth 100000 in
theorem pick_any (N : Int) (A : Option Addr) (c : Nat) (l : List UInt8) (k : Int) (w : World) (hA : BRd w A l) (hl : l.length ≤ 17592186044416) : Calls Try.prog 41 #[.agg #[.int .i64 N, .slice A l.length c], .int .i64 k] w fun e w' => e = .returned (.tuple #[.int .i64 (pickV (pkB (trB N l)) k).1, .bool (pickV (pkB (trB N l)) k).2]) ∧ Below w.heap.size w w' := by
  have HAL := Lib.hid (fun (W : World) (h : Below w.heap.size w W) => all_any N A c l W (hA.below h) (by omega))
  have htl : (pkB (trB N l)).length ≤ 140737488355328 := by have := sz_le N l; rw [pk_len, tr_len]; omega
  unfold AllPost at HAL
  generalize trB N l = t at *
  generalize pkB t = P at *
  have HTL := Lib.hid htl
  clear hA hl htl
  refine (callsIn_wide (n := 6)).1 ?_
  refine callsIn_of_wp_marks Try.func41 rfl trivial ?_ rfl
  simp only [Try.ntmps41, List.size_toArray, List.length_cons, List.length_nil, Nat.reduceAdd, Nat.reduceSub, Array.replicate_succ, Array.replicate_zero, List.push_toArray, List.append_toArray, List.nil_append, List.cons_append]
  gi_wp2_with fail
  obtain ⟨W5, hW5, hS5, hb05, x2, x3, x4, x5, x6⟩ := five_world w (.cells #[.int .i64 N, .slice A l.length c] 25) (.int .i64 k) (.int .i64 0) (.bool false) (.int .i64 0) 3 3 4 3
  have HS5 := Lib.hid hS5
  have HB5 := Lib.hid hb05
  have HX3 := Lib.hid x3
  have HX4 := Lib.hid x4
  have HX5 := Lib.hid x5
  have HX6 := Lib.hid x6
  clear hS5 hb05 x2 x3 x4 x5 x6
  rw [hW5]
  clear hW5
  refine ⟨trivial, (callsIn_wide.2 (HAL.out _ HB5.out)).mono ?_⟩
  rintro e w6 ⟨Bs, a, ca, rfl, hBs, hbx, hbr, hba, hb6⟩
  have HBX := Lib.hid hbx
  have HBR := Lib.hid hbr
  have HBA := Lib.hid hba
  have HB6 := Lib.hid hb6
  have HBS := Lib.hid hBs
  have HB06 := Lib.hid (bt HB5.out hb6)
  have HW6 := Lib.hid (show w.heap.size + 5 ≤ w6.heap.size by have := HS5.out; have := hb6.size; omega)
  have HI0 : Hid (PickI w k (w.heap.size + 4) [] w6) := ⟨boxed_below HX3.out hb6, boxed_below HX4.out hb6, boxed_below HX5.out hb6, boxed_below HX6.out hb6, by simp; omega, HB06.out⟩
  have HBS5 := Lib.hid (show w.heap.size + 5 ≤ Bs by have := HS5.out; omega)
  clear hbx hbr hba hb6 hBs
  gi_wp2_with fail
  refine wpIn_rangeFunc_ownG rfl (by omega) (gf := 59) (lb := #[.pointer (some ⟨Bs, 0, none⟩)]) rfl trivial (enters_of Try.func59 (by kernel_rfl) rfl)
    (all_stops (6 - 1) (by omega) Bs (t.length : Int) a ca P HTL.out w6 HBX.out HBR.out (fun x e => (HBA.out x e).2))
    KeptA.trans (fun W l o o' hl hlo _ _ => ⟨by simp [World.putObj], World.putObj_heap_other (by have := box_lt HBX.out; omega), fun x e => World.putObj_heap_other (by have := (HBA.out x e).2; omega)⟩) (Below.refl _ _) (fun _ => rfl)
    (fun pre W => PickI w k (w.heap.size + 4) pre W)
    (fun cd pre W => cd = .ret ∧ PickX w k pre W)
    (fun pre W W' row hI hg hr => hI.kept HB06.out.size hg hr)
    (fun cd pre W W' row hI hg hr => ⟨hI.1, hI.2.kept HB06.out.size hg hr⟩)
    HI0.out ?a1 ?assign ?body ?done ?stop
  case assign =>
    intro lp x W K hK
    gi_wp2
    exact hK
  case body =>
    rintro lp pre x W hI hlt
    have c3 := hI.y3.cell
    have c4 := hI.y4.cell
    have f4 := hI.y4.frozen
    have c5 := hI.y5.cell
    have f5 := hI.y5.frozen
    have c6 := hI.y6.cell
    have f6 := hI.y6.frozen
    have HI := Lib.hid hI
    have hpl : pre.length ≤ 2000000000000000 := by
      have h1 := List.length_filter_le (fun x => bitL P x) (List.range (8 * P.length))
      rw [List.length_range] at h1
      have h2 := HTL.out
      have h3 : (whereL P).length ≤ 8 * P.length := h1
      omega
    have HKP := Lib.hid (fun (b : Nat) (u : Value) (h : b < w.heap.size + 5) => (show KeptA Bs a W (W.setCell ⟨b, 0, none⟩ u) from ⟨by simp [World.setCell], Below.heap_setCell _ _ _ _ (by have := HBS5.out; simp; omega), fun y e => Below.heap_setCell _ _ _ _ (by have := (HBA.out y e).1; have := HS5.out; simp; omega)⟩))
    clear hI hlt
    by_cases hk : (pre.length : Int) = k
    · have hk1 : ((pre.length : Int) == k) = true := by simpa using hk
      have HK := Lib.hid hk
      clear hk
      gi_wp2_with fail
      refine ⟨((KeepsOthers.setCell _ _ _).from _).trans ((KeepsOthers.setCell _ _ _).from _), rfl, ⟨pre, x, rfl, HK.out, (HI.out.y4.set _).other (by omega) _⟩, (HI.out.y5.other (by omega) _).set _, (HI.out.bl.setCell (by simp; omega) _).setCell (by simp; omega) _⟩
    · have hk1 : ((pre.length : Int) == k) = false := by simpa using hk
      have HK := Lib.hid hk
      clear hk
      gi_wp2_with fail
      have e : ((pre ++ [x]).length : Int) = (pre.length : Int) + 1 := by simp
      refine ⟨(KeepsOthers.setCell _ _ _).from _, HKP.out _ _ (by omega), HI.out.y3.other (by omega) _, HI.out.y4.other (by omega) _, HI.out.y5.other (by omega) _, by rw [e]; exact HI.out.y6.set _, ?_, HI.out.bl.setCell (by simp; omega) _⟩
      have h1 := HI.out.le
      have h2 := HK.out
      rw [e]
      omega
  case done =>
    rintro D ys W hD hys hI hK
    have c4 := hI.y4.cell
    have f4 := hI.y4.frozen
    have c5 := hI.y5.cell
    have f5 := hI.y5.frozen
    have HI := Lib.hid hI
    have HK := Lib.hid hK
    have HD := Lib.hid hD
    have HYS := Lib.hid hys
    clear hI hK hD hys
    gi_wp2_with fail
    have hK5 := (KeepsOthers.setCell _ ⟨w.heap.size + 1 + 1 + 1, 0, none⟩ (.bool false)).same D _ ((KeepsOthers.setCell W ⟨w.heap.size + 1 + 1, 0, none⟩ (.int .i64 0)).same D _ HK.out rfl) rfl
    have y4 := (HI.out.y4.set (.int .i64 0)).other (B' := w.heap.size + 1 + 1 + 1) (by omega) (.bool false)
    have y5 := (HI.out.y5.other (B' := w.heap.size + 1 + 1) (by omega) (.int .i64 0)).set (.bool false)
    have hrow : ∀ r, some D = some r → w6.heap.size ≤ r ∧ ∃ o : Obj, ((W.setCell ⟨w.heap.size + 1 + 1, 0, none⟩ (.int .i64 0)).setCell ⟨w.heap.size + 1 + 1 + 1, 0, none⟩ (.bool false)).heap[r]? = some o ∧ o.isCells = false := fun r e => by
      cases e
      exact ⟨HD.out, _, hK5, rfl⟩
    have hgr := grownBy_putObj' ((W.setCell ⟨w.heap.size + 1 + 1, 0, none⟩ (.int .i64 0)).setCell ⟨w.heap.size + 1 + 1 + 1, 0, none⟩ (.bool false)) D (.deferred none)
    have q4 := (boxed_own' y4 hgr fun r e => (hrow r e).2).cell
    have q5 := (boxed_own' y5 hgr fun r e => (hrow r e).2).cell
    have hb5 := below_grown ((HI.out.bl.setCell (p := ⟨w.heap.size + 1 + 1, 0, none⟩) (by simp; omega) (.int .i64 0)).setCell (p := ⟨w.heap.size + 1 + 1 + 1, 0, none⟩) (by simp; omega) (.bool false)) hgr fun r e => by have := (hrow r e).1; have := HB06.out.size; omega
    have hv : pickV P k = (0, false) := by
      unfold pickV
      rw [if_neg]
      have h1 := HI.out.le
      rw [HYS.out] at h1
      omega
    refine ⟨by simp, .inl ⟨_, _, rfl, run_takeDeferred hK5, ?_⟩⟩
    rw [hv]
    refine ⟨.tuple #[.int .i64 0, .bool false], by simp [results, Try.results41, go_sem, q4, q5], rfl, hb5⟩
  case stop =>
    rintro D cd pre W hD ⟨j, hj⟩ ⟨rfl, hX⟩ hK
    have HX := Lib.hid hX
    have HK := Lib.hid hK
    have HD := Lib.hid hD
    clear hX hK hD
    gi_wp2_with fail
    obtain ⟨q, x, hq, hk, y4⟩ := HX.out.at_
    have hrow : ∀ r, some D = some r → w6.heap.size ≤ r ∧ ∃ o : Obj, W.heap[r]? = some o ∧ o.isCells = false := fun r e => by
      cases e
      exact ⟨HD.out, _, HK.out, rfl⟩
    have hgr := grownBy_putObj' W D (.deferred none)
    have q4 := (boxed_own' y4 hgr fun r e => (hrow r e).2).cell
    have q5 := (boxed_own' HX.out.y5 hgr fun r e => (hrow r e).2).cell
    have hb5 := below_grown HX.out.bl hgr fun r e => by have := (hrow r e).1; have := HB06.out.size; omega
    have hv : pickV P k = ((x : Int), true) := by
      have h1 := whereU_prefix P j
      rw [← hj, hq] at h1
      have h2 : q.length < (whereL P).length := by
        have := congrArg List.length h1
        rw [List.length_append, List.length_take, List.length_singleton] at this
        omega
      have h3 : (whereL P).getD q.length 0 = x := by
        rw [getD_lt h2]
        have h4 : (q ++ [x])[q.length]? = some x := by simp
        rw [h1, List.getElem?_take] at h4
        split at h4
        · rw [List.getElem?_eq_getElem h2] at h4
          exact Option.some.inj h4
        · cases h4
      unfold pickV
      rw [if_pos (by omega), show k.toNat = q.length by omega, h3]
    refine ⟨by simp, .inl ⟨_, _, rfl, run_takeDeferred HK.out, ?_⟩⟩
    rw [hv]
    refine ⟨.tuple #[.int .i64 (x : Int), .bool true], by simp [results, Try.results41, go_sem, q4, q5], rfl, hb5⟩
end Go.Proofs.Ytpdffcopigajgaa
