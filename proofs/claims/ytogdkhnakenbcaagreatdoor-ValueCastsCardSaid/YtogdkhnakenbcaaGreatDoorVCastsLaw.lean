/-
  ValueCasts: what any value is as one of any other type, or that it is none, is the document's, for every value and every type. Condition: the listed variables read as the program's text lays them (the card ties them).
-/
import Derived.Test.YtogdkhnakenbcaaGreatDoorVCast9
import Derived.Test.YtogdkhnakenbcaaGreatDoorVEq
import Derived.Test.YtogdkhnakenbcaaGreatDoorVLaid8
namespace Go.Proofs.YtogdkhnakenbcaaGreatDoor
open Go.ChangeShapes Go.WideShapes Go.ChangeAt Go.RowKit
set_option linter.unusedVariables false

theorem box2 {w w1 : World} {a b : Obj} (hb : Below ((w.alloc a).alloc b).heap.size ((w.alloc a).alloc b) w1) : w1.heap[w.heap.size]? = some a ∧ w1.heap[w.heap.size + 1]? = some b := by
  have e1 : (w.alloc a).heap.size = w.heap.size + 1 := by simp
  refine ⟨box_next (box_next (box_at w a) (alloc_below _ _)) hb, ?_⟩
  have h := box_next (box_at (w.alloc a) b) hb
  rwa [e1] at h
set_option maxHeartbeats 3200000 in
set_option maxRecDepth 100000 in
theorem valueCasts_walk (k s n tk ts : Int) (nl : Bool) (l : List UInt8) (w : World) (hn : In64 n) (htk : In64 tk) (hl : l.length ≤ 140737488355328) (hM : MLaid w) (hP : PowLaid w) (hV : VRange w) :
    Calls Tryz.prog 3 #[.agg #[.int .i64 k, .int .i64 s, .bool nl, .int .i64 n, .string ⟨l.toArray⟩], .agg #[.int .i64 tk, .int .i64 ts]] w fun e w' => e = .returned (.bool true) ∧ Below w.heap.size w w' := by
  obtain ⟨L, hL⟩ := day_textC n
  have C1 := Lib.hid (fun W (h : Below w.heap.size w W) => castC_any k s n tk ts nl l L W htk hn (Lib.hid hL) hl (hM.next h) (hP.below h) (hV.next h))
  have C2 := Lib.hid (fun W => rcastC_any k s n tk ts nl l L W hn (Lib.hid hL) hl)
  generalize castO ⟨k, s, nl, n, ⟨l.toArray⟩⟩ tk ts L = o at *
  obtain ⟨⟨xk, xs, xnl, xn, xt⟩, xe⟩ := o
  simp only [outV] at C1 C2
  have hEq := fun W => eqVV xk xs xnl xn xt xk xs xnl xn xt W
  rw [eqVB_self] at hEq
  clear hL hM hP hV hn htk hl
  go_enter Tryz.func3, Tryz.ntmps3
  go_wp2_with fail
  refine (C1.out _ (alloc2B _ _ _)).mono ?_
  rintro e w1 ⟨rfl, hb⟩
  obtain ⟨hbx0, hbx1⟩ := box2 hb
  obtain ⟨⟨z0, z1, z2, z3, z4⟩, -⟩ := box_cells5 hbx0
  obtain ⟨y0, y1⟩ := box_cells2 hbx1
  have hw1 := bt (alloc2B _ _ _) hb
  have hsa : w.heap.size < w1.heap.size := World.block_lt_of_cell? _ _ z0
  have hsb : w.heap.size + 1 < w1.heap.size := World.block_lt_of_cell? _ _ y0
  clear hb hbx0 hbx1
  go_wp2_with fail
  refine (C2.out _).mono ?_
  rintro e w2 ⟨rfl, hb2⟩
  have hx2 := box_next (box_at w1 _) hb2
  have hw2 := bt (hw1.alloc (Nat.le_of_lt hsa) _) hb2
  clear hb2 C1 C2
  go_wp2_with fail
  refine (begun_any _).mono ?_
  rintro e w3 ⟨rfl, hb3⟩
  obtain ⟨⟨p0, p1, p2, p3, p4⟩, -⟩ := box_cells5 (box_next (box_next hx2 (alloc_below _ _)) hb3)
  obtain ⟨⟨q0, q1, q2, q3, q4⟩, -⟩ := box_cells5 (box_next (box_at w2 _) hb3)
  have hw3 := bt (hw2.alloc (by have := hw2.size; omega) _) hb3
  clear hb3 hx2
  go_wp2
  go_ret
  exact ⟨rfl, hw3⟩

set_option maxRecDepth 100000 in
theorem valueCasts_lifted (os : Os) (started : os.Started) (H : Type) (enc : TypeId × Value → H) :
    ReturnsInHanded {} Tryz.checked os 3 .any (fun w args => (Rows.valueCastsSpec.pre enc Tryz.prog Tryz.f3 [] false w args ∧ laidMetH Tryz.prog laid8 w) ∧ sizedMet enc Tryz.prog Tryz.f3 (OpenSpec.ofChange Rows.valueCastsSpec) false w args)
      (Rows.valueCastsSpec.post enc Tryz.prog Tryz.f3 false true false false) := by
  refine returnsInHanded_of_change_and (C := Tryz.checked) (X := fun w _ => laidMetH Tryz.prog laid8 w) (fun _ _ _ hh h => h.of_heap hh) own started (by kernel_rfl) Tryz.func3
    (ChangeSpec.witness_shaped (enc := enc) (C := Tryz.checked) (os := os) (X := fun w _ => laidMetH Tryz.prog laid8 w) false (World.laidAll Tryz.prog os laid8) #[.agg #[.int .i64 0, .int .i64 0, .bool false, .int .i64 0, .string ⟨#[]⟩], .agg #[.int .i64 0, .int .i64 0]] 8 (World.laidAll_os _ _ _) (World.shaped_of_ZipB (by kernel_rfl) (by kernel_rfl)) (by kernel_rfl) (by kernel_rfl) (by kernel_rfl)
      (by rw [MakeChecks.laidMetH_plain _ _ _ (by kernel_rfl)]; exact laidMet_laidAll _ (by kernel_rfl) (by kernel_rfl))) ?_
  intro W base args ds gs before hval0 hW _ hsz hL _
  have hval : ∀ (j : Nat) t v, Tryz.f3.params[j]? = some t → args[j]? = some v → Value.okWide Tryz.prog W .any base t v := hval0
  have hW' := hW
  obtain ⟨p, q, hA0, hV, rfl, hfz, hnd⟩ := hW
  have hA : DataW.TrodAll enc Tryz.prog W 0 (fun _ => true) true Tryz.f3.params.toList args.toList ds p := hA0
  rw [Tryz.params3] at hA hval
  obtain ⟨v0, vs0, d0, ds0, p0, q0, hargs, rfl, rfl, h0, r0⟩ := trodAll_cons hA
  obtain ⟨v1, vs1, d1, ds1, p1, q1, rfl, rfl, rfl, h1, r1⟩ := trodAll_cons r0
  obtain ⟨rfl, rfl, rfl⟩ := trodAll_nil r1
  obtain rfl : args = #[v0, v1] := by cases args; simp_all
  obtain ⟨rfl, rfl⟩ := trodVars_none hV
  simp only [List.append_nil] at hW'
  have hlt0 : ∀ x ∈ p0, x.block < W.heap.size := fun x hx => hW'.lt x (by simp [hx])
  have hlt1 : ∀ x ∈ p1, x.block < W.heap.size := fun x hx => hW'.lt x (by simp [hx])
  obtain ⟨v, rfl, ok0⟩ := open_val (hval 0 25 v0 rfl rfl) h0
  obtain ⟨tk, ts, rfl, itk, its⟩ := open_type (hval 1 23 v1 rfl rfl) h1
  clear hA0 hval0
  obtain ⟨hM, hP, hV8⟩ := of_laid8 hL
  have hwt := val_weight h0
  obtain ⟨k, s, nl, n, t⟩ := v
  have hl1 : t.size ≤ reachBytes := by
    have h3 := List.all_eq_true.1 hsz _ (DataW.weights_mem_each (j := 0) (t := 25) rfl rfl _ hwt)
    simpa using h3
  obtain ⟨l, rfl⟩ : ∃ l : List UInt8, t = ⟨l.toArray⟩ := ⟨t.data.toList, by cases t; simp⟩
  have hl : l.length ≤ 140737488355328 := by
    have h4 : l.length ≤ reachBytes := hl1
    have := reachBytes_lt
    omega
  refine (valueCasts_walk k s n tk ts nl l W ok0.n itk hl hM hP hV8).mono fun e W' ⟨he, hg⟩ => ?_
  subst he
  exact ⟨_, rfl, post_of_below (pa := p0 ++ (p1 ++ [])) (pv := []) hW' (fun _ _ _ => (trodAll_cons_mk (shut_bool Tryz.underlying4 _) trodAll_mk0)) (fun sp hsp => (trodAll_cons_mk (WideElems.Trod_stays laidOut (by kernel_rfl) (of_decide_eq_true (by kernel_rfl)) h0 (fun x hx => hg.same (hlt0 x hx)) (fun x hx => hsp x (by simp [hx]))) (trodAll_cons_mk (WideElems.Trod_stays laidOut (by kernel_rfl) (of_decide_eq_true (by kernel_rfl)) h1 (fun x hx => hg.same (hlt1 x hx)) (fun x hx => hsp x (by simp [hx]))) trodAll_mk0))) (fun _ _ => rfl) (by simp) hg (ok_one (by kernel_rfl) rfl (okWide_bool_mk Tryz.underlying4 _))⟩

theorem valueCasts_holds : Rows.ValueCastsSaid :=
  OpenClaim.holds_of_wide 3 Tryz.f3 rfl rfl rfl rfl rfl rfl rfl ⟨rfl, rfl, rfl, rfl, rfl⟩ rfl rfl rfl rfl rfl (by kernel_rfl) Tryz.func3 (by kernel_rfl)
    (of_decide_eq_true (by kernel_rfl)) (by unfold Func.isWrapper; first | (rw [if_pos (by decide +kernel)]; kernel_rfl) | (rw [if_neg (by decide +kernel)]; exact ⟨rfl, rfl⟩))
    (fun os started H enc _ => valueCasts_lifted os started H enc)

theorem valueCasts_card : Rows.ValueCastsCardSaid :=
  Claim7.holds_tied_plain_at .later [] [.data, .data, .data, .data, .sentinel, .sentinel, .data, .pinned] true Rows.valueCastsCard.stood.harness true
    valueCasts_holds (fun _ h => by cases h) (by kernel_rfl) (fun _ h => by cases h) valueCasts_row_tie rfl ⟨rfl, rfl⟩ (by kernel_rfl) rfl
    (fun f fn hf hfn => by
      obtain rfl : f = 3 := Option.some.inj ((show Tryz.prog.funcNamed "colonnade/colonnadelaw02.ValueCasts" = some 3 by kernel_rfl).symm.trans hf) |>.symm
      obtain rfl : fn = Tryz.f3 := (Option.some.inj (Tryz.func3.symm.trans hfn)).symm
      exact ⟨by kernel_rfl, fun j t ht => by
        rw [Tryz.params3] at ht
        have hm : t ∈ [25, 23] := by simpa using Array.mem_of_getElem? ht
        have hall : ([25, 23].all fun u => !Tryz.prog.wantsStandIn u) = true := by kernel_rfl
        exact (show Tryz.prog.wantsStandIn t = false by simpa using List.all_eq_true.1 hall t hm)⟩)
    (by kernel_rfl)
end Go.Proofs.YtogdkhnakenbcaaGreatDoor
