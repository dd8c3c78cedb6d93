/-
  ValueTests: the truth of any comparison of any two values, and whether their types are alike, are the document's. Condition: the listed tables read as the program's text lays them (the card ties them).
-/
import Derived.Test.YtglaikeaigbiiaaDoorVOpen
namespace Go.Proofs.YtglaikeaigbiiaaDoor
open Go.ChangeShapes Go.WideShapes Go.ChangeAt Go.RowKit
set_option linter.unusedVariables false

set_option maxHeartbeats 1600000 in
set_option maxRecDepth 10000 in
theorem valueTests_walk (op : Int) (a b : VR) (w : World) (ha : a.Ok) (hb : b.Ok) :
    Calls Tryd.prog 3 #[.int .i64 op, a.val, b.val] w fun e w' => e = .returned (.bool true) ∧ Below w.heap.size w w' := by
  obtain ⟨ak, as_, anl, an, at_⟩ := a
  obtain ⟨bk, bs_, bnl, bn, bt_⟩ := b
  have H1 : Hid (∀ W, Calls Tryd.prog 6 #[.int .i64 op, .agg #[.int .i64 ak, .int .i64 as_, .bool anl, .int .i64 an, .string at_], .agg #[.int .i64 bk, .int .i64 bs_, .bool bnl, .int .i64 bn, .string bt_]] W fun e w' => e = .returned (.tuple #[.int .i64 (tstV op ⟨ak, as_, anl, an, at_⟩ ⟨bk, bs_, bnl, bn, bt_⟩), .int .i64 (tstE op ⟨ak, as_, anl, an, at_⟩ ⟨bk, bs_, bnl, bn, bt_⟩)]) ∧ Below W.heap.size W w') := fun W => test_any op _ _ W ha.n hb.n
  have H2 : Hid (∀ W, Calls Tryd.prog 7 #[.int .i64 op, .agg #[.int .i64 ak, .int .i64 as_, .bool anl, .int .i64 an, .string at_], .agg #[.int .i64 bk, .int .i64 bs_, .bool bnl, .int .i64 bn, .string bt_]] W fun e w' => e = .returned (.tuple #[.int .i64 (tstV op ⟨ak, as_, anl, an, at_⟩ ⟨bk, bs_, bnl, bn, bt_⟩), .int .i64 (tstE op ⟨ak, as_, anl, an, at_⟩ ⟨bk, bs_, bnl, bn, bt_⟩)]) ∧ Below W.heap.size W w') := fun W => refTest_any op _ _ W ha.n hb.n
  generalize tstV op ⟨ak, as_, anl, an, at_⟩ ⟨bk, bs_, bnl, bn, bt_⟩ = x at *
  generalize tstE op ⟨ak, as_, anl, an, at_⟩ ⟨bk, bs_, bnl, bn, bt_⟩ = y at *
  unfold VR.val
  simp only
  clear ha hb
  go_enter Tryd.func3, Tryd.ntmps3
  go_wp2_with fail
  refine (H1.out _).mono ?_
  rintro e w1 ⟨rfl, hb1⟩
  have hc1 := (bcell hb1).1
  have hB1 := b2 hb1
  have hz : w.heap.size + 1 < w1.heap.size := by have := hb1.size; simp at this; omega
  have hz0 : w.heap.size < w1.heap.size := by omega
  clear hb1
  go_wp2_with fail
  refine (H2.out _).mono ?_
  rintro e w2 ⟨rfl, hb2⟩
  have hc2 := (bcell hb2).1
  have hB2 := bt hB1 hb2
  have hz2 : w.heap.size + 1 < w2.heap.size := by have := hb2.size; omega
  have hz3 : w.heap.size < w2.heap.size := by omega
  clear hb2 hB1
  have n0 : w2.cell? ⟨w.heap.size, 0, none⟩ = some (.int .i64 ak) := by rw [hc2 _ _ (by omega), hc1 _ _ (by simp <;> omega)]; simp
  have n1 : w2.cell? ⟨w.heap.size, 1, none⟩ = some (.int .i64 as_) := by rw [hc2 _ _ (by omega), hc1 _ _ (by simp <;> omega)]; simp
  have n2 : w2.cell? ⟨w.heap.size + 1, 0, none⟩ = some (.int .i64 bk) := by rw [hc2 _ _ (by omega), hc1 _ _ (by simp <;> omega)]; simp
  have n3 : w2.cell? ⟨w.heap.size + 1, 1, none⟩ = some (.int .i64 bs_) := by rw [hc2 _ _ (by omega), hc1 _ _ (by simp <;> omega)]; simp
  clear hc1 hc2 hz hz0 hz3
  go_wp2_with fail
  go_region_held3 (fun w' => w'.cell? ⟨w.heap.size, 0, none⟩ = some (.int .i64 ak) ∧ w'.cell? ⟨w.heap.size, 1, none⟩ = some (.int .i64 as_) ∧ w'.cell? ⟨w.heap.size + 1, 0, none⟩ = some (.int .i64 bk) ∧ w'.cell? ⟨w.heap.size + 1, 1, none⟩ = some (.int .i64 bs_) ∧ w.heap.size + 1 < w'.heap.size ∧ Below w.heap.size w w')
      (((try go_split_ands); refine ⟨?_, ?_, ?_, ?_, ?_, ?_⟩ <;> first | assumption | (with_reducible exact below_drew (hB2)) | (rw [(bcell hb1).1 _ _ (by omega)]; assumption) | (have := hb1.size; omega) | (with_reducible refine bt ?_ hb1; assumption) | go_keep))
      (first | (go_at_call 8; refine (begun_any _).mono ?_; rintro e w1 ⟨rfl, hb1⟩) | (go_at_call 9; refine (alike_any _ _ _ _ _).mono ?_; rintro e w1 ⟨rfl, hb1⟩) | (go_at_call 10; refine (refAlike_any _ _ _ _ _).mono ?_; rintro e w1 ⟨rfl, hb1⟩))
  all_goals
    rename_i hH
    obtain ⟨-, -, -, -, -, hB7⟩ := hH
    go_wp2
    go_ret
    exact ⟨by simp, hB7⟩

set_option maxRecDepth 100000 in
theorem valueTests_lifted (os : Os) (started : os.Started) (H : Type) (enc : TypeId × Value → H) :
    ReturnsInHanded {} Tryd.checked os 3 .any (fun w args => (Rows.valueTestsSpec.pre enc Tryd.prog Tryd.f3 [] false w args ∧ laidMetH Tryd.prog laid6 w) ∧ sizedMet enc Tryd.prog Tryd.f3 (OpenSpec.ofChange Rows.valueTestsSpec) false w args)
      (Rows.valueTestsSpec.post enc Tryd.prog Tryd.f3 false true false false) := by
  refine returnsInHanded_of_change_and (C := Tryd.checked) (X := fun w _ => laidMetH Tryd.prog laid6 w) (fun _ _ _ hh h => h.of_heap hh) own started (by kernel_rfl) Tryd.func3
    (ChangeSpec.witness_shaped (enc := enc) (C := Tryd.checked) (os := os) (X := fun w _ => laidMetH Tryd.prog laid6 w) false (World.laidAll Tryd.prog os laid6) #[.int .i64 0, .agg #[.int .i64 0, .int .i64 0, .bool false, .int .i64 0, .string ⟨#[]⟩], .agg #[.int .i64 0, .int .i64 0, .bool false, .int .i64 0, .string ⟨#[]⟩]] 8 (World.laidAll_os _ _ _) (World.shaped_of_ZipB (by kernel_rfl) (by kernel_rfl)) (by kernel_rfl) (by kernel_rfl) (by kernel_rfl)
      (by rw [MakeChecks.laidMetH_plain _ _ _ (by kernel_rfl)]; exact laidMet_laidAll _ (by kernel_rfl) (by kernel_rfl))) ?_
  intro W base args ds gs before hval0 hW _ hsz hL _
  have hval : ∀ (j : Nat) t v, Tryd.f3.params[j]? = some t → args[j]? = some v → Value.okWide Tryd.prog W .any base t v := hval0
  have hW' := hW
  obtain ⟨p, q, hA0, hV, rfl, hfz, hnd⟩ := hW
  have hA : DataW.TrodAll enc Tryd.prog W 0 (fun _ => true) true Tryd.f3.params.toList args.toList ds p := hA0
  rw [Tryd.params3] at hA hval
  obtain ⟨v0, vs0, d0, ds0, p0, q0, hargs, rfl, rfl, h0, r0⟩ := trodAll_cons hA
  obtain ⟨v1, vs1, d1, ds1, p1, q1, rfl, rfl, rfl, h1, r1⟩ := trodAll_cons r0
  obtain ⟨v2, vs2, d2, ds2, p2, q2, rfl, rfl, rfl, h2, r2⟩ := trodAll_cons r1
  obtain ⟨rfl, rfl, rfl⟩ := trodAll_nil r2
  obtain rfl : args = #[v0, v1, v2] := by cases args; simp_all
  obtain ⟨rfl, rfl⟩ := trodVars_none hV
  simp only [List.append_nil] at hW'
  have hlt0 : ∀ x ∈ p0, x.block < W.heap.size := fun x hx => hW'.lt x (by simp [hx])
  have hlt1 : ∀ x ∈ p1, x.block < W.heap.size := fun x hx => hW'.lt x (by simp [hx])
  have hlt2 : ∀ x ∈ p2, x.block < W.heap.size := fun x hx => hW'.lt x (by simp [hx])
  obtain ⟨op, rfl, -, -, w0⟩ := open_int Tryd.underlying3 (hval 0 3 v0 rfl rfl) h0
  obtain ⟨a, rfl, ok1⟩ := open_val (hval 1 25 v1 rfl rfl) h1
  obtain ⟨b, rfl, ok2⟩ := open_val (hval 2 25 v2 rfl rfl) h2
  clear hA0 hval0
  refine (valueTests_walk op a b W ok1 ok2).mono fun e W' ⟨he, hg⟩ => ?_
  subst he
  exact ⟨_, rfl, post_of_below (pa := p0 ++ (p1 ++ (p2 ++ []))) (pv := []) hW' (fun _ _ _ => (trodAll_cons_mk (shut_bool Tryd.underlying4 _) trodAll_mk0)) (fun sp hsp => (trodAll_cons_mk (WideElems.Trod_stays laidOut (by kernel_rfl) (of_decide_eq_true (by kernel_rfl)) h0 (fun x hx => hg.same (hlt0 x hx)) (fun x hx => hsp x (by simp [hx]))) (trodAll_cons_mk (WideElems.Trod_stays laidOut (by kernel_rfl) (of_decide_eq_true (by kernel_rfl)) h1 (fun x hx => hg.same (hlt1 x hx)) (fun x hx => hsp x (by simp [hx]))) (trodAll_cons_mk (WideElems.Trod_stays laidOut (by kernel_rfl) (of_decide_eq_true (by kernel_rfl)) h2 (fun x hx => hg.same (hlt2 x hx)) (fun x hx => hsp x (by simp [hx]))) trodAll_mk0)))) (fun _ _ => rfl) (by simp) hg (ok_one (by kernel_rfl) rfl (okWide_bool_mk Tryd.underlying4 _))⟩

theorem valueTests_holds : Rows.ValueTestsSaid :=
  OpenClaim.holds_of_wide 3 Tryd.f3 rfl rfl rfl rfl rfl rfl rfl ⟨rfl, rfl, rfl, rfl, rfl⟩ rfl rfl rfl rfl rfl (by kernel_rfl) Tryd.func3 (by kernel_rfl)
    (of_decide_eq_true (by kernel_rfl)) (by unfold Func.isWrapper; first | (rw [if_pos (by decide +kernel)]; kernel_rfl) | (rw [if_neg (by decide +kernel)]; exact ⟨rfl, rfl⟩))
    (fun os started H enc _ => valueTests_lifted os started H enc)

theorem valueTests_card : Rows.ValueTestsCardSaid :=
  Claim7.holds_tied_plain_at .later [] [.data, .data, .data, .data, .data, .pinned] true Rows.valueTestsCard.stood.harness false
    valueTests_holds (fun _ h => by cases h) (by kernel_rfl) (fun _ h => by cases h) valueTests_row_tie rfl ⟨rfl, rfl⟩ (by kernel_rfl) rfl
    (fun f fn hf hfn => by
      obtain rfl : f = 3 := Option.some.inj ((show Tryd.prog.funcNamed "colonnade/colonnadelaw02.ValueTests" = some 3 by kernel_rfl).symm.trans hf) |>.symm
      obtain rfl : fn = Tryd.f3 := (Option.some.inj (Tryd.func3.symm.trans hfn)).symm
      exact ⟨by kernel_rfl, fun j t ht => by
        rw [Tryd.params3] at ht
        have hm : t ∈ [3, 25, 25] := by simpa using Array.mem_of_getElem? ht
        have hall : ([3, 25, 25].all fun u => !Tryd.prog.wantsStandIn u) = true := by kernel_rfl
        exact (show Tryd.prog.wantsStandIn t = false by simpa using List.all_eq_true.1 hall t hm)⟩)
    (by kernel_rfl)
end Go.Proofs.YtglaikeaigbiiaaDoor
