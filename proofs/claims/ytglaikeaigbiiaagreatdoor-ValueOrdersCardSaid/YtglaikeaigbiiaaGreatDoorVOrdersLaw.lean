/-
  ValueOrders: how any two values of two rows, and the rows themselves, stand in the one order is the document's, for every two slices of values. Condition: the listed tables read as the program's text lays them (the card ties them).
-/
import Derived.Test.YtglaikeaigbiiaaGreatDoorVRows2
namespace Go.Proofs.YtglaikeaigbiiaaGreatDoor
open Go.ChangeShapes Go.WideShapes Go.ChangeAt Go.RowKit
set_option linter.unusedVariables false

set_option maxHeartbeats 6400000 in
set_option maxRecDepth 100000 in
theorem valueOrders_walk (A B : Option Addr) (ca cb : Nat) (xs ys : List VR) (w : World) (hA : VRd w A xs) (hB : VRd w B ys) (ox : ∀ x ∈ xs, x.Ok) (oy : ∀ y ∈ ys, y.Ok) (lx : xs.length ≤ maxLen) (ly : ys.length ≤ maxLen) :
    Calls Tryz.prog 4 #[.slice A xs.length ca, .slice B ys.length cb] w fun e w' => e = .returned (.bool true) ∧ Below w.heap.size w w' := by
  have H1 := Lib.hid (fun W hA hB => orderRows_any A B ca cb xs ys W hA hB ox oy lx ly)
  have H2 := Lib.hid (fun W hA hB => refOrderRows_any A B ca cb xs ys W hA hB ox oy lx ly)
  unfold maxLen at lx ly
  go_enter Tryz.func4, Tryz.ntmps4
  go_wp2
  go_loopw [9] (fun i wr => ∃ k : Nat, k ≤ xs.length ∧ i = .int .i64 k ∧ Below w.heap.size w wr ∧ VRd wr A xs ∧ VRd wr B ys) (fun i _ => xs.length - (intOf i).toNat)
  case atStart => exact ⟨0, Nat.zero_le _, rfl, Below.refl _ _, hA, hB⟩
  case round =>
    clear hA hB
    obtain ⟨k, kx, rfl, hw, hA, hB⟩ := hrel
    by_cases hx : k < xs.length
    · have x1' : (k : Int) < (xs.length : Int) := by omega
      go_wp2
      rename World => WA
      go_loopw [14] (fun j wr => ∃ m : Nat, m ≤ ys.length ∧ j = .int .i64 m ∧ Below w.heap.size w wr ∧ VRd wr A xs ∧ VRd wr B ys) (fun j _ => ys.length - (intOf j).toNat)
      case atStart => exact ⟨0, Nat.zero_le _, rfl, hw, hA, hB⟩
      case round =>
        clear hA hB hw
        obtain ⟨m, my, rfl, hw, hA, hB⟩ := hrel
        by_cases hy : m < ys.length
        · skip
          obtain ⟨g, off, rfl, hg, hW⟩ := hA (by omega)
          obtain ⟨g', off', rfl, hg', hW'⟩ := hB (by omega)
          obtain ⟨a0, a1, a2, a3, a4⟩ := hW k hx
          obtain ⟨b0, b1', b2', b3, b4⟩ := hW' m hy
          have ha := (ox _ (List.getElem_mem hx)).n
          have hb := (oy _ (List.getElem_mem hy)).n
          obtain ⟨c, hc⟩ : ∃ c, ordV xs[k] ys[m] = c := ⟨_, rfl⟩
          have HA := Lib.hid hA
          have HB := Lib.hid hB
          clear hA hB hW hW'
          have m0 : (0 : Int) ≤ (m : Int) := by omega
          have x0 : (0 : Int) ≤ (k : Int) := by omega
          have x1 : (k : Int) < (xs.length : Int) := by omega
          have y1 : (m : Int) < (ys.length : Int) := by omega
          have x2 : 0 < xs.length := by omega
          have y2 : 0 < ys.length := by omega
          generalize xs[k] = vx at *
          generalize ys[m] = vy at *
          obtain ⟨ak, as_, anl, an, at_⟩ := vx
          obtain ⟨bk, bs_, bnl, bn, bt_⟩ := vy
          simp only at a0 a1 a2 a3 a4 b0 b1' b2' b3 b4 ha hb hc
          have HC := Lib.hid hc
          clear hc

          go_wp2
          go_region_held3 (fun w' => w'.cell? ⟨g, off + k * 5, none⟩ = some (.int .i64 ak) ∧ w'.cell? ⟨g, off + k * 5 + 1, none⟩ = some (.int .i64 as_) ∧ w'.cell? ⟨g, off + k * 5 + 2, none⟩ = some (.bool anl) ∧ w'.cell? ⟨g, off + k * 5 + 3, none⟩ = some (.int .i64 an) ∧ w'.cell? ⟨g, off + k * 5 + 4, none⟩ = some (.string at_) ∧ w'.cell? ⟨g', off' + m * 5, none⟩ = some (.int .i64 bk) ∧ w'.cell? ⟨g', off' + m * 5 + 1, none⟩ = some (.int .i64 bs_) ∧ w'.cell? ⟨g', off' + m * 5 + 2, none⟩ = some (.bool bnl) ∧ w'.cell? ⟨g', off' + m * 5 + 3, none⟩ = some (.int .i64 bn) ∧ w'.cell? ⟨g', off' + m * 5 + 4, none⟩ = some (.string bt_) ∧ g < w'.heap.size ∧ g' < w'.heap.size ∧ Below wr.heap.size wr w')
          (((try go_split_ands); refine ⟨?_, ?_, ?_, ?_, ?_, ?_, ?_, ?_, ?_, ?_, ?_, ?_, ?_⟩ <;> first | assumption | (with_reducible exact below_drew (Below.refl _ _)) | (rw [(bcell hb1).1 _ _ (by omega)]; assumption) | (have := hb1.size; omega) | (with_reducible refine bt ?_ hb1; assumption) | go_keep))
          (first | (go_at_call 24; refine (orderE _ _ _ _ _ _ _ _ _ _ _ ha hb HC).mono ?_; rintro e w1 ⟨rfl, hb1⟩) | (go_at_call 25; refine (refOrderE _ _ _ _ _ _ _ _ _ _ _ ha hb HC).mono ?_; rintro e w1 ⟨rfl, hb1⟩))
          rename_i hH
          obtain ⟨-, -, -, -, -, -, -, -, -, -, -, -, hwr⟩ := hH
          go_wp2
          go_roundw
          case rel => exact ⟨m + 1, by omega, by go_num, bt hw hwr, HA.out.below hwr, HB.out.below hwr⟩
          case measure => simp [intOf]; omega
        · have yI : ¬ (m : Int) < (ys.length : Int) := by omega
          go_wp2
          go_roundw
          case rel => exact ⟨k + 1, by omega, by go_num, hw, hA, hB⟩
          case measure => simp [intOf]; omega
    · have xI : ¬ (k : Int) < (xs.length : Int) := by omega
      go_wp2_with fail
      refine (begun_any _).mono ?_
      rintro e w1 ⟨rfl, hb1⟩
      have hA1 := hA.below hb1
      have hB1 := hB.below hb1
      have hw1 := bt hw hb1
      go_wp2_with fail
      refine (H1.out _ hA1 hB1).mono ?_
      rintro e w2 ⟨rfl, hb2⟩
      have hA2 := hA1.below hb2
      have hB2 := hB1.below hb2
      have hw2 := bt hw1 hb2
      go_wp2_with fail
      refine (H2.out _ hA2 hB2).mono ?_
      rintro e w3 ⟨rfl, hb3⟩
      have hw3 := bt hw2 hb3
      go_wp2
      go_ret
      exact ⟨rfl, hw3⟩

set_option maxRecDepth 100000 in
theorem valueOrders_lifted (os : Os) (started : os.Started) (H : Type) (enc : TypeId × Value → H) :
    ReturnsInHanded {} Tryz.checked os 4 .any (fun w args => (Rows.valueOrdersSpec.pre enc Tryz.prog Tryz.f4 [] false w args ∧ laidMetH Tryz.prog laid6 w) ∧ sizedMet enc Tryz.prog Tryz.f4 (OpenSpec.ofChange Rows.valueOrdersSpec) false w args)
      (Rows.valueOrdersSpec.post enc Tryz.prog Tryz.f4 false true false false) := by
  refine returnsInHanded_of_change_and (C := Tryz.checked) (X := fun w _ => laidMetH Tryz.prog laid6 w) (fun _ _ _ hh h => h.of_heap hh) own started (by kernel_rfl) Tryz.func4
    (ChangeSpec.witness_shaped (enc := enc) (C := Tryz.checked) (os := os) (X := fun w _ => laidMetH Tryz.prog laid6 w) false (World.laidAll Tryz.prog os laid6) #[.slice none 0 0, .slice none 0 0] 8 (World.laidAll_os _ _ _) (World.shaped_of_ZipB (by kernel_rfl) (by kernel_rfl)) (by kernel_rfl) (by kernel_rfl) (by kernel_rfl)
      (by rw [MakeChecks.laidMetH_plain _ _ _ (by kernel_rfl)]; exact laidMet_laidAll _ (by kernel_rfl) (by kernel_rfl))) ?_
  intro W base args ds gs before hval0 hW _ hsz hL _
  have hval : ∀ (j : Nat) t v, Tryz.f4.params[j]? = some t → args[j]? = some v → Value.okWide Tryz.prog W .any base t v := hval0
  have hW' := hW
  obtain ⟨p, q, hA0, hV, rfl, hfz, hnd⟩ := hW
  have hA : DataW.TrodAll enc Tryz.prog W 0 (fun _ => true) true Tryz.f4.params.toList args.toList ds p := hA0
  rw [Tryz.params4] at hA hval
  obtain ⟨v0, vs0, d0, ds0, p0, q0, hargs, rfl, rfl, h0, r0⟩ := trodAll_cons hA
  obtain ⟨v1, vs1, d1, ds1, p1, q1, rfl, rfl, rfl, h1, r1⟩ := trodAll_cons r0
  obtain ⟨rfl, rfl, rfl⟩ := trodAll_nil r1
  obtain rfl : args = #[v0, v1] := by cases args; simp_all
  obtain ⟨rfl, rfl⟩ := trodVars_none hV
  simp only [List.append_nil] at hW'
  have hlt0 : ∀ x ∈ p0, x.block < W.heap.size := fun x hx => hW'.lt x (by simp [hx])
  have hlt1 : ∀ x ∈ p1, x.block < W.heap.size := fun x hx => hW'.lt x (by simp [hx])
  obtain ⟨A0, cap0, xs, rfl, hR0, ok0, hd0⟩ := open_vals (hval 0 36 v0 rfl rfl) h0
  obtain ⟨A1, cap1, ys, rfl, hR1, ok1, hd1⟩ := open_vals (hval 1 36 v1 rfl rfl) h1
  clear hA0 hval0
  refine (valueOrders_walk A0 A1 cap0 cap1 xs ys W hR0 hR1 ok0 ok1 hd0 hd1).mono fun e W' ⟨he, hg⟩ => ?_
  subst he
  exact ⟨_, rfl, post_of_below (pa := p0 ++ (p1 ++ [])) (pv := []) hW' (fun _ _ _ => (trodAll_cons_mk (shut_bool Tryz.underlying4 _) trodAll_mk0)) (fun sp hsp => (trodAll_cons_mk (WideElems.Trod_stays laidOut (by kernel_rfl) (of_decide_eq_true (by kernel_rfl)) h0 (fun x hx => hg.same (hlt0 x hx)) (fun x hx => hsp x (by simp [hx]))) (trodAll_cons_mk (WideElems.Trod_stays laidOut (by kernel_rfl) (of_decide_eq_true (by kernel_rfl)) h1 (fun x hx => hg.same (hlt1 x hx)) (fun x hx => hsp x (by simp [hx]))) trodAll_mk0))) (fun _ _ => rfl) (by simp) hg (ok_one (by kernel_rfl) rfl (okWide_bool_mk Tryz.underlying4 _))⟩

theorem valueOrders_holds : Rows.ValueOrdersSaid :=
  OpenClaim.holds_of_wide 4 Tryz.f4 rfl rfl rfl rfl rfl rfl rfl ⟨rfl, rfl, rfl, rfl, rfl⟩ rfl rfl rfl rfl rfl (by kernel_rfl) Tryz.func4 (by kernel_rfl)
    (of_decide_eq_true (by kernel_rfl)) (by unfold Func.isWrapper; first | (rw [if_pos (by decide +kernel)]; kernel_rfl) | (rw [if_neg (by decide +kernel)]; exact ⟨rfl, rfl⟩))
    (fun os started H enc _ => valueOrders_lifted os started H enc)

theorem valueOrders_card : Rows.ValueOrdersCardSaid :=
  Claim7.holds_tied_plain_at .later [] [.data, .data, .data, .data, .data, .pinned] true Rows.valueOrdersCard.stood.harness false
    valueOrders_holds (fun _ h => by cases h) (by kernel_rfl) (fun _ h => by cases h) valueOrders_row_tie rfl ⟨rfl, rfl⟩ (by kernel_rfl) rfl
    (fun f fn hf hfn => by
      obtain rfl : f = 4 := Option.some.inj ((show Tryz.prog.funcNamed "colonnade/colonnadelaw02.ValueOrders" = some 4 by kernel_rfl).symm.trans hf) |>.symm
      obtain rfl : fn = Tryz.f4 := (Option.some.inj (Tryz.func4.symm.trans hfn)).symm
      exact ⟨by kernel_rfl, fun j t ht => by
        rw [Tryz.params4] at ht
        have hm : t ∈ [36, 36] := by simpa using Array.mem_of_getElem? ht
        have hall : ([36, 36].all fun u => !Tryz.prog.wantsStandIn u) = true := by kernel_rfl
        exact (show Tryz.prog.wantsStandIn t = false by simpa using List.all_eq_true.1 hall t hm)⟩)
    (by kernel_rfl)
end Go.Proofs.YtglaikeaigbiiaaGreatDoor
