/-
  ValueKeys: two lists of values that may be have the same key just if they are the same; then they have the same hash. Condition: the second form's: what comes in is of bulk at most 1048576; the listed tables read as the program's text lays them (the card ties them).
-/
import Derived.Test.YtogdkhnakenbcaaGreatDoorVHash
import Derived.Test.YtogdkhnakenbcaaGreatDoorVBulk
import Derived.Test.YtogdkhnakenbcaaGreatDoorVSame
import Derived.Test.YtogdkhnakenbcaaGreatDoorVLaid
namespace Go.Proofs.YtogdkhnakenbcaaGreatDoor
open Go.ChangeShapes Go.WideShapes Go.ChangeAt Go.RowKit
set_option linter.unusedVariables false
set_option maxRecDepth 100000 in
theorem vals_none {H : Type} {enc : TypeId × Value → H} {W : World} {base : Nat} {A : Option Addr} {xs : List VR} {cap : Nat} {d : DataW H} {p : List MemPlace}
    (hv : Value.okWide Tryz.prog W .any base 32 (.slice A xs.length cap)) (h : DataW.Trod enc Tryz.prog W 0 (fun _ => true) true 32 (.slice A xs.length cap) d p) : A = none → xs = [] ∧ cap = 0 := by
  rintro rfl
  obtain ⟨fuel, hf⟩ := h
  rcases Deep.open_slice Tryz.underlying32 hf with ⟨hcs, hx⟩ | ⟨a, len', cap', m, n, D, Pl, hcs, _⟩
  · simp [Value.cells] at hcs
    exact ⟨hcs.1, hcs.2⟩
  · simp [Value.cells] at hcs

theorem str_ne {a b : List UInt8} (h : ¬ a = b) : ¬ (⟨a.toArray⟩ : ByteArray) = ⟨b.toArray⟩ := fun e => h (by simpa using congrArg (fun x : ByteArray => x.data.toList) e)

set_option maxHeartbeats 3200000 in
set_option maxRecDepth 100000 in
theorem valueKeys_walk (A B : Option Addr) (ca cb : Nat) (xs ys : List VR) (s0 : Int) (w : World) (hA : VRd w A xs) (hB : VRd w B ys) (nA : A = none → xs = [] ∧ ca = 0) (nB : B = none → ys = [] ∧ cb = 0) (ox : ∀ x ∈ xs, x.Ok) (oy : ∀ x ∈ ys, x.Ok) (lx : xs.length ≤ maxLen) (ly : ys.length ≤ maxLen) (hS : sizeL xs + sizeL ys ≤ 1048576) (hP : PowLaid w) :
    Calls Tryz.prog 5 #[.slice A xs.length ca, .slice B ys.length cb, .int .u64 s0] w fun e w' => e = .returned (.bool true) ∧ Below w.heap.size w w' := by
  have hlx : (keyL xs).length + 100 ≤ 140737488355328 := by have := keyL_le ox (by omega); omega
  have hly : (keyL ys).length + 100 ≤ 140737488355328 := by have := keyL_le oy (by omega); omega
  have KA := Lib.hid (fun W h1 h2 h3 => key_any A ca xs W h1 ox lx hlx h2 h3)
  have KB := Lib.hid (fun W h1 h2 h3 => key_any B cb ys W h1 oy ly hly h2 h3)
  have HA := Lib.hid (fun W h1 h2 h3 => hash_any A ca xs s0 W h1 ox lx hlx h2 h3)
  have HB := Lib.hid (fun W h1 h2 h3 => hash_any B cb ys s0 W h1 oy ly hly h2 h3)
  have HS := Lib.hid (fun b hb W h1 h2 => same_any A B ca cb xs ys b hb W h1 h2 lx ly)
  have HP := Lib.hid hP
  have VA := Lib.hid hA
  have VB := Lib.hid hB
  have l3 : xs.length + ys.length ≤ 1048576 := by have := size_len xs; have := size_len ys; omega
  have oz : ∀ x ∈ xs ++ ys, x.Ok := fun x hx => (List.mem_append.1 hx).elim (ox x) (oy x)
  obtain ⟨zs, hzs⟩ : ∃ zs, zs = xs ++ ys := ⟨_, rfl⟩
  have HZ := Lib.hid hzs
  rw [← hzs] at oz
  clear hP hlx hly hS lx ly hzs
  go_enter Tryz.func5, Tryz.ntmps5
  go_wp2_with (at_builtin; refine wpList_append_vals rfl _ _ rfl rfl w.heap.size (.slice none 0 0) 0 [] rfl A ca xs rfl (World.ownsRow_nil w _ _ _) hA nA (Nat.le_refl _) (by omega) ?_; intro v1 w1 hown1 hg1; refine Hid.out ?_)
  refine Lib.hid ?_
  have hb1 : Below w.heap.size w w1 := (Below.refl _ _).grown hg1 (Nat.le_refl _) (fun k hk => by cases hk)
  have hs1 := hb1.size
  go_wp2_with (at_builtin; refine wpList_append_vals rfl _ _ rfl rfl w.heap.size v1 (0 + xs.length) ([] ++ cellsL xs) rfl B cb ys rfl hown1 (hB.below hb1) nB hb1.size (by omega) ?_; intro v2 w2 hown2 hg2; refine Hid.out ?_)
  refine Lib.hid ?_
  have hb2 : Below w.heap.size w w2 := hb1.grown hg2 hb1.size (fun k hk => (hown1.lt k hk).1)
  have hown : w2.ownsRow w.heap.size 25 5 v2 zs.length (cellsL zs) := by
    rw [HZ.out, cellsL_app, List.length_append]
    simpa using hown2
  obtain ⟨Z, cz, rfl, hZ, lz⟩ := own_vrd hown
  have hs2 := hb2.size
  unfold maxLen at lz
  clear hown hown1 hown2 hg1 hg2 hb1 hs1 hA hB
  go_wp2_with fail
  go_loopw [15] (fun i wr => ∃ k : Nat, k ≤ zs.length ∧ i = .int .i64 k ∧ Below w2.heap.size w2 wr ∧ ∀ m (h : m < zs.length), m < k → checkE zs[m] = 0) (fun i _ => zs.length - (intOf i).toNat)
  case atStart => exact ⟨0, Nat.zero_le _, rfl, Below.refl _ _, fun m _ h => by omega⟩
  case round =>
    obtain ⟨k, kx, rfl, hw, hck⟩ := hrel
    by_cases hx : k < zs.length
    · obtain ⟨g, off, rfl, hg, hW⟩ := (hZ.below hw) (by omega)
      obtain ⟨a0, a1, a2, a3, a4⟩ := hW k hx
      have hok := oz _ (List.getElem_mem hx)
      have x0 : (0 : Int) ≤ (k : Int) := by omega
      have x1 : (k : Int) < (zs.length : Int) := by omega
      have x2 : 0 < zs.length := by omega
      have HZA := Lib.hid hZ
      have HCK := Lib.hid hck
      have HXK := Lib.hid (show zs[k] = zs[k] from rfl)
      have hsz : w2.heap.size ≤ wr.heap.size := hw.size
      clear hZ hW hck HXK
      obtain ⟨vx, hvx⟩ : ∃ vx, zs[k] = vx := ⟨_, rfl⟩
      rw [hvx] at a0 a1 a2 a3 a4 hok
      have HVX := Lib.hid hvx
      clear hvx
      obtain ⟨vk, vs, vnl, vn, vt⟩ := vx
      simp only at a0 a1 a2 a3 a4
      have hk := hok.k
      have C1 := Lib.hid (fun W => check_any vk vs vnl vn vt W hk)
      obtain ⟨ce, hce⟩ : ∃ ce, checkE ⟨vk, vs, vnl, vn, vt⟩ = ce := ⟨_, rfl⟩
      rw [hce] at C1
      have HCE := Lib.hid hce
      clear hok hce
      by_cases hc : ce = 0
      · subst hc
        go_wp2_with fail
        refine (C1.out _).mono ?_
        rintro e w3 ⟨rfl, hb3⟩
        have hw3 := Lib.hid (bt (hw.alloc hsz _) hb3)
        clear hb3
        go_wp2
        go_roundw
        case rel =>
          refine ⟨k + 1, by omega, by go_num, hw3.out, fun m h hm => ?_⟩
          rcases Nat.lt_or_ge m k with h1 | h1
          · exact HCK.out m h h1
          · obtain rfl : m = k := by omega
            rw [HVX.out]; exact HCE.out
        case measure => simp [intOf]; omega
      · go_wp2_with fail
        refine (C1.out _).mono ?_
        rintro e w3 ⟨rfl, hb3⟩
        have hw3 := bt (hw.alloc hsz _) hb3
        clear hb3
        go_wp2_with fail
        refine (begun_any _).mono ?_
        rintro e w4 ⟨rfl, hb4⟩
        have hw4 := bt hb2 (bt hw3 hb4)
        clear hb4
        go_wp2
        go_ret
        exact ⟨rfl, hw4⟩
    · have hxI : ¬ (k : Int) < (zs.length : Int) := by omega
      have hall : ∀ x ∈ xs ++ ys, Good x ∧ In64 x.n ∧ In64 (x.t.size : Int) := fun x hx => by
        rw [← HZ.out] at hx
        have ho := oz x hx
        obtain ⟨m, hm, rfl⟩ := List.getElem_of_mem hx
        refine ⟨good_of (hck m hm (by omega)), ho.n, ?_⟩
        have := ho.t
        unfold maxLen at this
        unfold In64; omega
      have HEQ : Hid (¬ xs = ys → ¬ keyL xs = keyL ys) := fun h e => h (keyL_inj xs ys (fun v hv => hall v (List.mem_append_left _ hv)) (fun v hv => hall v (List.mem_append_right _ hv)) e)
      have hwr := bt hb2 hw
      clear hall hck hZ hw
      by_cases he : xs = ys
      · have hkk : keyL ys = keyL xs := by rw [he]
        have S1 := Lib.hid (fun W h1 h2 => HS.out true ⟨fun _ => he, fun _ => rfl⟩ W h1 h2)
        clear he
        go_wp2_with fail
        refine (S1.out _ (VA.out.below hwr) (VB.out.below hwr)).mono ?_
        rintro e w3 ⟨rfl, hb3⟩
        have hw3 := bt hwr hb3
        clear hb3
        go_wp2_with fail
        refine (begun_any _).mono ?_
        rintro e w4 ⟨rfl, hb4⟩
        have hw4 := bt hw3 hb4
        clear hb4
        go_wp2_with fail
        refine (KA.out _ (VA.out.below hw4) (Nat.lt_of_lt_of_le (powLow HP.out) hw4.size) (HP.out.below hw4)).mono ?_
        rintro e w5 ⟨rfl, hb5⟩
        have hw5 := bt hw4 hb5
        clear hb5
        go_wp2_with fail
        refine (KB.out _ (VB.out.below hw5) (Nat.lt_of_lt_of_le (powLow HP.out) hw5.size) (HP.out.below hw5)).mono ?_
        rintro e w6 ⟨rfl, hb6⟩
        have hw6 := bt hw5 hb6
        clear hb6
        rw [hkk] at HB ⊢
        go_wp2_with fail
        refine (HA.out _ (VA.out.below hw6) (Nat.lt_of_lt_of_le (powLow HP.out) hw6.size) (HP.out.below hw6)).mono ?_
        rintro e w7 ⟨rfl, hb7⟩
        have hw7 := bt hw6 hb7
        clear hb7
        go_wp2_with fail
        refine (HB.out _ (VB.out.below hw7) (Nat.lt_of_lt_of_le (powLow HP.out) hw7.size) (HP.out.below hw7)).mono ?_
        rintro e w8 ⟨rfl, hb8⟩
        have hw8 := bt hw7 hb8
        clear hb8
        go_wp2
        go_ret
        exact ⟨rfl, hw8⟩
      · have hne := str_ne (HEQ.out he)
        have hnl := HEQ.out he
        have S1 := Lib.hid (fun W h1 h2 => HS.out false ⟨fun h => (by cases h), fun h => absurd h he⟩ W h1 h2)
        clear he HEQ
        generalize keyL xs = P at *
        generalize keyL ys = Q at *
        have hq : (P == Q) = false := by simpa using hnl
        go_wp2_with fail
        refine (S1.out _ (VA.out.below hwr) (VB.out.below hwr)).mono ?_
        rintro e w3 ⟨rfl, hb3⟩
        have hw3 := bt hwr hb3
        clear hb3
        go_wp2_with fail
        refine (begun_any _).mono ?_
        rintro e w4 ⟨rfl, hb4⟩
        have hw4 := bt hw3 hb4
        clear hb4
        go_wp2_with fail
        refine (KA.out _ (VA.out.below hw4) (Nat.lt_of_lt_of_le (powLow HP.out) hw4.size) (HP.out.below hw4)).mono ?_
        rintro e w5 ⟨rfl, hb5⟩
        have hw5 := bt hw4 hb5
        clear hb5
        go_wp2_with fail
        refine (KB.out _ (VB.out.below hw5) (Nat.lt_of_lt_of_le (powLow HP.out) hw5.size) (HP.out.below hw5)).mono ?_
        rintro e w6 ⟨rfl, hb6⟩
        have hw6 := bt hw5 hb6
        clear hb6
        go_wp2
        go_ret
        exact ⟨rfl, hw6⟩

set_option maxRecDepth 100000 in
theorem valueKeys_lifted (os : Os) (started : os.Started) (H : Type) (enc : TypeId × Value → H) (F : Stop.Interp) :
    ReturnsInHanded {} Tryz.checked os 5 .any ((Rows.OpenSpec.upto Rows.valueKeysSpec).preRow enc Tryz.prog Tryz.f5 Rows.valueKeysUptoRow.domain false Rows.valueKeysUptoRow.laid) (((Rows.OpenSpec.upto Rows.valueKeysSpec).at F).post enc Tryz.prog Tryz.f5 false true false false) := by
  refine returnsInHanded_of_row (C := Tryz.checked) (s := Rows.OpenSpec.upto Rows.valueKeysSpec) own started (by kernel_rfl) Tryz.func5
    (witness_zip (enc := enc) (C := Tryz.checked) false (World.laidAll Tryz.prog os laid6) #[.slice none 0 0, .slice none 0 0, .int .u64 0] (World.laidAll_os _ _ _) (World.shaped_of_ZipB (by kernel_rfl) (by kernel_rfl)) (by kernel_rfl)
      (OpenSpec.preRow_of_cond (x := ([.nil, .nil, .lit (.int .u64 0)], [], [])) 8 (by kernel_rfl) (by kernel_rfl) (fun k hk => by cases hk; kernel_rfl) (by kernel_rfl)
        (show laidMetH Tryz.prog laid6 _ by rw [MakeChecks.laidMetH_plain _ _ _ (by kernel_rfl)]; exact laidMet_laidAll _ (by kernel_rfl) (by kernel_rfl)))) ?_
  intro W base args ds gs before hval0 hW _ hcond hsz hL0 _ _
  have hL : laidMetH Tryz.prog laid6 W := hL0
  have hk0 : Rows.uptoSmall H (ds ++ gs) = true := hcond _ rfl
  have hk : Rows.uptoBulkAll (ds ++ gs) ≤ 1048576 := of_decide_eq_true hk0
  have hval : ∀ (j : Nat) t v, Tryz.f5.params[j]? = some t → args[j]? = some v → Value.okWide Tryz.prog W .any base t v := hval0
  have hW' := hW
  obtain ⟨p, q, hA0, hV, rfl, hfz, hnd⟩ := hW
  have hA : DataW.TrodAll enc Tryz.prog W 0 (fun _ => true) true Tryz.f5.params.toList args.toList ds p := hA0
  rw [Tryz.params5] at hA hval
  obtain ⟨v0, vs0, d0, ds0, p0, q0, hargs, rfl, rfl, h0, r0⟩ := trodAll_cons hA
  obtain ⟨v1, vs1, d1, ds1, p1, q1, rfl, rfl, rfl, h1, r1⟩ := trodAll_cons r0
  obtain ⟨v2, vs2, d2, ds2, p2, q2, rfl, rfl, rfl, h2, r2⟩ := trodAll_cons r1
  obtain ⟨rfl, rfl, rfl⟩ := trodAll_nil r2
  obtain rfl : args = #[v0, v1, v2] := by cases args; simp_all
  obtain ⟨rfl, rfl⟩ := trodVars_none hV
  simp only [List.append_nil] at hW' hk
  simp only [Rows.uptoBulkAll] at hk
  have hlt0 : ∀ x ∈ p0, x.block < W.heap.size := fun x hx => hW'.lt x (by simp [hx])
  have hlt1 : ∀ x ∈ p1, x.block < W.heap.size := fun x hx => hW'.lt x (by simp [hx])
  have hlt2 : ∀ x ∈ p2, x.block < W.heap.size := fun x hx => hW'.lt x (by simp [hx])
  obtain ⟨A0, cap0, xs, rfl, hR0, ok0, hd0, hb0⟩ := open_vals_bulk (hval 0 32 v0 rfl rfl) h0
  obtain ⟨A1, cap1, ys, rfl, hR1, ok1, hd1, hb1⟩ := open_vals_bulk (hval 1 32 v1 rfl rfl) h1
  obtain ⟨s0, rfl, -, -, w2⟩ := open_int Tryz.underlying31 (hval 2 31 v2 rfl rfl) h2
  clear hA0 hval0
  obtain ⟨hM, hP⟩ := of_laid6 hL
  have nA := vals_none (hval 0 32 _ rfl rfl) h0
  have nB := vals_none (hval 1 32 _ rfl rfl) h1
  refine (valueKeys_walk A0 A1 cap0 cap1 xs ys s0 W hR0 hR1 nA nB ok0 ok1 hd0 hd1 (by omega) hP).mono fun e W' ⟨he, hg⟩ => ?_
  subst he
  have hpost : Rows.valueKeysSpec.post enc Tryz.prog Tryz.f5 false true false false W _ _ W' := post_of_below (pa := p0 ++ (p1 ++ (p2 ++ []))) (pv := []) hW' (fun _ _ _ => (trodAll_cons_mk (shut_bool Tryz.underlying4 _) trodAll_mk0)) (fun sp hsp => (trodAll_cons_mk (WideElems.Trod_stays laidOut (by kernel_rfl) (of_decide_eq_true (by kernel_rfl)) h0 (fun x hx => hg.same (hlt0 x hx)) (fun x hx => hsp x (by simp [hx]))) (trodAll_cons_mk (WideElems.Trod_stays laidOut (by kernel_rfl) (of_decide_eq_true (by kernel_rfl)) h1 (fun x hx => hg.same (hlt1 x hx)) (fun x hx => hsp x (by simp [hx]))) (trodAll_cons_mk (WideElems.Trod_stays laidOut (by kernel_rfl) (of_decide_eq_true (by kernel_rfl)) h2 (fun x hx => hg.same (hlt2 x hx)) (fun x hx => hsp x (by simp [hx]))) trodAll_mk0)))) (fun _ _ => rfl) (by simp) hg (ok_one (by kernel_rfl) rfl (okWide_bool_mk Tryz.underlying4 _))
  exact ⟨_, rfl, hpost⟩

theorem valueKeys_holds : Rows.ValueKeysUptoSaid :=
  OpenClaim.holds_of_cond 5 Tryz.f5 rfl rfl rfl rfl rfl rfl rfl ⟨rfl, rfl, rfl, rfl, rfl⟩ rfl rfl rfl rfl rfl (by kernel_rfl) Tryz.func5 (by kernel_rfl)
    (of_decide_eq_true (by kernel_rfl)) (by unfold Func.isWrapper; first | (rw [if_pos (by decide +kernel)]; kernel_rfl) | (rw [if_neg (by decide +kernel)]; exact ⟨rfl, rfl⟩))
    (fun os started H enc _ F => by rw [OpenClaim.pre_eq_preRow]; exact valueKeys_lifted os started H enc F)

theorem valueKeys_card : Rows.ValueKeysUptoCardSaid :=
  Claim7.holds_tied_plain_at .later [] [.data, .data, .data, .data, .data, .pinned] true Rows.valueKeysUptoCard.stood.harness true
    valueKeys_holds (fun _ h => by cases h) (by kernel_rfl) (fun _ h => by cases h) valueKeysUpto_row_tie rfl ⟨rfl, rfl⟩ (by kernel_rfl) rfl
    (fun f fn hf hfn => by
      obtain rfl : f = 5 := Option.some.inj ((show Tryz.prog.funcNamed "colonnade/colonnadelaw02.ValueKeys" = some 5 by kernel_rfl).symm.trans hf) |>.symm
      obtain rfl : fn = Tryz.f5 := (Option.some.inj (Tryz.func5.symm.trans hfn)).symm
      exact ⟨by kernel_rfl, fun j t ht => by
        rw [Tryz.params5] at ht
        have hm : t ∈ [32, 32, 31] := by simpa using Array.mem_of_getElem? ht
        have hall : ([32, 32, 31].all fun u => !Tryz.prog.wantsStandIn u) = true := by kernel_rfl
        exact (show Tryz.prog.wantsStandIn t = false by simpa using List.all_eq_true.1 hall t hm)⟩)
    (by kernel_rfl)
end Go.Proofs.YtogdkhnakenbcaaGreatDoor
