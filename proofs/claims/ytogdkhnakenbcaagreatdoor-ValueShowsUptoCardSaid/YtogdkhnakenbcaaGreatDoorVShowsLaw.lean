/-
  ValueShows: the texts, the keys and the hashes of all values of a list are the document's. Condition: the second form's: what comes in is of bulk at most 1048576; the listed tables read as the program's text lays them (the card ties them).
-/
import Derived.Test.YtogdkhnakenbcaaGreatDoorVRefHash
import Derived.Test.YtogdkhnakenbcaaGreatDoorVBulk
import Derived.Test.YtogdkhnakenbcaaGreatDoorVLaid
namespace Go.Proofs.YtogdkhnakenbcaaGreatDoor
open Go.ChangeShapes Go.WideShapes Go.ChangeAt Go.RowKit
set_option linter.unusedVariables false
open Cal in
theorem day_text (n : Int) : ∃ L : List UInt8, IsDay n L := by
  by_cases h : ∃ y m d : Nat, vld y m d ∧ dayNum y m d = n
  · obtain ⟨y, m, d, hv, hn⟩ := h
    refine ⟨dayL y m d, fun y' m' d' hv' hn' => ?_⟩
    obtain ⟨e1, e2, e3⟩ := inj hv' hv (hn'.trans hn.symm)
    rw [Int.ofNat.inj e1, Int.ofNat.inj e2, Int.ofNat.inj e3]
  · exact ⟨[], fun y m d hv hn => absurd ⟨y, m, d, hv, hn⟩ h⟩

set_option maxHeartbeats 3200000 in
set_option maxRecDepth 100000 in
theorem valueShows_walk (A : Option Addr) (ca : Nat) (xs : List VR) (s0 : Int) (w : World) (hA : VRd w A xs) (ox : ∀ x ∈ xs, x.Ok) (lx : xs.length ≤ maxLen) (hS : sizeL xs ≤ 1048576) (hM : MLaid w) (hP : PowLaid w) :
    Calls Tryz.prog 4 #[.int .u64 s0, .slice A xs.length ca] w fun e w' => e = .returned (.bool true) ∧ Below w.heap.size w w' := by
  have hlim : (keyL xs).length + 100 ≤ 140737488355328 := by have := keyL_le ox hS; omega
  have K1 := Lib.hid (fun W h1 h2 h3 => key_any A ca xs W h1 ox lx hlim h2 h3)
  have K2 := Lib.hid (fun W h1 => refKey_any A ca xs W h1 ox lx hlim)
  have K3 := Lib.hid (fun W h1 h2 h3 => hash_any A ca xs s0 W h1 ox lx hlim h2 h3)
  have K4 := Lib.hid (fun W h1 => refHash_any A ca xs s0 W h1 ox lx hlim)
  have HM := Lib.hid hM
  have HP := Lib.hid hP
  unfold maxLen at lx
  clear hM hP hlim
  go_enter Tryz.func4, Tryz.ntmps4
  go_wp2_with fail
  go_loopw [9] (fun i wr => ∃ k : Nat, k ≤ xs.length ∧ i = .int .i64 k ∧ Below w.heap.size w wr) (fun i _ => xs.length - (intOf i).toNat)
  case atStart => exact ⟨0, Nat.zero_le _, rfl, Below.refl _ _⟩
  case round =>
    obtain ⟨k, kx, rfl, hw⟩ := hrel
    by_cases hx : k < xs.length
    · obtain ⟨g, off, rfl, hg, hW⟩ := (hA.below hw) (by omega)
      obtain ⟨a0, a1, a2, a3, a4⟩ := hW k hx
      have hok := ox _ (List.getElem_mem hx)
      have hsx := size_mem (List.getElem_mem hx)
      have x0 : (0 : Int) ≤ (k : Int) := by omega
      have x1 : (k : Int) < (xs.length : Int) := by omega
      have x2 : 0 < xs.length := by omega
      have HA := Lib.hid hA
      have hsz : w.heap.size ≤ wr.heap.size := hw.size
      clear hA hW
      generalize xs[k] = vx at *
      obtain ⟨vk, vs, vnl, vn, vt⟩ := vx
      simp only at a0 a1 a2 a3 a4 hsx
      have hk := hok.k
      have hn := hok.n
      obtain ⟨L, hL⟩ := day_text vn
      have hlen : (dblL vt.data.toList).length + 2 ≤ 140737488355328 := by
        have := dbl_len vt.data.toList
        have := List.count_le_length (a := (39 : UInt8)) (l := vt.data.toList)
        have e : vt.data.toList.length = vt.size := Array.length_toList
        omega
      have S1 := Lib.hid (fun W (h : Below w.heap.size w W) => show_any vk vs vnl vn vt L W hn (Lib.hid hL) hlen (HM.out.next h) (HP.out.below h) (pow_low (HM.out.next h)))
      have S2 := Lib.hid (fun W => refShow_any vk vs vnl vn vt L W hn (Lib.hid hL) hlen)
      clear hok hL hlen hsx
      go_wp2_with fail
      obtain ⟨z0, z1, z2, z3, z4⟩ := box_cells (show (wr.alloc (.cells #[.int .i64 vk, .int .i64 vs, .bool vnl, .int .i64 vn, .string vt] 25)).heap[wr.heap.size]? = some (.cells #[.int .i64 vk, .int .i64 vs, .bool vnl, .int .i64 vn, .string vt] 25) from Array.getElem?_push_size)
      have hB0 : Below w.heap.size w (wr.alloc (.cells #[.int .i64 vk, .int .i64 vs, .bool vnl, .int .i64 vn, .string vt] 25)) := hw.alloc hsz _
      have hlt0 : wr.heap.size < (wr.alloc (.cells #[.int .i64 vk, .int .i64 vs, .bool vnl, .int .i64 vn, .string vt] 25)).heap.size := by simp
      generalize wr.alloc (.cells #[.int .i64 vk, .int .i64 vs, .bool vnl, .int .i64 vn, .string vt] 25) = WA at *
      go_region_held3 (fun w' => w'.cell? ⟨wr.heap.size, 0, none⟩ = some (.int .i64 vk) ∧ w'.cell? ⟨wr.heap.size, 1, none⟩ = some (.int .i64 vs) ∧ w'.cell? ⟨wr.heap.size, 2, none⟩ = some (.bool vnl) ∧ w'.cell? ⟨wr.heap.size, 3, none⟩ = some (.int .i64 vn) ∧ w'.cell? ⟨wr.heap.size, 4, none⟩ = some (.string vt) ∧ wr.heap.size < w'.heap.size ∧ Below w.heap.size w w')
        (((try go_split_ands); refine ⟨?_, ?_, ?_, ?_, ?_, ?_, ?_⟩ <;> first | assumption | (with_reducible exact below_drew hB0) | (rw [(bcell hb1).1 _ _ (by omega)]; assumption) | (have := hb1.size; omega) | (with_reducible refine bt ?_ hb1; (first | assumption | (with_reducible exact below_drew hB0))) | go_keep))
        (first | (go_at_call 10; refine (S1.out _ ?_).mono ?_; (focus first | assumption | (with_reducible exact below_drew hB0) | (go_split_ands; assumption)); rintro e w1 ⟨rfl, hb1⟩) | (go_at_call 11; refine (S2.out _).mono ?_; rintro e w1 ⟨rfl, hb1⟩))
      rename_i hH
      obtain ⟨-, -, -, -, -, -, hw2⟩ := hH
      go_wp2
      go_roundw
      case rel => exact ⟨k + 1, by omega, by go_num, hw2⟩
      case measure => simp [intOf]; omega
    · have hxI : ¬ (k : Int) < (xs.length : Int) := by omega
      go_wp2_with fail
      refine (begun_any _).mono ?_
      rintro e w1 ⟨rfl, hb1⟩
      have hw1 := bt hw hb1
      clear hb1
      go_wp2_with fail
      refine (K1.out _ (hA.below hw1) (Nat.lt_of_lt_of_le (powLow HP.out) hw1.size) (HP.out.below hw1)).mono ?_
      rintro e w2 ⟨rfl, hb2⟩
      have hw2 := bt hw1 hb2
      clear hb2
      go_wp2_with fail
      refine (K2.out _ (hA.below hw2)).mono ?_
      rintro e w3 ⟨rfl, hb3⟩
      have hw3 := bt hw2 hb3
      clear hb3
      go_wp2_with fail
      refine (K3.out _ (hA.below hw3) (Nat.lt_of_lt_of_le (powLow HP.out) hw3.size) (HP.out.below hw3)).mono ?_
      rintro e w4 ⟨rfl, hb4⟩
      have hw4 := bt hw3 hb4
      clear hb4
      go_wp2_with fail
      refine (K4.out _ (hA.below hw4)).mono ?_
      rintro e w5 ⟨rfl, hb5⟩
      have hw5 := bt hw4 hb5
      clear hb5
      go_wp2
      go_ret
      exact ⟨rfl, hw5⟩

set_option maxRecDepth 100000 in
theorem valueShows_lifted (os : Os) (started : os.Started) (H : Type) (enc : TypeId × Value → H) (F : Stop.Interp) :
    ReturnsInHanded {} Tryz.checked os 4 .any ((Rows.OpenSpec.upto Rows.valueShowsSpec).preRow enc Tryz.prog Tryz.f4 Rows.valueShowsUptoRow.domain false Rows.valueShowsUptoRow.laid) (((Rows.OpenSpec.upto Rows.valueShowsSpec).at F).post enc Tryz.prog Tryz.f4 false true false false) := by
  refine returnsInHanded_of_row (C := Tryz.checked) (s := Rows.OpenSpec.upto Rows.valueShowsSpec) own started (by kernel_rfl) Tryz.func4
    (witness_zip (enc := enc) (C := Tryz.checked) false (World.laidAll Tryz.prog os laid6) #[.int .u64 0, .slice none 0 0] (World.laidAll_os _ _ _) (World.shaped_of_ZipB (by kernel_rfl) (by kernel_rfl)) (by kernel_rfl)
      (OpenSpec.preRow_of_cond (x := ([.lit (.int .u64 0), .nil], [], [])) 8 (by kernel_rfl) (by kernel_rfl) (fun k hk => by cases hk; kernel_rfl) (by kernel_rfl)
        (show laidMetH Tryz.prog laid6 _ by rw [MakeChecks.laidMetH_plain _ _ _ (by kernel_rfl)]; exact laidMet_laidAll _ (by kernel_rfl) (by kernel_rfl)))) ?_
  intro W base args ds gs before hval0 hW _ hcond hsz hL0 _ _
  have hL : laidMetH Tryz.prog laid6 W := hL0
  have hk0 : Rows.uptoSmall H (ds ++ gs) = true := hcond _ rfl
  have hk : Rows.uptoBulkAll (ds ++ gs) ≤ 1048576 := of_decide_eq_true hk0
  have hval : ∀ (j : Nat) t v, Tryz.f4.params[j]? = some t → args[j]? = some v → Value.okWide Tryz.prog W .any base t v := hval0
  have hW' := hW
  obtain ⟨p, q, hA0, hV, rfl, hfz, hnd⟩ := hW
  have hA : DataW.TrodAll enc Tryz.prog W 0 (fun _ => true) true Tryz.f4.params.toList args.toList ds p := hA0
  rw [Tryz.params4] at hA hval
  obtain ⟨v0, vs0, d0, ds0, p0, q0, hargs, rfl, rfl, h0, r0⟩ := trodAll_cons hA
  obtain ⟨v1, vs1, d1, ds1, p1, q1, rfl, rfl, rfl, h1, r1⟩ := trodAll_cons r0
  obtain ⟨rfl, rfl, rfl⟩ := trodAll_nil r1
  obtain rfl : args = #[v0, v1] := by cases args; simp_all
  obtain ⟨rfl, rfl⟩ := trodVars_none hV
  simp only [List.append_nil] at hW' hk
  simp only [Rows.uptoBulkAll] at hk
  have hlt0 : ∀ x ∈ p0, x.block < W.heap.size := fun x hx => hW'.lt x (by simp [hx])
  have hlt1 : ∀ x ∈ p1, x.block < W.heap.size := fun x hx => hW'.lt x (by simp [hx])
  obtain ⟨s0, rfl, -, -, w0⟩ := open_int Tryz.underlying31 (hval 0 31 v0 rfl rfl) h0
  obtain ⟨A1, cap1, xs, rfl, hR1, ok1, hd1, hb1⟩ := open_vals_bulk (hval 1 32 v1 rfl rfl) h1
  clear hA0 hval0
  obtain ⟨hM, hP⟩ := of_laid6 hL
  refine (valueShows_walk A1 cap1 xs s0 W hR1 ok1 hd1 (by omega) hM hP).mono fun e W' ⟨he, hg⟩ => ?_
  subst he
  have hpost : Rows.valueShowsSpec.post enc Tryz.prog Tryz.f4 false true false false W _ _ W' := post_of_below (pa := p0 ++ (p1 ++ [])) (pv := []) hW' (fun _ _ _ => (trodAll_cons_mk (shut_bool Tryz.underlying4 _) trodAll_mk0)) (fun sp hsp => (trodAll_cons_mk (WideElems.Trod_stays laidOut (by kernel_rfl) (of_decide_eq_true (by kernel_rfl)) h0 (fun x hx => hg.same (hlt0 x hx)) (fun x hx => hsp x (by simp [hx]))) (trodAll_cons_mk (WideElems.Trod_stays laidOut (by kernel_rfl) (of_decide_eq_true (by kernel_rfl)) h1 (fun x hx => hg.same (hlt1 x hx)) (fun x hx => hsp x (by simp [hx]))) trodAll_mk0))) (fun _ _ => rfl) (by simp) hg (ok_one (by kernel_rfl) rfl (okWide_bool_mk Tryz.underlying4 _))
  exact ⟨_, rfl, hpost⟩

theorem valueShows_holds : Rows.ValueShowsUptoSaid :=
  OpenClaim.holds_of_cond 4 Tryz.f4 rfl rfl rfl rfl rfl rfl rfl ⟨rfl, rfl, rfl, rfl, rfl⟩ rfl rfl rfl rfl rfl (by kernel_rfl) Tryz.func4 (by kernel_rfl)
    (of_decide_eq_true (by kernel_rfl)) (by unfold Func.isWrapper; first | (rw [if_pos (by decide +kernel)]; kernel_rfl) | (rw [if_neg (by decide +kernel)]; exact ⟨rfl, rfl⟩))
    (fun os started H enc _ F => by rw [OpenClaim.pre_eq_preRow]; exact valueShows_lifted os started H enc F)

theorem valueShows_card : Rows.ValueShowsUptoCardSaid :=
  Claim7.holds_tied_plain_at .later [] [.data, .data, .data, .data, .data, .pinned] true Rows.valueShowsUptoCard.stood.harness true
    valueShows_holds (fun _ h => by cases h) (by kernel_rfl) (fun _ h => by cases h) valueShowsUpto_row_tie rfl ⟨rfl, rfl⟩ (by kernel_rfl) rfl
    (fun f fn hf hfn => by
      obtain rfl : f = 4 := Option.some.inj ((show Tryz.prog.funcNamed "colonnade/colonnadelaw02.ValueShows" = some 4 by kernel_rfl).symm.trans hf) |>.symm
      obtain rfl : fn = Tryz.f4 := (Option.some.inj (Tryz.func4.symm.trans hfn)).symm
      exact ⟨by kernel_rfl, fun j t ht => by
        rw [Tryz.params4] at ht
        have hm : t ∈ [31, 32] := by simpa using Array.mem_of_getElem? ht
        have hall : ([31, 32].all fun u => !Tryz.prog.wantsStandIn u) = true := by kernel_rfl
        exact (show Tryz.prog.wantsStandIn t = false by simpa using List.all_eq_true.1 hall t hm)⟩)
    (by kernel_rfl)
end Go.Proofs.YtogdkhnakenbcaaGreatDoor
