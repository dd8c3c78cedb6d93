/-
  CodecNone: whatever piece is asked, a writer and a reader that no call made answer that they were not made, and have nothing. No condition beyond the form's own.
-/
import Derived.Test.YtdjppchcnbfcoaaCNone
import Derived.Test.YtdjppchcnbfcoaaCOpen
import Derived.Test.YtdjppchcnbfcoaaCEq
namespace Go.Proofs.Ytdjppchcnbfcoaa
open Go.ChangeShapes Go.WideShapes Go.ChangeAt Go.RowKit Go.Deep
set_option linter.unusedVariables false

theorem box3_at {w : World} {b : Nat} {a0 a1 a2 : Value} {t : TypeId} {fz : Nat × Nat} (hb : w.heap[b]? = some (.cells #[a0, a1, a2] t fz)) : w.cell? ⟨b, 0, none⟩ = some a0 ∧ w.cell? ⟨b, 1, none⟩ = some a1 ∧ w.cell? ⟨b, 2, none⟩ = some a2 := by
  refine ⟨?_, ?_, ?_⟩ <;> (rw [cell_of_row w b _ _ t fz hb]; rfl)
theorem box2_at {w : World} {b : Nat} {a0 a1 : Value} {t : TypeId} {fz : Nat × Nat} (hb : w.heap[b]? = some (.cells #[a0, a1] t fz)) : w.cell? ⟨b, 0, none⟩ = some a0 ∧ w.cell? ⟨b, 1, none⟩ = some a1 := by
  refine ⟨?_, ?_⟩ <;> (rw [cell_of_row w b _ _ t fz hb]; rfl)
theorem box_next {w w' : World} {b : Nat} {o : Obj} (h : w.heap[b]? = some o) (hb : Below w.heap.size w w') : w'.heap[b]? = some o := (hb.block b (Array.getElem?_eq_some_iff.1 h).1).trans h
theorem box_new (w : World) (o : Obj) : (w.alloc o).heap[w.heap.size]? = some o := Array.getElem?_push_size

set_option maxHeartbeats 6400000 in
set_option maxRecDepth 100000 in
theorem codecNone_walk (p : PR) (hp : p.Ok) (w : World) :
    Calls Try.prog 10 #[p.val] w fun e w' => e = .returned (.bool true) ∧ Below w.heap.size w w' := by
  have HTO := Lib.hid (fun a W (h : WNo W a) => to_no p hp a W h)
  have HFR := Lib.hid (fun a W (h : RNo W a) => from_no p hp a W h)
  obtain ⟨k, n, s⟩ := p
  obtain ⟨hk, hn, hs⟩ := hp
  simp only at hk hn hs
  unfold PR.val at HTO HFR ⊢
  simp only at HTO HFR ⊢
  have hA := alloc_below w (.cells #[.int .u8 (k : Int), .int .i64 n, .string ⟨s.toArray⟩] 28)
  have hbox := box_new w (.cells #[.int .u8 (k : Int), .int .i64 n, .string ⟨s.toArray⟩] 28)
  have HA := Lib.hid hA
  have HX := Lib.hid hbox
  clear hA hbox
  go_enter Try.func10, Try.ntmps10
  go_wp2_with fail
  refine (begun_any _).mono ?_
  rintro e w1 ⟨rfl, h1⟩
  have HX1 := Lib.hid (box_next HX.out h1)
  have HB1 := Lib.hid (bt HA.out h1)
  clear h1
  go_wp2_with fail
  have hb2 : Below w1.heap.size w1 ((w1.alloc (.cells #[.bool false, .slice none 0 0] 67)).alloc (.cells #[.pointer none, .pointer (some ⟨w1.heap.size, 0, none⟩)] 23)) := ((Below.refl _ _).alloc (Nat.le_refl _) _).alloc (by simp) _
  have hx2 := box_next (box_new w1 (.cells #[.bool false, .slice none 0 0] 67)) (alloc_below (w1.alloc (.cells #[.bool false, .slice none 0 0] 67)) (.cells #[.pointer none, .pointer (some ⟨w1.heap.size, 0, none⟩)] 23))
  have hx3 := box_new (w1.alloc (.cells #[.bool false, .slice none 0 0] 67)) (.cells #[.pointer none, .pointer (some ⟨w1.heap.size, 0, none⟩)] 23)
  rw [show (w1.alloc (.cells #[.bool false, .slice none 0 0] 67)).heap.size = w1.heap.size + 1 by simp] at hx3
  have HX2 := Lib.hid hx2
  have HX3 := Lib.hid hx3
  have HXP2 := Lib.hid (box_next HX1.out hb2)
  have HB2 := Lib.hid (bt HB1.out hb2)
  clear hb2 hx2 hx3
  generalize ((w1.alloc (.cells #[.bool false, .slice none 0 0] 67)).alloc (.cells #[.pointer none, .pointer (some ⟨w1.heap.size, 0, none⟩)] 23)) = WS at *
  go_loopw [15] (fun idx wr => ∃ i : Nat, i ≤ 2 ∧ idx = .int .i64 i ∧ Below WS.heap.size WS wr) (fun idx _ => 2 - (intOf idx).toNat)
  case atStart => exact ⟨0, by omega, rfl, Below.refl _ _⟩
  case round =>
    obtain ⟨i, hi, rfl, hbw⟩ := hrel
    have hbw2 := Lib.hid hbw
    obtain ⟨c0, c1⟩ := box2_at (box_next HX3.out hbw)
    obtain ⟨d0, d1, d2⟩ := box3_at (box_next HXP2.out hbw)
    have hno1 := Lib.hid (show WNo wr (some ⟨w1.heap.size, 0, none⟩) from .inr ⟨_, rfl, box_next HX2.out hbw⟩)
    clear hbw
    rcases (by omega : i = 0 ∨ i = 1 ∨ i = 2) with rfl | rfl | rfl
    · have hno0 := Lib.hid (show WNo wr none from .inl rfl)
      have z0 : ((0 : Nat) : Int) = 0 := rfl
      go_wp2_with fail
      refine (HTO.out _ _ hno0.out).mono ?_
      rintro e w2 ⟨rfl, h2⟩
      have HB3 := Lib.hid h2
      have HN := Lib.hid (hno0.out.below h2)
      clear h2
      go_wp2_with (first | (go_at_call 16; refine (lenW_no _ _ HN.out).mono ?_; rintro e w' ⟨rfl, rfl⟩) | (go_at_call 18; refine (outW_no _ _ HN.out).mono ?_; rintro e w' ⟨rfl, rfl⟩))
      go_roundw
      case rel => exact ⟨1, by omega, rfl, bt hbw2.out HB3.out⟩
      case measure => simp [intOf]
    · have z0 : ((1 : Nat) : Int) = 1 := rfl
      go_wp2_with fail
      refine (HTO.out _ _ hno1.out).mono ?_
      rintro e w2 ⟨rfl, h2⟩
      have HB3 := Lib.hid h2
      have HN := Lib.hid (hno1.out.below h2)
      clear h2
      go_wp2_with (first | (go_at_call 16; refine (lenW_no _ _ HN.out).mono ?_; rintro e w' ⟨rfl, rfl⟩) | (go_at_call 18; refine (outW_no _ _ HN.out).mono ?_; rintro e w' ⟨rfl, rfl⟩))
      go_roundw
      case rel => exact ⟨2, by omega, rfl, bt hbw2.out HB3.out⟩
      case measure => simp [intOf]
    · rw [show ((2 : Nat) : Int) = 2 from rfl]
      have HXR := Lib.hid (box_next HXP2.out hbw2.out)
      have HBR := Lib.hid (bt HB2.out hbw2.out)
      clear c0 c1 d0 d1 d2 hno1
      rename World => WT
      clear hi
      go_wp2_with fail
      have hb2 : Below WT.heap.size WT ((WT.alloc (.cells #[.bool false, .slice none 0 0] 70)).alloc (.cells #[.pointer none, .pointer (some ⟨WT.heap.size, 0, none⟩)] 35)) := ((Below.refl _ _).alloc (Nat.le_refl _) _).alloc (by simp) _
      have hx2 := box_next (box_new WT (.cells #[.bool false, .slice none 0 0] 70)) (alloc_below (WT.alloc (.cells #[.bool false, .slice none 0 0] 70)) (.cells #[.pointer none, .pointer (some ⟨WT.heap.size, 0, none⟩)] 35))
      have hx3 := box_new (WT.alloc (.cells #[.bool false, .slice none 0 0] 70)) (.cells #[.pointer none, .pointer (some ⟨WT.heap.size, 0, none⟩)] 35)
      rw [show (WT.alloc (.cells #[.bool false, .slice none 0 0] 70)).heap.size = WT.heap.size + 1 by simp] at hx3
      have HY2 := Lib.hid hx2
      have HY3 := Lib.hid hx3
      have HXP3 := Lib.hid (box_next HXR.out hb2)
      have HB4 := Lib.hid (bt HBR.out hb2)
      clear hb2 hx2 hx3
      generalize ((WT.alloc (.cells #[.bool false, .slice none 0 0] 70)).alloc (.cells #[.pointer none, .pointer (some ⟨WT.heap.size, 0, none⟩)] 35)) = WU at *
      go_loopw [39] (fun idx wr => ∃ i : Nat, i ≤ 2 ∧ idx = .int .i64 i ∧ Below WU.heap.size WU wr) (fun idx _ => 2 - (intOf idx).toNat)
      case atStart => exact ⟨0, by omega, rfl, Below.refl _ _⟩
      case round =>
        obtain ⟨i, hi, rfl, hbw⟩ := hrel
        have hbw3 := Lib.hid hbw
        obtain ⟨c0, c1⟩ := box2_at (box_next HY3.out hbw)
        obtain ⟨d0, d1, d2⟩ := box3_at (box_next HXP3.out hbw)
        have hno1 := Lib.hid (show RNo wr (some ⟨WT.heap.size, 0, none⟩) from .inr ⟨_, rfl, box_next HY2.out hbw⟩)
        clear hbw
        rcases (by omega : i = 0 ∨ i = 1 ∨ i = 2) with rfl | rfl | rfl
        · have hno0 := Lib.hid (show RNo wr none from .inl rfl)
          have z0 : ((0 : Nat) : Int) = 0 := rfl
          go_wp2_with fail
          refine (HFR.out _ _ hno0.out).mono ?_
          rintro e w2 ⟨rfl, h2⟩
          have HB3 := Lib.hid h2
          have HN := Lib.hid (fun W h => (hno0.out.below h2).below (w' := W) h)
          have hq := box_next (box_next HXP3.out hbw3.out) h2
          have hz : w.heap.size < w2.heap.size := (Array.getElem?_eq_some_iff.1 hq).1
          obtain ⟨q0, q1, q2⟩ := box3_at hq
          have heq := eqPP (k : Int) 0 (k : Int) 0 [] []
          simp only [decide_true, and_self] at heq
          have hal := Lib.hid (alloc_below w2 (.cells #[.int .u8 (k : Int), .int .i64 0, .string ⟨#[]⟩] 28))
          clear h2 hq
          go_wp2_with (first | (go_at_call 24; refine (left_no _ _ (HN.out _ hal.out)).mono ?_; rintro e w' ⟨rfl, rfl⟩) | (go_at_call 25; refine (end_no _ _ (HN.out _ hal.out)).mono ?_; rintro e w' ⟨rfl, rfl⟩))
          go_roundw
          case rel => exact ⟨1, by omega, rfl, bt (bt hbw3.out HB3.out) hal.out⟩
          case measure => simp [intOf]
        · have z0 : ((1 : Nat) : Int) = 1 := rfl
          go_wp2_with fail
          refine (HFR.out _ _ hno1.out).mono ?_
          rintro e w2 ⟨rfl, h2⟩
          have HB3 := Lib.hid h2
          have HN := Lib.hid (fun W h => (hno1.out.below h2).below (w' := W) h)
          have hq := box_next (box_next HXP3.out hbw3.out) h2
          have hz : w.heap.size < w2.heap.size := (Array.getElem?_eq_some_iff.1 hq).1
          obtain ⟨q0, q1, q2⟩ := box3_at hq
          have heq := eqPP (k : Int) 0 (k : Int) 0 [] []
          simp only [decide_true, and_self] at heq
          have hal := Lib.hid (alloc_below w2 (.cells #[.int .u8 (k : Int), .int .i64 0, .string ⟨#[]⟩] 28))
          clear h2 hq
          go_wp2_with (first | (go_at_call 24; refine (left_no _ _ (HN.out _ hal.out)).mono ?_; rintro e w' ⟨rfl, rfl⟩) | (go_at_call 25; refine (end_no _ _ (HN.out _ hal.out)).mono ?_; rintro e w' ⟨rfl, rfl⟩))
          go_roundw
          case rel => exact ⟨2, by omega, rfl, bt (bt hbw3.out HB3.out) hal.out⟩
          case measure => simp [intOf]
        · go_wp2_with fail
          go_ret
          exact ⟨rfl, bt HB4.out hbw3.out⟩

set_option maxRecDepth 100000 in
theorem codecNone_lifted (os : Os) (started : os.Started) (H : Type) (enc : TypeId × Value → H) :
    ReturnsInHanded {} Try.checked os 10 .any (Rows.codecNoneSpec.pre6 enc Try.prog Try.f10 Rows.codecNoneRow.domain false) (Rows.codecNoneSpec.post enc Try.prog Try.f10 false true false false) := by
  refine returnsInHanded_of_change_sized (C := Try.checked) own started (by kernel_rfl) Try.func10
    (ChangeSpec.witness6 (enc := enc) (C := Try.checked) false ⟨#[], #[.agg #[.int .u8 0, .int .i64 0, .string ⟨#[]⟩]], []⟩ 8 (by kernel_rfl) (by kernel_rfl) (by kernel_rfl) (by kernel_rfl)) ?_
  intro W base args ds gs before hval0 hW _ hsz _
  have hval : ∀ (j : Nat) t v, Try.f10.params[j]? = some t → args[j]? = some v → Value.okWide Try.prog W .any base t v := hval0
  have hW' := hW
  obtain ⟨p, q, hA0, hV, rfl, hfz, hnd⟩ := hW
  have hA : DataW.TrodAll enc Try.prog W 0 (fun _ => true) true Try.f10.params.toList args.toList ds p := hA0
  rw [Try.params10] at hA hval
  obtain ⟨v0, vs0, d0, ds0, p0, q0, hargs, rfl, rfl, h0, r0⟩ := trodAll_cons hA
  obtain ⟨rfl, rfl, rfl⟩ := trodAll_nil r0
  obtain rfl : args = #[v0] := by cases args; simp_all
  obtain ⟨rfl, rfl⟩ := trodVars_none hV
  simp only [List.append_nil] at hW'
  have hlt0 : ∀ x ∈ p0, x.block < W.heap.size := fun x hx => hW'.lt x (by simp [hx])
  have hreach := reachBytes_lt
  obtain ⟨p, rfl, k0, n0, sy0⟩ := open_piece (hval 0 28 v0 rfl rfl) h0
  have ok0 : p.Ok := ⟨k0, n0, by
    have := List.all_eq_true.1 hsz _ (DataW.weights_mem_each (j := 0) (t := 28) rfl rfl _ sy0.weight)
    have : p.s.length ≤ reachBytes := by simpa using this
    have hr : reachBytes ≤ 140737488351232 := by decide
    omega⟩
  clear hA0 hval0
  refine (codecNone_walk p ok0 W).mono fun e W' ⟨he, hg⟩ => ?_
  subst he
  have hpost : Rows.codecNoneSpec.post enc Try.prog Try.f10 false true false false W _ _ W' := post_of_below (pa := p0 ++ []) (pv := []) hW' (fun _ _ _ => (trodAll_cons_mk (shut_bool Try.underlying4 _) trodAll_mk0)) (fun sp hsp => (trodAll_cons_mk (WideElems.Trod_stays laidOut (by kernel_rfl) (of_decide_eq_true (by kernel_rfl)) h0 (fun x hx => hg.same (hlt0 x hx)) (fun x hx => hsp x (by simp [hx]))) trodAll_mk0)) (fun _ _ => rfl) (by simp) hg (ok_one (by kernel_rfl) rfl (okWide_bool_mk Try.underlying4 _))
  exact ⟨_, rfl, hpost⟩

theorem codecNone_holds : Rows.CodecNoneSaid :=
  OpenClaim.holds_of_wide 10 Try.f10 rfl rfl rfl rfl rfl rfl rfl ⟨rfl, rfl, rfl, rfl, rfl⟩ rfl rfl rfl rfl rfl (by kernel_rfl) Try.func10 (by kernel_rfl)
    (of_decide_eq_true (by kernel_rfl)) (by unfold Func.isWrapper; first | (rw [if_pos (by decide +kernel)]; kernel_rfl) | (rw [if_neg (by decide +kernel)]; exact ⟨rfl, rfl⟩))
    (fun os started H enc _ => codecNone_lifted os started H enc)
end Go.Proofs.Ytdjppchcnbfcoaa
