/-
  DiskDoes: each answer of a disk, whatever is written, cut off and made sure, and whenever the power goes, and each byte of both files, are the document's. Condition: what comes in is of bulk at most 1048576.
-/
import Derived.Test.YtdbbghmldaekhaaEEqual
import Derived.Deep.OwnRows
namespace Go.Proofs.Ytdbbghmldaekhaa
open Go.ChangeShapes Go.WideShapes Go.ChangeAt Go.RowKit Go.Deep
set_option linter.unusedVariables false

theorem duo_first {w0 w : World} {gd gr : Nat} {v : Nat → Value} {pc : Value} {qs : List PV} {kp : Value} {Y X : Nat → Prop} (hd : DSt w gd v pc qs kp St.new) (hlo : ∀ k, DR gd v pc qs kp k → w0.heap.size ≤ k) (hY : ∀ k, DR gd v pc qs kp k → Y k) (hb : Below w0.heap.size w0 w) (hr : RDisk w w0.heap.size gr (.slice none 0 0) (fun _ => False) St.new) (hX : X gr) (hYX : ∀ k, X k → ¬ Y k) : Duo w0 w gd gr St.new St.new (fun _ => False) := by
  have hx : ∀ k, RX gr (.slice none 0 0) (fun _ => False) k → X k := by
    rintro k (rfl | h | h)
    · exact hX
    · simp [Value.ownBlock] at h
    · exact h.elim
  exact ⟨.slice none 0 0, fun _ => False, ⟨v, pc, qs, kp, hd, fun k hk => hlo k (.inl hk), hb, fun k hk hdr => hk.elim (fun h => hYX k (hx k h) (hY k hdr)) fun h => h⟩, hr, fun k hk hz => hz, fun k hk => hk.elim⟩
theorem RDisk.belowR {w w' : World} {B g : Nat} {pc : Value} {R : Nat → Prop} {s : St} (h : RDisk w B g pc R s) (hb : Below w.heap.size w w') : RDisk w' B g pc R s := by
  obtain ⟨a, k, qs, ka, kc, ks, h⟩ := h
  exact ⟨a, k, qs, ka, kc, ks, h.below hb⟩
set_option maxHeartbeats 12800000 in
set_option maxRecDepth 100000 in
theorem diskDoes_walk (A1 : Option Addr) (c1 : Nat) (o1 : List OpV) (w : World) (h1 : OpsRd w A1 o1) (r1 : ∀ o ∈ o1, o.Reads w) (hb1 : bulkO o1 ≤ 1048576) :
    Calls Try.prog 5 #[.slice A1 o1.length c1] w fun e w' => e = .returned (.bool true) ∧ Below w.heap.size w w' := by
  have H1 := Lib.hid h1
  have R1 := Lib.hid r1
  have HB1 := Lib.hid hb1
  have hl1 : (o1.length : Int) ≤ 1048576 := by have := bulkO_len o1; omega
  clear h1 r1 hb1
  go_enter Try.func5, Try.ntmps5
  go_wp2_with fail
  refine (new_st w).mono ?_
  rintro e w1 ⟨d, rfl, hb1, va, pa, qa, ka, hda, hRa⟩
  have LA := Lib.hid (hda.core.lt (Array.getElem?_eq_some_iff.1 hda.box).1)
  have HDA := Lib.hid hda
  have HRA := Lib.hid hRa
  have E1 := Lib.hid hb1
  clear hda hRa hb1
  go_wp2_with fail
  refine (rnew_any w1 w.heap.size E1.out.size).mono ?_
  rintro e w2 ⟨r, rfl, hrx, hb2, hx2⟩
  have HRX := Lib.hid hrx
  have E2 := Lib.hid hb2
  clear hrx hb2
  go_wp2_with fail
  refine (begun_any _).mono ?_
  rintro e w3 ⟨rfl, hb3⟩
  have HDuo : Hid (Duo w w3 d r St.new St.new (fun _ => False)) :=
    duo_first (Y := fun k => k < w1.heap.size) (X := fun k => w1.heap.size ≤ k) ((HDA.out.below E2.out).below hb3) (fun k hk => HRA.out k hk) (fun k hk => LA.out k hk) (bt (bt E1.out E2.out) hb3) (HRX.out.belowR hb3) hx2 (fun k hk hy => by omega)
  clear HDA HRA LA HRX E1 E2 hb3 hx2
  go_wp2_with fail
  go_loopw [3, 18] (fun dv idx wr => ∃ (j : Nat) (s : St) (c : Nat), j ≤ o1.length ∧ dv = .pointer (some ⟨c, 0, none⟩) ∧ idx = .int .i64 (j : Int) ∧ Duo w wr c r s s (fun _ => False) ∧ s.pcs.length ≤ bulkO (o1.take j) ∧ s.keep.length ≤ bulkO (o1.take j)) (fun _ idx _ => o1.length - (intOf idx).toNat)
  case atStart => exact ⟨0, St.new, d, by omega, rfl, rfl, HDuo.out, by simp [St.new], by simp [St.new]⟩
  case round =>
    obtain ⟨j, s, c, hj, rfl, rfl, hat, hcalm, hkeep⟩ := hrel
    have HAT := Lib.hid hat
    have HCA := Lib.hid hcalm
    have HKE := Lib.hid hkeep
    clear hat hcalm hkeep
    by_cases hjn : j < o1.length
    · obtain ⟨ga, off, rfl, hga, k0, k1, k2, k3, k4, k5⟩ := (H1.out.below HAT.out.bel).cells j hjn
      have hr := R1.out o1[j] (List.getElem_mem _)
      have HS := Lib.hid (bulkO_take o1 j hjn)
      have HM := Lib.hid (bulkO_mem (List.getElem_mem hjn))
      have HLE := Lib.hid (bulkO_le o1 (j + 1))
      have HKN : Hid (o1[j].K = none → o1[j].ks.length = 0) := fun e => by
        rcases Nat.eq_zero_or_pos o1[j].ks.length with h | h
        · exact h
        · obtain ⟨_, _, e', _⟩ := hr.ks h
          rw [e] at e'; cases e'
      have HR := Lib.hid hr
      clear hr
      generalize o1[j] = o at *
      have HST : Hid (Calls Try.prog 20 #[.pointer (some ⟨c, 0, none⟩), .pointer (some ⟨r, 0, none⟩), .agg #[.int .i64 o.d, .int .i64 o.f, .int .i64 o.k, .int .i64 o.n, .slice o.A o.b.length o.ac, .slice o.K o.ks.length o.kc]] (wr.alloc (.cells #[.int .i64 o.d, .int .i64 o.f, .int .i64 o.k, .int .i64 o.n, .slice o.A o.b.length o.ac, .slice o.K o.ks.length o.kc] 42)) (StepAll w (wr.alloc (.cells #[.int .i64 o.d, .int .i64 o.f, .int .i64 o.k, .int .i64 o.n, .slice o.A o.b.length o.ac, .slice o.K o.ks.length o.kc] 42)) r (stepS s o) (fun _ => False))) := by
        have h1 := HM.out
        have h2 := HB1.out
        have h3 := HCA.out
        have h4 := HS.out
        have h5 := HLE.out
        have h6 := HKE.out
        exact step_all o (HAT.out.below (alloc_below wr _)) HR.out (by omega) (by omega) HKN.out (by omega) (by omega)
      have HL1 : Hid ((stepS s o).pcs.length ≤ bulkO (o1.take (j + 1)) ∧ (stepS s o).keep.length ≤ bulkO (o1.take (j + 1))) := by
        have h1 := stepS_len s o
        have h2 := stepS_keep s o
        have h3 := HCA.out
        have h4 := HS.out
        have h6 := HKE.out
        exact ⟨by omega, by omega⟩
      generalize stepS s o = s2 at *
      clear HAT HCA HKE HS HM HKN HR
      go_wp2_with fail
      refine HST.out.mono ?_
      rintro e w6 ⟨c2, rfl, hd6, -⟩
      have HD6 := Lib.hid hd6
      have HE := Lib.hid (equal_duo hd6 (by have h1 := HL1.out.1; have h2 := HLE.out; have h3 := HB1.out; omega))
      clear hd6 HST k0 k1 k2 k3 k4 k5
      go_wp2_with fail
      refine HE.out.mono ?_
      rintro e w7 ⟨rfl, hb7⟩
      have HD7 := Lib.hid (HD6.out.below hb7)
      clear hb7 HE HD6
      go_wp2_with fail
      exact ⟨⟨j + 1, s2, c2, hjn, rfl, rfl, HD7.out, HL1.out.1, HL1.out.2⟩, by simp only [intOf]; omega⟩
    · obtain rfl : j = o1.length := by omega
      have HR1 := Lib.hid (restartD HAT.out)
      have HLS : Hid (s.restart.pcs.length ≤ 1000000000000) := by
        have h1 := HCA.out
        have h2 := bulkO_le o1 o1.length
        have h3 := HB1.out
        show s.pcs.length ≤ _
        omega
      clear hj HAT HCA HKE
      go_wp2_with fail
      refine HR1.out.mono ?_
      rintro e w8 ⟨rfl, hd8, -⟩
      have HR2 := Lib.hid (restartR hd8)
      clear hd8 HR1
      go_wp2_with fail
      refine HR2.out.mono ?_
      rintro e w9 ⟨rfl, hd9, -⟩
      have HE := Lib.hid (equal_duo hd9 HLS.out)
      have HBW := Lib.hid hd9.bel
      clear hd9 HR2
      go_wp2_with fail
      refine HE.out.mono ?_
      rintro e w10 ⟨rfl, hb10⟩
      have HB10 := Lib.hid (bt HBW.out hb10)
      clear hb10
      go_wp2_with fail
      go_ret
      exact ⟨rfl, HB10.out⟩

set_option maxRecDepth 100000 in
theorem diskDoes_lifted (os : Os) (started : os.Started) (H : Type) (enc : TypeId × Value → H) (F : Stop.Interp) :
    ReturnsInHanded {} Try.checked os 5 .any ((Rows.OpenSpec.upto Rows.diskDoesSpec).pre6 enc Try.prog Try.f5 Rows.diskDoesUptoRow.domain false) (((Rows.OpenSpec.upto Rows.diskDoesSpec).at F).post enc Try.prog Try.f5 false true false false) := by
  refine returnsInHanded_of_cond_sized (C := Try.checked) (s := Rows.OpenSpec.upto Rows.diskDoesSpec) (k := Rows.uptoSmall) rfl own started (by kernel_rfl) Try.func5
    (OpenSpec.witness (enc := enc) (C := Try.checked) (s := Rows.OpenSpec.upto Rows.diskDoesSpec) (k := Rows.uptoSmall) rfl false ⟨#[], #[.slice none 0 0], []⟩ 8 (by kernel_rfl) (by kernel_rfl) (by kernel_rfl)
      (x := ([.nil], [], [])) (by kernel_rfl) rfl (by kernel_rfl)) ?_
  intro W base args ds gs before hval0 hW _ hk0 hsz _
  have hk : Rows.uptoBulkAll (ds ++ gs) ≤ 1048576 := of_decide_eq_true hk0
  have hval : ∀ (j : Nat) t v, Try.f5.params[j]? = some t → args[j]? = some v → Value.okWide Try.prog W .any base t v := hval0
  have hW' := hW
  obtain ⟨p, q, hA0, hV, rfl, hfz, hnd⟩ := hW
  have hA : DataW.TrodAll enc Try.prog W 0 (fun _ => true) true Try.f5.params.toList args.toList ds p := hA0
  rw [Try.params5] at hA hval
  obtain ⟨v0, vs0, d0, ds0, p0, q0, hargs, rfl, rfl, h0, r0⟩ := trodAll_cons hA
  obtain ⟨rfl, rfl, rfl⟩ := trodAll_nil r0
  obtain rfl : args = #[v0] := by cases args; simp_all
  obtain ⟨rfl, rfl⟩ := trodVars_none hV
  simp only [List.append_nil] at hW' hk
  simp only [Rows.uptoBulkAll] at hk
  have hlt0 : ∀ x ∈ p0, x.block < W.heap.size := fun x hx => hW'.lt x (by simp [hx])
  have hreach : reachBytes ≤ 140737488351232 := by decide
  obtain ⟨A0, cap0, o1, rfl, hR0, rd0, hd0⟩ := open_ops (hval 0 38 v0 rfl rfl) h0
  have b0 : bulkO o1 ≤ Rows.uptoBulk d0 := (ops_bulk hd0).elim (fun h => by omega) fun h => by rw [h]; exact Nat.zero_le _
  clear hA0 hval0
  refine (diskDoes_walk A0 cap0 o1 W hR0 rd0 (by omega)).mono fun e W' ⟨he, hg⟩ => ?_
  subst he
  have hpost : Rows.diskDoesSpec.post enc Try.prog Try.f5 false true false false W _ _ W' := post_of_below (pa := p0 ++ []) (pv := []) hW' (fun _ _ _ => (trodAll_cons_mk (shut_bool Try.underlying4 _) trodAll_mk0)) (fun sp hsp => (trodAll_cons_mk (WideElems.Trod_stays laidOut (by kernel_rfl) (of_decide_eq_true (by kernel_rfl)) h0 (fun x hx => hg.same (hlt0 x hx)) (fun x hx => hsp x (by simp [hx]))) trodAll_mk0)) (fun _ _ => rfl) (by simp) hg (ok_one (by kernel_rfl) rfl (okWide_bool_mk Try.underlying4 _))
  exact ⟨_, rfl, hpost⟩

theorem diskDoes_holds : Rows.DiskDoesUptoSaid :=
  OpenClaim.holds_of_cond 5 Try.f5 rfl rfl rfl rfl rfl rfl rfl ⟨rfl, rfl, rfl, rfl, rfl⟩ rfl rfl rfl rfl rfl (by kernel_rfl) Try.func5 (by kernel_rfl)
    (of_decide_eq_true (by kernel_rfl)) (by unfold Func.isWrapper; first | (rw [if_pos (by decide +kernel)]; kernel_rfl) | (rw [if_neg (by decide +kernel)]; exact ⟨rfl, rfl⟩))
    (fun os started H enc _ F => diskDoes_lifted os started H enc F)
end Go.Proofs.Ytdbbghmldaekhaa
