/-
  CodecOneForm: what is read of any bytes is written in just the bytes that were taken. No condition beyond the form's own.
-/
import Derived.Test.YtdjppchcnbfcoaaCRets
namespace Go.Proofs.Ytdjppchcnbfcoaa
open Go.ChangeShapes Go.WideShapes Go.ChangeAt Go.RowKit Go.Deep
set_option linter.unusedVariables false

theorem rdF_sound (l : List UInt8) (b : Bool) (t : Nat) (h : rdF l = (b, t, 0)) : ∃ n : Int, (n = 0 ∨ n = 1) ∧ b = decide (n = 1) ∧ rdI l = (n, t, 0) := by
  unfold rdF at h
  rcases hr : rdI l with ⟨n, k, e⟩
  rw [hr] at h
  simp only at h
  split at h
  · rename_i he
    subst he
    split at h
    · rename_i hn
      simp only [Prod.mk.injEq, and_true] at h
      exact ⟨n, hn, h.1.symm, by rw [h.2]⟩
    · simp at h
  · rename_i he
    simp only [Prod.mk.injEq] at h
    exact absurd h.2.2 he
/-- What is read as a piece stands in the bytes as that piece's form. -/
theorem rdP_sound (k : Nat) (hk : k < 256) (l : List UInt8) (n : Int) (s : List UInt8) (t : Nat) (h : rdP k l = (n, s, t, 0)) (hl : l.length ≤ 1048576) :
    (PR.mk k n s).Ok ∧ t = (PR.mk k n s).form.length ∧ l = (PR.mk k n s).form ++ l.drop t := by
  unfold rdP at h
  split at h
  · rename_i h4
    simp only [Prod.mk.injEq] at h
    obtain ⟨h1, h2, h3, h5⟩ := h
    have hr : rdI l = (n, t, 0) := by rw [← h1, ← h3, ← h5]
    obtain ⟨i1, i2, x, i3⟩ := rd_sound l n t hr
    have hf : (PR.mk k n s).form = encI n := if_pos h4
    rw [hf]
    refine ⟨⟨hk, i1, by rw [← h2]; simp⟩, i2, ?_⟩
    conv => rhs; rw [i3, i2, List.drop_left]
    exact i3
  · split at h
    · rename_i h4 h43
      simp only [Prod.mk.injEq] at h
      obtain ⟨h1, h2, h3, h5⟩ := h
      obtain ⟨m, hm, hb, hr⟩ := rdF_sound l (rdF l).1 t (by rw [← h3, ← h5])
      have hnm : n = m := by
        rw [← h1, hb]
        rcases hm with rfl | rfl <;> rfl
      obtain ⟨i1, i2, x, i3⟩ := rd_sound l m t hr
      have hf : (PR.mk k n s).form = encI m := by
        show (if k % 4 = 0 then encI n else if k % 4 = 3 then encI (n % 2) else encB s) = _
        rw [if_neg h4, if_pos h43, hnm, show m % 2 = m by omega]
      rw [hf]
      refine ⟨⟨hk, by rw [hnm]; exact i1, by rw [← h2]; simp⟩, i2, ?_⟩
      conv => rhs; rw [i3, i2, List.drop_left]
      exact i3
    · rename_i h4 h43
      simp only [Prod.mk.injEq] at h
      obtain ⟨h1, h2, h3, h5⟩ := h
      have hr : rdB l = (s, t, 0) := by rw [← h2, ← h3, ← h5]
      obtain ⟨i2, x, i3⟩ := rdB_sound l s t hr
      have hf : (PR.mk k n s).form = encB s := by
        show (if k % 4 = 0 then encI n else if k % 4 = 3 then encI (n % 2) else encB s) = _
        rw [if_neg h4, if_neg h43]
      rw [hf]
      refine ⟨⟨hk, by unfold In8; simp only; omega, by have := (rdB_len hr).1; simp only; omega⟩, i2, ?_⟩
      conv => rhs; rw [i3, i2, List.drop_left]
      exact i3
theorem rdP_none (k : Nat) (l : List UInt8) (n : Int) (s : List UInt8) (t : Nat) (e : Int) (h : rdP k l = (n, s, t, e)) (he : ¬ e = 0) : t = 0 := by
  unfold rdP at h
  split at h
  · simp only [Prod.mk.injEq] at h
    obtain ⟨h1, h2, h3, h5⟩ := h
    rcases hr : rdI l with ⟨n', k', e'⟩
    rw [hr] at h3 h5
    rw [← h3]
    exact (rd_none l n' k' e' hr (by rw [show e' = e from h5]; exact he)).2
  · split at h
    · simp only [Prod.mk.injEq] at h
      obtain ⟨h1, h2, h3, h5⟩ := h
      rw [← h3]
      unfold rdF at h5 ⊢
      split
      · split
        · rename_i q1 q2
          rw [if_pos q1, if_pos q2] at h5
          exact absurd h5.symm he
        · rfl
      · rfl
    · simp only [Prod.mk.injEq] at h
      obtain ⟨h1, h2, h3, h5⟩ := h
      rcases hr : rdB l with ⟨n', k', e'⟩
      rw [hr] at h3 h5
      rw [← h3]
      exact (rdB_bad l n' k' e' hr (by rw [show e' = e from h5]; exact he)).2
theorem RdS.belowB {w w' : World} {g q B : Nat} {l : List UInt8} (h : RdS w g q l) (hb : Below B w w') (hg : g < B) (hq : q < B) : RdS w' g q l := by
  obtain ⟨A, cap, h1, h2, h3, hn, h4⟩ := h
  refine ⟨A, cap, (hb.block g hg).trans h1, fun h0 => ?_, h3, hn, fun a e => ⟨(h4 a e).1, (h4 a e).2.1, Nat.lt_of_lt_of_le (h4 a e).2.2 hb.size⟩⟩
  obtain ⟨q', off, e, hl, hc⟩ := h2 h0
  have hqq := (h4 _ e).1
  obtain rfl : q' = q := by simpa using hqq
  refine ⟨q', off, e, Nat.lt_of_lt_of_le hl hb.size, fun i hi => ?_⟩
  rw [World.cell?_of_block (w := w) (a := ⟨q', off + i, none⟩) (hb.block q' hq)]
  exact hc i hi
theorem WrS.rgr {w w' : World} {B g gr : Nat} {v : Value} {l : List UInt8} (h : WrS w B g v l) (hg : RGr w w' gr) (hl : gr < B) : WrS w' B g v l :=
  ⟨h.low, (hg.block g h.lt (by have := h.low; omega)).trans h.box, h.own.same fun k hk e => hg.block k hk (by have := (World.ownsRow.lt h.own k e).1; omega)⟩
theorem BRd.take {w : World} {A : Option Addr} {L R : List UInt8} (h : BRd w A (L ++ R)) : BRd w A L := fun hn => by
  obtain ⟨g, off, hA, hg, hc⟩ := h (by rw [List.length_append]; omega)
  refine ⟨g, off, hA, hg, fun i hi => ?_⟩
  have := hc i (by rw [List.length_append]; omega)
  rwa [List.getElem_append_left hi] at this

set_option maxHeartbeats 12800000 in
set_option maxRecDepth 100000 in
theorem codecOneForm_walk (A0 : Option Addr) (c0 : Nat) (b : List UInt8) (A : Option Addr) (c : Nat) (ps : List PR) (w : World) (hR0 : BRd w A0 b) (hbc : b.length ≤ c0) (hbl : b.length ≤ 140737488351232) (hR : PRd w A ps) (ok : ∀ a ∈ ps, a.Ok) (hl : ps.length * 32 ≤ 140737488351232) :
    Calls Try.prog 7 #[.slice A0 b.length c0, .slice A ps.length c] w fun e w' => e = .returned (.bool true) ∧ Below w.heap.size w w' := by
  have HR0 := Lib.hid (fun (W : World) (h : Below w.heap.size w W) => hR0.below h)
  have HR := Lib.hid (fun (W : World) (h : Below w.heap.size w W) => hR.below h)
  have HOK := Lib.hid ok
  have HNR := Lib.hid (newReader_any A0 c0 b w hR0 (by omega))
  clear hR0 hR ok
  go_enter Try.func7, Try.ntmps7
  go_wp2_with fail
  refine HNR.out.mono ?_
  rintro e w1 ⟨gr, q, rfl, hgr, hqr, hqs, hrs, hb1⟩
  have HGL : Hid (gr < w1.heap.size) := by
    obtain ⟨A9, c9, h9, _⟩ := hrs
    exact (Array.getElem?_eq_some_iff.1 h9).1
  have HQL := Lib.hid hqs
  have HGR := Lib.hid hgr
  have HQR := Lib.hid hqr
  have hA := alloc_below w1 (.cells #[.bool true, .slice none 0 0] 67)
  have R1 := Lib.hid (hrs.below hA)
  have W1 := Lib.hid (wrs_new w1)
  have B1 := Lib.hid (bt hb1 hA)
  have HB1 := Lib.hid hb1.size
  clear hgr hqr hqs hrs hb1 hA HNR
  go_wp2_with (go_at_call 12; refine (newWriter_any _).mono ?_; rintro e w' ⟨rfl, rfl⟩)
  refine (begun_any _).mono ?_
  rintro e w2 ⟨rfl, h2⟩
  have R2 := Lib.hid (R1.out.below h2)
  have W2 := Lib.hid (W1.out.below h2)
  have B2 := Lib.hid (bt B1.out h2)
  have hsz2 : w1.heap.size ≤ w2.heap.size := by have := h2.size; simp at this; omega
  clear h2 R1 W1 B1
  by_cases hbig : 1048576 < b.length
  · have f1 : 1048576 < (b.length : Int) := by omega
    clear hbig
    go_wp2_with fail
    refine (begun_any _).mono ?_
    rintro e w3 ⟨rfl, h3⟩
    have B3 := Lib.hid (bt B2.out h3)
    clear h3
    go_wp2_with fail
    go_ret
    exact ⟨rfl, B3.out⟩
  · have f1 : (b.length : Int) ≤ 1048576 := by omega
    go_wp2_with fail
    go_loopw [33] (fun idx wr => ∃ (i : Nat) (v : Value) (L R : List UInt8), i ≤ ps.length ∧ idx = .int .i64 i ∧ b = L ++ R ∧ WrS wr w1.heap.size w1.heap.size v L ∧ RdS wr gr q R ∧ w1.heap.size ≤ wr.heap.size ∧ Below w.heap.size w wr) (fun idx _ => ps.length - (intOf idx).toNat)
    case atStart => exact ⟨0, _, [], b, by omega, rfl, rfl, W2.out, R2.out, hsz2, B2.out⟩
    case round =>
      obtain ⟨i, v, L, R, hi, rfl, hLR, hw, hr, hsz, hb⟩ := hrel
      have HW := Lib.hid hw
      have HRD := Lib.hid hr
      have HB := Lib.hid hb
      have HLR := Lib.hid hLR
      have hLl : L.length + R.length = b.length := by rw [hLR, List.length_append]
      have HLL := Lib.hid hLl
      have hRl : R.length ≤ 1048576 := by omega
      have hLl2 : L.length ≤ 1048576 := by omega
      clear hw hr hb hLR hLl
      by_cases hip : i < ps.length
      · obtain ⟨g, off, rfl, hgl, hc⟩ := HR.out _ HB.out (by omega)
        obtain ⟨d0, d1, d2⟩ := hc i hip
        have HPO := Lib.hid (HOK.out _ (List.getElem_mem hip))
        have x0 : (0 : Int) ≤ (i : Int) := by omega
        have x1 : (i : Int) < (ps.length : Int) := by omega
        have x2 : 0 < ps.length := by omega
        clear hc
        generalize ps[i] = pp at *
        have HFR := Lib.hid (fun W h1 h2 => from_any pp HPO.out W gr q R h1 (by omega) h2)
        unfold FromPost at HFR
        have hval : pp.val = .agg #[.int .u8 pp.k, .int .i64 pp.n, .string ⟨pp.s.toArray⟩] := rfl
        rw [hval] at HFR
        clear hval
        have hal := alloc_below wr (.cells #[.int .u8 (pp.k : Int), .int .i64 pp.n, .string ⟨pp.s.toArray⟩] 28)
        have R3 := Lib.hid (HRD.out.below hal)
        have W3 := Lib.hid (HW.out.below hal)
        have B3 := Lib.hid (bt HB.out hal)
        have HQ3 : Hid (q < (wr.alloc (.cells #[.int .u8 (pp.k : Int), .int .i64 pp.n, .string ⟨pp.s.toArray⟩] 28)).heap.size) := by show _ < _; have := HQL.out; simp; omega
        have HSZ3 : Hid (w1.heap.size ≤ (wr.alloc (.cells #[.int .u8 (pp.k : Int), .int .i64 pp.n, .string ⟨pp.s.toArray⟩] 28)).heap.size) := Nat.le_trans hsz hal.size
        have HLF := Lib.hid (left_any _ gr q R R3.out)
        clear hal
        rcases hrp : rdP pp.k R with ⟨n', s', t, er⟩
        have HRP := Lib.hid hrp
        clear hrp
        go_wp2_with (go_at_call 24; refine HLF.out.mono ?_; rintro e w' ⟨rfl, rfl⟩)
        refine (HFR.out _ R3.out HQ3.out).mono ?_
        rintro e w4 ⟨rfl, hr4, hg4⟩
        rw [HRP.out]
        rw [HRP.out] at hr4
        have W4 := Lib.hid (W3.out.rgr hg4 HGL.out)
        have R4 := Lib.hid hr4
        have B4 := Lib.hid (below_tr B3.out (hg4.below HGR.out B3.out.size))
        have HS4 := Lib.hid (Nat.le_trans HSZ3.out hg4.size)
        clear hr4 hg4
        by_cases he : er = 0
        · subst he
          obtain ⟨o1, o2, o3⟩ := rdP_sound pp.k HPO.out.k R n' s' t HRP.out hRl
          have hfit : L.length + (PR.mk pp.k n' s').form.length ≤ 1048576 := by
            have h9 := congrArg List.length o3
            rw [List.length_append] at h9
            have h8 := HLL.out
            omega
          have HPE : Hid (putE L (PR.mk pp.k n' s').form = 0) := if_pos hfit
          have HPL : Hid (putL L (PR.mk pp.k n' s').form = L ++ (PR.mk pp.k n' s').form) := if_pos hfit
          have hal4 := alloc_below w4 (.cells #[.int .u8 (pp.k : Int), .int .i64 n', .string ⟨s'.toArray⟩] 28)
          have W5 := Lib.hid (W4.out.below hal4)
          have R5 := Lib.hid (R4.out.below hal4)
          have B5 := Lib.hid (bt B4.out hal4)
          have HS5 := Lib.hid (Nat.le_trans HS4.out hal4.size)
          have HTO := Lib.hid (to_any ⟨pp.k, n', s'⟩ o1 _ _ _ v L W5.out hLl2 HS5.out)
          have hval : (PR.mk pp.k n' s').val = .agg #[.int .u8 pp.k, .int .i64 n', .string ⟨s'.toArray⟩] := rfl
          rw [hval] at HTO
          have HNB : Hid (b = (L ++ (PR.mk pp.k n' s').form) ++ R.drop t) := by show _ = _; rw [HLR.out, List.append_assoc, ← o3]
          clear hval hfit hal4 o1 o2 o3
          go_wp2_with fail
          refine HTO.out.mono ?_
          rintro e w6 ⟨v6, rfl, hs6, hg6⟩
          rw [HPE.out]
          rw [HPL.out] at hs6
          have W6 := Lib.hid hs6
          have hbb := WGr.below W5.out hg6 HS5.out
          have R6 := Lib.hid (R5.out.belowB hbb HGL.out HQL.out)
          have B6 := Lib.hid (below_tr B5.out (hbb.mono HB1.out))
          have HS6 := Lib.hid (Nat.le_trans HS5.out hg6.size)
          clear hs6 hg6 hbb
          go_wp2_with fail
          go_roundw
          case rel => exact ⟨i + 1, v6, _, _, by omega, by go_num, HNB.out, W6.out, R6.out, HS6.out, B6.out⟩
          case measure => simp [intOf]; omega
        · obtain rfl := rdP_none pp.k R n' s' t er HRP.out he
          rw [List.drop_zero] at R4
          have e0 : (er == 0) = false := by simpa using he
          have e1 : (er != 0) = true := by simpa using he
          have hal4 := alloc_below w4 (.cells #[.int .u8 (pp.k : Int), .int .i64 n', .string ⟨s'.toArray⟩] 28)
          have W5 := Lib.hid (W4.out.below hal4)
          have R5 := Lib.hid (R4.out.below hal4)
          have B5 := Lib.hid (bt B4.out hal4)
          have HS5 := Lib.hid (Nat.le_trans HS4.out hal4.size)
          have HLF5 := Lib.hid (left_any _ gr q R R5.out)
          have hnn : ((R.length : Int) != (R.length : Int)) = false := by simp
          clear hal4 he
          go_wp2_with (go_at_call 24; refine HLF5.out.mono ?_; rintro e w' ⟨rfl, rfl⟩)
          go_roundw
          case rel => exact ⟨i + 1, v, L, R, by omega, by go_num, HLR.out, W5.out, R5.out, HS5.out, B5.out⟩
          case measure => simp [intOf]; omega
      · obtain rfl : i = ps.length := by omega
        have hikI : ¬ ((ps.length : Int) < (ps.length : Int)) := by omega
        have HOT := Lib.hid (out_any wr _ _ _ _ HW.out (by omega))
        go_wp2_with fail
        refine HOT.out.mono ?_
        rintro e w3 ⟨v3, rfl, ho3, hb3⟩
        obtain ⟨a3, cap3, rfl, _, _⟩ := ho3.slice
        have R3 := Lib.hid ho3.brd
        have RR := Lib.hid (HRD.out.below hb3)
        have B3 := Lib.hid (bt HB.out hb3)
        have HLF := Lib.hid (left_any w3 gr q R RR.out)
        have RB := Lib.hid (by have := HR0.out _ B3.out; rw [HLR.out] at this; exact BRd.take this)
        have hsub : (b.length : Int) - (R.length : Int) = (L.length : Int) := by have := HLL.out; omega
        have HE := Lib.hid (equal_any a3 A0 cap3 c0 L L w3 R3.out RB.out)
        rw [show (L == L) = true by simp] at HE
        have y1 : (L.length : Int) ≤ (c0 : Int) := by have := HLL.out; omega
        clear ho3 hb3 HOT
        go_wp2_with (go_at_call 24; refine HLF.out.mono ?_; rintro e w' ⟨rfl, rfl⟩)
        refine HE.out.mono ?_
        rintro e w' ⟨rfl, rfl⟩
        go_wp2_with fail
        go_ret
        exact ⟨rfl, B3.out⟩

set_option maxRecDepth 100000 in
theorem codecOneForm_lifted (os : Os) (started : os.Started) (H : Type) (enc : TypeId × Value → H) :
    ReturnsInHanded {} Try.checked os 7 .any (Rows.codecOneFormSpec.pre6 enc Try.prog Try.f7 Rows.codecOneFormRow.domain false) (Rows.codecOneFormSpec.post enc Try.prog Try.f7 false true false false) := by
  refine returnsInHanded_of_change_sized (C := Try.checked) own started (by kernel_rfl) Try.func7
    (ChangeSpec.witness6 (enc := enc) (C := Try.checked) false ⟨#[], #[.slice none 0 0, .slice none 0 0], []⟩ 8 (by kernel_rfl) (by kernel_rfl) (by kernel_rfl) (by kernel_rfl)) ?_
  intro W base args ds gs before hval0 hW _ hsz _
  have hval : ∀ (j : Nat) t v, Try.f7.params[j]? = some t → args[j]? = some v → Value.okWide Try.prog W .any base t v := hval0
  have hW' := hW
  obtain ⟨p, q, hA0, hV, rfl, hfz, hnd⟩ := hW
  have hA : DataW.TrodAll enc Try.prog W 0 (fun _ => true) true Try.f7.params.toList args.toList ds p := hA0
  rw [Try.params7] at hA hval
  obtain ⟨v0, vs0, d0, ds0, p0, q0, hargs, rfl, rfl, h0, r0⟩ := trodAll_cons hA
  obtain ⟨v1, vs1, d1, ds1, p1, q1, rfl, rfl, rfl, h1, r1⟩ := trodAll_cons r0
  obtain ⟨rfl, rfl, rfl⟩ := trodAll_nil r1
  obtain rfl : args = #[v0, v1] := by cases args; simp_all
  obtain ⟨rfl, rfl⟩ := trodVars_none hV
  simp only [List.append_nil] at hW'
  have hlt0 : ∀ x ∈ p0, x.block < W.heap.size := fun x hx => hW'.lt x (by simp [hx])
  have hlt1 : ∀ x ∈ p1, x.block < W.heap.size := fun x hx => hW'.lt x (by simp [hx])
  have hreach : reachBytes ≤ 140737488351232 := by decide
  obtain ⟨A0, cap0, b, rfl, hR0, hc0, hn0, hd0⟩ := open_bytes (hval 0 26 v0 rfl rfl) h0
  have b0 : b.length * 1 ≤ reachBytes := by
    rcases hd0 with h0 | ⟨el, sp, e, he⟩
    · rw [h0]; simp
    · have hs : (el.length + sp.length) * Try.prog.bytesOf 5 ≤ reachBytes := sized_slice hsz (j := 0) (t := 26) (e := 5) rfl (by rw [e]; rfl) Try.underlying26
      rw [show Try.prog.bytesOf 5 = 1 by kernel_rfl] at hs
      omega
  obtain ⟨A1, cap1, ps, rfl, hR1, kn1, hd1⟩ := open_pieces (hval 1 22 v1 rfl rfl) h1
  have b1 : ps.length * 32 ≤ reachBytes := by
    rcases hd1 with h0 | ⟨D, sp, e, he⟩
    · rw [h0]; simp
    · have hs : (((List.range ps.length).map D).length + sp.length) * Try.prog.bytesOf 28 ≤ reachBytes := sized_slice hsz (j := 1) (t := 22) (e := 28) rfl (by rw [e]; rfl) Try.underlying22
      rw [show Try.prog.bytesOf 28 = 32 by kernel_rfl, List.length_map, List.length_range] at hs
      omega
  have ok1 : ∀ a ∈ ps, a.Ok := fun a ha => ⟨(kn1 a ha).1, (kn1 a ha).2, by
    rcases hd1 with h0 | ⟨D, sp, e, he⟩
    · rw [h0] at ha; cases ha
    · obtain ⟨i, hi, rfl⟩ := List.getElem_of_mem ha
      have hm : ps[i].s.length ∈ d1.weights Try.prog 22 := by
        rw [e]
        unfold DataW.weights
        rw [Try.underlying22]
        simp only [List.mem_cons, List.mem_append]
        exact .inr (.inl (weightsAll_mem (List.mem_map.2 ⟨i, List.mem_range.2 hi, rfl⟩) (he i hi).weight))
      have := List.all_eq_true.1 hsz _ (DataW.weights_mem_each (j := 1) (t := 22) rfl rfl _ hm)
      have : ps[i].s.length ≤ reachBytes := by simpa using this
      have hr : reachBytes ≤ 140737488351232 := by decide
      omega⟩
  clear hA0 hval0
  refine (codecOneForm_walk A0 cap0 b A1 cap1 ps W hR0 hc0 (by omega) hR1 ok1 (by omega)).mono fun e W' ⟨he, hg⟩ => ?_
  subst he
  have hpost : Rows.codecOneFormSpec.post enc Try.prog Try.f7 false true false false W _ _ W' := post_of_below (pa := p0 ++ (p1 ++ [])) (pv := []) hW' (fun _ _ _ => (trodAll_cons_mk (shut_bool Try.underlying4 _) trodAll_mk0)) (fun sp hsp => (trodAll_cons_mk (WideElems.Trod_stays laidOut (by kernel_rfl) (of_decide_eq_true (by kernel_rfl)) h0 (fun x hx => hg.same (hlt0 x hx)) (fun x hx => hsp x (by simp [hx]))) (trodAll_cons_mk (WideElems.Trod_stays laidOut (by kernel_rfl) (of_decide_eq_true (by kernel_rfl)) h1 (fun x hx => hg.same (hlt1 x hx)) (fun x hx => hsp x (by simp [hx]))) trodAll_mk0))) (fun _ _ => rfl) (by simp) hg (ok_one (by kernel_rfl) rfl (okWide_bool_mk Try.underlying4 _))
  exact ⟨_, rfl, hpost⟩

theorem codecOneForm_holds : Rows.CodecOneFormSaid :=
  OpenClaim.holds_of_wide 7 Try.f7 rfl rfl rfl rfl rfl rfl rfl ⟨rfl, rfl, rfl, rfl, rfl⟩ rfl rfl rfl rfl rfl (by kernel_rfl) Try.func7 (by kernel_rfl)
    (of_decide_eq_true (by kernel_rfl)) (by unfold Func.isWrapper; first | (rw [if_pos (by decide +kernel)]; kernel_rfl) | (rw [if_neg (by decide +kernel)]; exact ⟨rfl, rfl⟩))
    (fun os started H enc _ => codecOneForm_lifted os started H enc)
end Go.Proofs.Ytdjppchcnbfcoaa
