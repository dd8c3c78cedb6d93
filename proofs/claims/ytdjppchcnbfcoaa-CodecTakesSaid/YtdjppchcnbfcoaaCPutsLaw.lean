/-
  CodecPuts: the bytes of whatever is put, piece by piece, up to the limit, are the document's. Condition: what comes in is of bulk at most 1048576 (the second form).
-/
import Derived.Test.YtdjppchcnbfcoaaCBulk
import Derived.Test.YtdjppchcnbfcoaaCBegun
import Derived.Test.YtdjppchcnbfcoaaCNoneLaw
namespace Go.Proofs.Ytdjppchcnbfcoaa
open Go.ChangeShapes Go.WideShapes Go.ChangeAt Go.RowKit Go.Deep
set_option linter.unusedVariables false

def putsL (ps : List PR) (L : List UInt8) : List UInt8 := ps.foldl (fun L p => putL L p.form) L
theorem putsL_take (ps : List PR) (i : Nat) (h : i < ps.length) : putsL (ps.take (i + 1)) [] = putL (putsL (ps.take i) []) ps[i].form := by
  unfold putsL
  rw [List.take_succ_eq_append_getElem h, List.foldl_append]
  rfl
theorem putsL_len : ∀ (ps : List PR) (L : List UInt8), L.length ≤ 1048576 → (putsL ps L).length ≤ 1048576
  | [], _, h => h
  | p :: ps, L, h => putsL_len ps _ (putL_len h)
theorem form_pos (p : PR) (hp : p.Ok) : 0 < p.form.length := by
  unfold PR.form
  split
  · obtain ⟨c, r, e⟩ := enc_ne p.n hp.n.1 hp.n.2
    rw [e]; simp
  · split
    · obtain ⟨c, r, e⟩ := enc_ne (p.n % 2) (by omega) (by omega)
      rw [e]; simp
    · rw [encB_len]; omega
theorem form_len (p : PR) (hp : p.Ok) (hs : p.s.length ≤ 1048576) : p.form.length ≤ 4000000 := by
  have h9 : ∀ n, In8 n → (encI n).length ≤ 9 := fun n hn => by
    rw [enc_len]
    unfold In8 at hn
    have key : ∀ u : Nat, u < 9223372036854775808 → (upF u).length ≤ 9 := fun u hu => by
      by_cases h : u < 120
      · rw [up_small h]; simp
      · rw [up_big h, List.length_cons, List.length_reverse]
        have := up_len8 hu
        omega
    split
    · exact key _ (by omega)
    · exact key _ (by omega)
  unfold PR.form
  split
  · have := h9 p.n hp.n; omega
  · split
    · have := h9 (p.n % 2) (by unfold In8; omega); omega
    · rw [encB_len]
      have : p.s.count 0 ≤ p.s.length := List.count_le_length
      omega
theorem wbox_no {w : World} {g B : Nat} {u a : Value} {l : List UInt8} {f : Nat × Nat} (hu : OwnB w B u l) (hb : w.heap[g]? = some (.cells #[.bool true, a] 67 f)) : u.ownBlock ≠ some g := by
  intro e
  obtain ⟨c, f, h1⟩ := own_kind hu g e
  rw [hb] at h1
  simp at h1
/-- A writer stays while another slice of the call's own grows; and that one while the writer writes. -/
theorem WrS.grw {w w' : World} {B B' g : Nat} {v u u' : Value} {l lu : List UInt8} (h : WrS w B g v l) (hu : OwnB w B' u lu) (hg : Grw w w' u u') (hd : ∀ k, u.ownBlock = some k → v.ownBlock ≠ some k) : WrS w' B g v l ∧ ∀ k, u'.ownBlock = some k → v.ownBlock ≠ some k := by
  refine ⟨⟨h.low, (hg.old h.lt (wbox_no hu h.box)).trans h.box, h.own.same fun k hk e => hg.old hk fun e2 => hd k e2 e⟩, fun k e e2 => ?_⟩
  rcases hg.at_ with h3 | h3
  · exact hd k (h3 ▸ e) e2
  · have := h3 k e
    have := (World.ownsRow.lt h.own k e2).2
    omega
theorem OwnB.wgr {w w' : World} {B B' g : Nat} {v v' u : Value} {l lu : List UInt8} (hu : OwnB w B' u lu) (h : WrS w B g v l) (hg : WGr w w' g v v') (hd : ∀ k, u.ownBlock = some k → v.ownBlock ≠ some k) : OwnB w' B' u lu ∧ ∀ k, u.ownBlock = some k → v'.ownBlock ≠ some k := by
  refine ⟨hu.same fun k hk e => hg.block k hk (fun e2 => wbox_no hu h.box (e2 ▸ e)) (hd k e), fun k e e2 => ?_⟩
  rcases hg.at_ with h3 | h3
  · exact hd k e (h3 ▸ e2)
  · have := h3 k e2
    have := (World.ownsRow.lt hu k e).2
    omega

set_option maxHeartbeats 12800000 in
set_option maxRecDepth 100000 in
theorem codecPuts_walk (A : Option Addr) (c : Nat) (ps : List PR) (w : World) (hR : PRd w A ps) (ok : ∀ a ∈ ps, a.Ok) (sm : ∀ a ∈ ps, a.s.length ≤ 1048576) (hl : ps.length ≤ 1048576) :
    Calls Try.prog 3 #[.slice A ps.length c] w fun e w' => e = .returned (.bool true) ∧ Below w.heap.size w w' := by
  have HR := Lib.hid (fun (W : World) (h : Below w.heap.size w W) => hR.below h)
  have HOK := Lib.hid ok
  have HSM := Lib.hid sm
  have hw1 := Lib.hid (wrs_new w)
  have hA1 := Lib.hid (alloc_below w (.cells #[.bool true, .slice none 0 0] 67))
  clear hR ok sm
  go_enter Try.func3, Try.ntmps3
  go_wp2_with (go_at_call 12; refine (newWriter_any _).mono ?_; rintro e w' ⟨rfl, rfl⟩)
  refine (begun_any _).mono ?_
  rintro e w1 ⟨rfl, h1⟩
  have W1 := Lib.hid (hw1.out.below h1)
  have B1 := Lib.hid (bt hA1.out h1)
  have hBr1 : w.heap.size ≤ w1.heap.size := B1.out.size
  clear h1 hw1 hA1
  go_wp2_with fail
  go_loopw [4, 18] (fun al idx wr => ∃ (i : Nat) (v : Value), i ≤ ps.length ∧ idx = .int .i64 i ∧ WrS wr w.heap.size w.heap.size v (putsL (ps.take i) []) ∧ OwnB wr w.heap.size al (putsL (ps.take i) []) ∧ (∀ k, al.ownBlock = some k → v.ownBlock ≠ some k) ∧ Below w.heap.size w wr) (fun _ idx _ => ps.length - (intOf idx).toNat)
  case atStart => exact ⟨0, _, by omega, rfl, W1.out, OwnB.nil _ _, fun k hk => by simp [Value.ownBlock] at hk, B1.out⟩
  case round =>
    obtain ⟨i, v, hi, rfl, hw, ho, hd, hb⟩ := hrel
    have hll := putsL_len (ps.take i) [] (by decide)
    obtain ⟨aa, capa, rfl, _, _⟩ := ho.slice
    have HW := Lib.hid hw
    have HO := Lib.hid ho
    have HD := Lib.hid hd
    have HB := Lib.hid hb
    have hBr : w.heap.size ≤ wr.heap.size := hb.size
    clear hw ho hd hb
    by_cases hip : i < ps.length
    · obtain ⟨g, off, rfl, hgl, hc⟩ := HR.out _ HB.out (by omega)
      obtain ⟨c0, c1, c2⟩ := hc i hip
      have HT := Lib.hid (putsL_take ps i hip)
      have HPO := Lib.hid (HOK.out _ (List.getElem_mem hip))
      have HPS := Lib.hid (HSM.out _ (List.getElem_mem hip))
      have x0 : (0 : Int) ≤ (i : Int) := by omega
      have x1 : (i : Int) < (ps.length : Int) := by omega
      have x2 : 0 < ps.length := by omega
      clear hc
      generalize ps[i] = pp at *
      have HFL := Lib.hid (form_len pp HPO.out HPS.out)
      have HFP := Lib.hid (form_pos pp HPO.out)
      have HFM := Lib.hid (fun W => form_any pp HPO.out W (by have := HFL.out; omega))
      have HTO := Lib.hid (fun W v l h1 h2 h3 => to_any pp HPO.out W w.heap.size w.heap.size v l h1 h2 h3)
      generalize putsL (ps.take i) [] = L at *
      have hval : pp.val = .agg #[.int .u8 pp.k, .int .i64 pp.n, .string ⟨pp.s.toArray⟩] := rfl
      rw [hval] at HFM HTO
      clear hval
      go_wp2_with fail
      have hbx := box_new wr (.cells #[.int .u8 (pp.k : Int), .int .i64 pp.n, .string ⟨pp.s.toArray⟩] 28)
      have hal := alloc_below wr (.cells #[.int .u8 (pp.k : Int), .int .i64 pp.n, .string ⟨pp.s.toArray⟩] 28)
      refine (HFM.out _).mono ?_
      rintro e w2 ⟨v2, rfl, ho2, hb2⟩
      obtain ⟨ab, capb, rfl, _, _⟩ := ho2.slice
      have W2 := Lib.hid (HW.out.below (bt hal hb2))
      have O2 := Lib.hid (HO.out.below (bt hal hb2))
      have B2 := Lib.hid (bt HB.out (bt hal hb2))
      have RB := Lib.hid ho2.brd
      have hbx2 := box_next hbx hb2
      obtain ⟨q0, q1, q2⟩ := box3_at hbx2
      have HX2 := Lib.hid hbx2
      have hz2 : wr.heap.size < w2.heap.size := (Array.getElem?_eq_some_iff.1 hbx2).1
      have hBr2 : w.heap.size ≤ w2.heap.size := B2.out.size
      have hpl : (putL L pp.form).length ≤ 1048576 := putL_len hll
      clear ho2 hb2 hbx hal hbx2 HFM
      have HDEF : Hid (putL L pp.form = if L.length + pp.form.length ≤ 1048576 then L ++ pp.form else L) := rfl
      have HDEE : Hid (putE L pp.form = if L.length + pp.form.length ≤ 1048576 then 0 else 3) := rfl
      generalize pp.form = F at *
      have hFL := HFL.out
      by_cases hfit : L.length + F.length ≤ 1048576
      · have HPL : Hid (putL L F = L ++ F) := by show _ = _; rw [HDEF.out, if_pos hfit]
        have HPE : Hid (putE L F = 0) := by show _ = _; rw [HDEE.out, if_pos hfit]
        have f1 : (F.length : Int) ≤ 1048576 - (L.length : Int) := by omega
        clear hfit
        go_wp2_with (at_builtin; go_loud (refine wpList_app rfl _ _ rfl w.heap.size (.slice aa L.length capa) L ab capb F rfl rfl O2.out RB.out HFP.out hBr2 (by have := HFL.out; omega) ?_); intro v3 w3 hown3 hg3; refine Hid.out ?_)
        refine Lib.hid ?_
        obtain ⟨hw3, hd3⟩ := W2.out.grw O2.out hg3 HD.out
        have hx3 := (hg3.old hz2 (fun e => by
          obtain ⟨cs, fz, h9⟩ := own_kind O2.out _ e
          rw [HX2.out] at h9
          simp at h9)).trans HX2.out
        obtain ⟨r0, r1, r2⟩ := box3_at hx3
        have hz3 : wr.heap.size < w3.heap.size := (Array.getElem?_eq_some_iff.1 hx3).1
        have hBr3 : w.heap.size ≤ w3.heap.size := Nat.le_trans hBr2 hg3.by_.size
        have W3 := Lib.hid hw3
        have D3 := Lib.hid hd3
        have O3 := Lib.hid hown3
        have B3 := Lib.hid (below_tr B2.out (hg3.below O2.out hBr2))
        obtain ⟨a3, cap3, rfl, _, _⟩ := hown3.slice
        have HLA := Lib.hid (show (L ++ F).length = L.length + F.length from List.length_append)
        clear hw3 hd3 hown3 hg3 hx3 q0 q1 q2
        generalize hLF : (L ++ F).length = n3 at *
        have HLF := Lib.hid hLF
        clear hLF
        go_wp2_with fail
        refine (HTO.out _ _ _ W3.out hll hBr3).mono ?_
        rintro e w4 ⟨v4, rfl, hs4, hg4⟩
        rw [HPE.out]
        rw [HPL.out] at hs4
        have W4 := Lib.hid hs4
        obtain ⟨ho4, hd4⟩ := O3.out.wgr W3.out hg4 D3.out
        have O4 := Lib.hid ho4
        have D4 := Lib.hid hd4
        have B4 := Lib.hid (below_tr B3.out (WGr.below W3.out hg4 hBr3))
        have HLN := Lib.hid (len_any w4 _ _ _ _ W4.out)
        rw [HLF.out] at HLN
        clear hs4 hg4 ho4 hd4
        have hnn : ((n3 : Int) != (n3 : Int)) = false := by simp
        go_wp2_with fail
        refine HLN.out.mono ?_
        rintro e w' ⟨rfl, rfl⟩
        go_wp2_with fail
        go_roundw
        case rel => exact ⟨i + 1, v4, by omega, by go_num, by rw [HT.out, HPL.out]; exact W4.out, by rw [HT.out, HPL.out]; exact O4.out, D4.out, B4.out⟩
        case measure => simp [intOf]; omega
      · have HPL : Hid (putL L F = L) := by show _ = _; rw [HDEF.out, if_neg hfit]
        have HPE : Hid (putE L F = 3) := by show _ = _; rw [HDEE.out, if_neg hfit]
        have f1 : 1048576 - (L.length : Int) < (F.length : Int) := by omega
        clear hfit
        go_wp2_with fail
        refine (HTO.out _ _ _ W2.out hll hBr2).mono ?_
        rintro e w4 ⟨v4, rfl, hs4, hg4⟩
        rw [HPE.out]
        rw [HPL.out] at hs4
        have W4 := Lib.hid hs4
        obtain ⟨ho4, hd4⟩ := O2.out.wgr W2.out hg4 HD.out
        have O4 := Lib.hid ho4
        have D4 := Lib.hid hd4
        have B4 := Lib.hid (below_tr B2.out (WGr.below W2.out hg4 hBr2))
        have HLN := Lib.hid (len_any w4 _ _ _ _ W4.out)
        clear hs4 hg4 ho4 hd4
        have hnn : ((L.length : Int) != (L.length : Int)) = false := by simp
        go_wp2_with fail
        refine HLN.out.mono ?_
        rintro e w' ⟨rfl, rfl⟩
        go_wp2_with fail
        go_roundw
        case rel => exact ⟨i + 1, v4, by omega, by go_num, by rw [HT.out, HPL.out]; exact W4.out, by rw [HT.out, HPL.out]; exact O4.out, D4.out, B4.out⟩
        case measure => simp [intOf]; omega
    · obtain rfl : i = ps.length := by omega
      have hikI : ¬ ((ps.length : Int) < (ps.length : Int)) := by omega
      rw [List.take_length] at *
      have HOT := Lib.hid (out_any wr _ _ _ _ HW.out (by omega))
      go_wp2_with fail
      refine HOT.out.mono ?_
      rintro e w2 ⟨v2, rfl, ho2, hb2⟩
      obtain ⟨a2, cap2, rfl, _, _⟩ := ho2.slice
      have HE := Lib.hid (equal_any a2 aa cap2 capa _ _ w2 ho2.brd (HO.out.below hb2).brd)
      have B2 := Lib.hid (bt HB.out hb2)
      clear ho2 hb2
      generalize putsL ps [] = L at *
      rw [show (L == L) = true by simp] at HE
      go_wp2_with fail
      refine HE.out.mono ?_
      rintro e w' ⟨rfl, rfl⟩
      go_wp2_with fail
      go_ret
      exact ⟨rfl, B2.out⟩

set_option maxRecDepth 100000 in
theorem codecPuts_lifted (os : Os) (started : os.Started) (H : Type) (enc : TypeId × Value → H) (F : Stop.Interp) :
    ReturnsInHanded {} Try.checked os 3 .any ((Rows.OpenSpec.upto Rows.codecPutsSpec).pre6 enc Try.prog Try.f3 Rows.codecPutsUptoRow.domain false) (((Rows.OpenSpec.upto Rows.codecPutsSpec).at F).post enc Try.prog Try.f3 false true false false) := by
  refine returnsInHanded_of_cond_sized (C := Try.checked) (s := Rows.OpenSpec.upto Rows.codecPutsSpec) (k := Rows.uptoSmall) rfl own started (by kernel_rfl) Try.func3
    (OpenSpec.witness (enc := enc) (C := Try.checked) (s := Rows.OpenSpec.upto Rows.codecPutsSpec) (k := Rows.uptoSmall) rfl false ⟨#[], #[.slice none 0 0], []⟩ 8 (by kernel_rfl) (by kernel_rfl) (by kernel_rfl)
      (x := ([.nil], [], [])) (by kernel_rfl) rfl (by kernel_rfl)) ?_
  intro W base args ds gs before hval0 hW _ hk0 hsz _
  have hk : Rows.uptoBulkAll (ds ++ gs) ≤ 1048576 := of_decide_eq_true hk0
  have hval : ∀ (j : Nat) t v, Try.f3.params[j]? = some t → args[j]? = some v → Value.okWide Try.prog W .any base t v := hval0
  have hW' := hW
  obtain ⟨p, q, hA0, hV, rfl, hfz, hnd⟩ := hW
  have hA : DataW.TrodAll enc Try.prog W 0 (fun _ => true) true Try.f3.params.toList args.toList ds p := hA0
  rw [Try.params3] at hA hval
  obtain ⟨v0, vs0, d0, ds0, p0, q0, hargs, rfl, rfl, h0, r0⟩ := trodAll_cons hA
  obtain ⟨rfl, rfl, rfl⟩ := trodAll_nil r0
  obtain rfl : args = #[v0] := by cases args; simp_all
  obtain ⟨rfl, rfl⟩ := trodVars_none hV
  simp only [List.append_nil] at hW' hk
  simp only [Rows.uptoBulkAll] at hk
  have hlt0 : ∀ x ∈ p0, x.block < W.heap.size := fun x hx => hW'.lt x (by simp [hx])
  have hreach : reachBytes ≤ 140737488351232 := by decide
  obtain ⟨A0, cap0, ps, rfl, hR0, kn0, hd0⟩ := open_pieces (hval 0 22 v0 rfl rfl) h0
  have b0 : bulkP ps + 1 ≤ Rows.uptoBulk d0 := pieces_bulk hd0
  have ok0 : ∀ a ∈ ps, a.Ok := fun a ha => ⟨(kn0 a ha).1, (kn0 a ha).2, by have := bulkP_mem ha; omega⟩
  clear hA0 hval0
  refine (codecPuts_walk A0 cap0 ps W hR0 ok0 (fun a ha => by have := bulkP_mem ha; omega) (by have := bulkP_len ps; omega)).mono fun e W' ⟨he, hg⟩ => ?_
  subst he
  have hpost : Rows.codecPutsSpec.post enc Try.prog Try.f3 false true false false W _ _ W' := post_of_below (pa := p0 ++ []) (pv := []) hW' (fun _ _ _ => (trodAll_cons_mk (shut_bool Try.underlying4 _) trodAll_mk0)) (fun sp hsp => (trodAll_cons_mk (WideElems.Trod_stays laidOut (by kernel_rfl) (of_decide_eq_true (by kernel_rfl)) h0 (fun x hx => hg.same (hlt0 x hx)) (fun x hx => hsp x (by simp [hx]))) trodAll_mk0)) (fun _ _ => rfl) (by simp) hg (ok_one (by kernel_rfl) rfl (okWide_bool_mk Try.underlying4 _))
  exact ⟨_, rfl, hpost⟩

theorem codecPuts_holds : Rows.CodecPutsUptoSaid :=
  OpenClaim.holds_of_cond 3 Try.f3 rfl rfl rfl rfl rfl rfl rfl ⟨rfl, rfl, rfl, rfl, rfl⟩ rfl rfl rfl rfl rfl (by kernel_rfl) Try.func3 (by kernel_rfl)
    (of_decide_eq_true (by kernel_rfl)) (by unfold Func.isWrapper; first | (rw [if_pos (by decide +kernel)]; kernel_rfl) | (rw [if_neg (by decide +kernel)]; exact ⟨rfl, rfl⟩))
    (fun os started H enc _ F => codecPuts_lifted os started H enc F)
end Go.Proofs.Ytdjppchcnbfcoaa
