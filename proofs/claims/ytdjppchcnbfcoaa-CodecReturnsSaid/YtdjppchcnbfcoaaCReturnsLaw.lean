/-
  CodecReturns: what was put is read as it was, and nothing is left. No condition beyond the form's own.
-/
import Derived.Test.YtdjppchcnbfcoaaCRets
namespace Go.Proofs.Ytdjppchcnbfcoaa
open Go.ChangeShapes Go.WideShapes Go.ChangeAt Go.RowKit Go.Deep
set_option linter.unusedVariables false

set_option maxHeartbeats 12800000 in
set_option maxRecDepth 100000 in
theorem codecReturns_walk (A : Option Addr) (c : Nat) (ps : List PR) (w : World) (hR : PRd w A ps) (ok : ∀ a ∈ ps, a.Ok) (hl : ps.length * 32 ≤ 140737488351232) :
    Calls Try.prog 6 #[.slice A ps.length c] w fun e w' => e = .returned (.bool true) ∧ Below w.heap.size w w' := by
  have HR := Lib.hid (fun (W : World) (h : Below w.heap.size w W) => hR.below h)
  have HOK := Lib.hid ok
  have hw1 := Lib.hid (wrs_new w)
  have hA1 := Lib.hid (alloc_below w (.cells #[.bool true, .slice none 0 0] 67))
  clear hR ok
  go_enter Try.func6, Try.ntmps6
  go_wp2_with (go_at_call 12; refine (newWriter_any _).mono ?_; rintro e w' ⟨rfl, rfl⟩)
  refine (begun_any _).mono ?_
  rintro e w1 ⟨rfl, h1⟩
  have W1 := Lib.hid (hw1.out.below h1)
  have B1 := Lib.hid (bt hA1.out h1)
  have hBr1 : w.heap.size ≤ w1.heap.size := B1.out.size
  clear h1 hw1 hA1
  go_wp2_with fail
  go_loopw [4, 21] (fun pu idx wr => ∃ (i : Nat) (v : Value) (K : List PR), i ≤ ps.length ∧ idx = .int .i64 i ∧ K.length ≤ i ∧ (∀ a ∈ K, a.Ok) ∧ (formsL K).length ≤ 1048576 ∧ WrS wr w.heap.size w.heap.size v (formsL K) ∧ OwnP wr w.heap.size pu K ∧ Below w.heap.size w wr) (fun _ idx _ => ps.length - (intOf idx).toNat)
  case atStart => exact ⟨0, _, [], by omega, rfl, by simp, (fun a ha => by cases ha), by simp [formsL], W1.out, OwnP.nil _ _, B1.out⟩
  case round =>
    obtain ⟨i, v, K, hi, rfl, hKi, hKok, hKl, hw, ho, hb⟩ := hrel
    have HW := Lib.hid hw
    have HO := Lib.hid ho
    have HKO := Lib.hid hKok
    have HB := Lib.hid hb
    have hBr : w.heap.size ≤ wr.heap.size := hb.size
    clear hw ho hb hKok
    by_cases hip : i < ps.length
    · obtain ⟨g, off, rfl, hgl, hc⟩ := HR.out _ HB.out (by omega)
      obtain ⟨c0, c1, c2⟩ := hc i hip
      have HPO := Lib.hid (HOK.out _ (List.getElem_mem hip))
      have x0 : (0 : Int) ≤ (i : Int) := by omega
      have x1 : (i : Int) < (ps.length : Int) := by omega
      have x2 : 0 < ps.length := by omega
      clear hc
      generalize ps[i] = pp at *
      have HTO := Lib.hid (fun W v l h1 h2 h3 => to_any pp HPO.out W w.heap.size w.heap.size v l h1 h2 h3)
      have hval : pp.val = .agg #[.int .u8 pp.k, .int .i64 pp.n, .string ⟨pp.s.toArray⟩] := rfl
      rw [hval] at HTO
      clear hval
      have hbx := box_new wr (.cells #[.int .u8 (pp.k : Int), .int .i64 pp.n, .string ⟨pp.s.toArray⟩] 28)
      have hal := alloc_below wr (.cells #[.int .u8 (pp.k : Int), .int .i64 pp.n, .string ⟨pp.s.toArray⟩] 28)
      have W2 := Lib.hid (HW.out.below hal)
      have O2 := Lib.hid (HO.out.below hal)
      have B2 := Lib.hid (bt HB.out hal)
      have HX := Lib.hid hbx
      have hsz2 : w.heap.size ≤ (wr.alloc (.cells #[.int .u8 (pp.k : Int), .int .i64 pp.n, .string ⟨pp.s.toArray⟩] 28)).heap.size := Nat.le_trans hBr hal.size
      have HSZ2 := Lib.hid hsz2
      clear hbx hal hsz2
      go_wp2_with fail
      refine (HTO.out _ _ _ W2.out hKl HSZ2.out).mono ?_
      rintro e w2 ⟨v2, rfl, hs2, hg2⟩
      have O3 := Lib.hid (O2.out.wgr W2.out hg2)
      have B3 := Lib.hid (below_tr B2.out (WGr.below W2.out hg2 HSZ2.out))
      have W3 := Lib.hid hs2
      have hx2 := (hg2.block wr.heap.size (by simp) (by have := HW.out.lt; omega) (fun e2 => by have := (World.ownsRow.lt HW.out.own _ e2).2; omega)).trans HX.out
      obtain ⟨q0, q1, q2⟩ := box3_at hx2
      have hz2 : wr.heap.size < w2.heap.size := (Array.getElem?_eq_some_iff.1 hx2).1
      have hBr2 : w.heap.size ≤ w2.heap.size := B3.out.size
      clear hs2 hg2 hx2
      have HDEF : Hid (putL (formsL K) pp.form = if (formsL K).length + pp.form.length ≤ 1048576 then formsL K ++ pp.form else formsL K) := rfl
      have HDEE : Hid (putE (formsL K) pp.form = if (formsL K).length + pp.form.length ≤ 1048576 then 0 else 3) := rfl
      by_cases hfit : (formsL K).length + pp.form.length ≤ 1048576
      · have HPL : Hid (putL (formsL K) pp.form = formsL (K ++ [pp])) := by show _ = _; rw [HDEF.out, if_pos hfit, formsL_snoc]
        have HPE : Hid (putE (formsL K) pp.form = 0) := by show _ = _; rw [HDEE.out, if_pos hfit]
        have HLN : Hid ((formsL (K ++ [pp])).length ≤ 1048576) := by show _ ≤ _; rw [formsL_snoc, List.length_append]; omega
        rw [HPE.out]
        rw [HPL.out] at W3
        clear hfit
        obtain ⟨a3, cap3, rfl⟩ := O3.out.slice
        go_wp2_with (at_builtin; go_loud (refine wpList_piece rfl _ _ rfl w.heap.size (.slice a3 K.length cap3) K pp rfl rfl O3.out hBr2 (by omega) ?_); intro v3 w3 hown3 hg3; refine Hid.out ?_)
        refine Lib.hid ?_
        have hb3 := alloc_below w2 (.cells #[.int .u8 (pp.k : Int), .int .i64 pp.n, .string ⟨pp.s.toArray⟩] 28)
        have O4 := Lib.hid hown3
        have W4 := Lib.hid ((W3.out.below hb3).pgr (O3.out.below hb3) hg3)
        have B4 := Lib.hid ((bt B3.out hb3).grown hg3 (Nat.le_trans hBr2 hb3.size) (fun k hk => (World.ownsRow.lt O3.out k hk).1))
        clear hown3 hg3 hb3
        go_wp2_with fail
        go_roundw
        case rel => exact ⟨i + 1, v2, K ++ [pp], by omega, by go_num, by simp; omega, (fun a ha => by
          rcases List.mem_append.1 ha with h | h
          · exact HKO.out a h
          · simp at h; rw [h]; exact HPO.out), HLN.out, W4.out, O4.out, B4.out⟩
        case measure => simp [intOf]; omega
      · have HPL : Hid (putL (formsL K) pp.form = formsL K) := by show _ = _; rw [HDEF.out, if_neg hfit]
        have HPE : Hid (putE (formsL K) pp.form = 3) := by show _ = _; rw [HDEE.out, if_neg hfit]
        rw [HPE.out]
        rw [HPL.out] at W3
        clear hfit
        go_wp2_with fail
        go_roundw
        case rel => exact ⟨i + 1, v2, K, by omega, by go_num, by omega, HKO.out, hKl, W3.out, O3.out, B3.out⟩
        case measure => simp [intOf]; omega
    · obtain rfl : i = ps.length := by omega
      have hikI : ¬ ((ps.length : Int) < (ps.length : Int)) := by omega
      have HOT := Lib.hid (out_any wr _ _ _ _ HW.out (by omega))
      go_wp2_with fail
      refine HOT.out.mono ?_
      rintro e w3 ⟨v3, rfl, ho3, hb3⟩
      obtain ⟨a3, cap3, rfl, _, _⟩ := ho3.slice
      have R3 := Lib.hid ho3.brd
      have O3 := Lib.hid (HO.out.below hb3)
      have B3 := Lib.hid (bt HB.out hb3)
      clear ho3 hb3 HOT
      have HNR := Lib.hid (newReader_any a3 cap3 _ w3 R3.out (by omega))
      go_wp2_with fail
      refine HNR.out.mono ?_
      rintro e w5 ⟨gr, q, rfl, hgr, hqr, hqs, hrs, hb5⟩
      have R5 := Lib.hid hrs
      have Q5 := Lib.hid hqs
      have HGR := Lib.hid hgr
      have HQR := Lib.hid hqr
      have O5 := Lib.hid (O3.out.below hb5)
      have B5 := Lib.hid hb5
      clear hrs hb5 HNR hgr hqr hqs
      obtain ⟨ap, capp, rfl⟩ := O5.out.slice
      have P5 := Lib.hid O5.out.prd
      have hKlen : K.length ≤ 4398046511104 := by omega
      have hPB : Hid (∀ (W : World), Below w3.heap.size w5 W → PRd W ap K) := by
        show ∀ (W : World), _
        intro W hW hn
        obtain ⟨g, off, hA, hg, hc⟩ := O3.out.prd hn
        refine ⟨g, off, hA, ?_, fun i hi => ?_⟩
        · exact Nat.lt_of_lt_of_le hg (Nat.le_trans B5.out.size hW.size)
        · obtain ⟨d0, d1, d2⟩ := hc i hi
          have hb := (below_tr B5.out hW).block g hg
          rw [World.cell?_of_block (w := w3) (a := ⟨g, off + i * 3, none⟩) hb, World.cell?_of_block (w := w3) (a := ⟨g, off + i * 3 + 1, none⟩) hb, World.cell?_of_block (w := w3) (a := ⟨g, off + i * 3 + 2, none⟩) hb]
          exact ⟨d0, d1, d2⟩
      clear hi hip hikI hKi
      go_wp2_with fail
      go_loopw [41] (fun idx wr => ∃ j : Nat, j ≤ K.length ∧ idx = .int .i64 j ∧ RdS wr gr q (formsL (K.drop j)) ∧ q < wr.heap.size ∧ Below w3.heap.size w5 wr) (fun idx _ => K.length - (intOf idx).toNat)
      case atStart => exact ⟨0, by omega, rfl, by simpa using R5.out, Q5.out, Below.refl _ _⟩
      case round =>
        obtain ⟨j, hj, rfl, hrd, hqs, hbw⟩ := hrel
        have H1 := Lib.hid hrd
        have HBW := Lib.hid hbw
        have HQL := Lib.hid hqs
        have HGL : Hid (gr < wr.heap.size) := by
          obtain ⟨A9, c9, h9, _⟩ := hrd
          exact (Array.getElem?_eq_some_iff.1 h9).1
        have HW5 : Hid (w3.heap.size ≤ wr.heap.size) := Nat.le_trans B5.out.size hbw.size
        clear hrd hbw hqs
        by_cases hjK : j < K.length
        · obtain ⟨g, off, rfl, hgl, hc⟩ := hPB.out _ HBW.out (by omega)
          obtain ⟨c0, c1, c2⟩ := hc j hjK
          have HPO := Lib.hid (HKO.out _ (List.getElem_mem hjK))
          have HFD := Lib.hid (formsL_drop K j hjK)
          have x0 : (0 : Int) ≤ (j : Int) := by omega
          have x1 : (j : Int) < (K.length : Int) := by omega
          have x2 : 0 < K.length := by omega
          clear hc
          generalize K[j] = pp at *
          rw [HFD.out] at H1
          have hfl : (pp.form ++ formsL (K.drop (j + 1))).length ≤ 140737488355328 := by
            rw [← HFD.out]
            have : (formsL (K.drop j)).length ≤ (formsL K).length := by
              have e : formsL K = formsL (K.take j) ++ formsL (K.drop j) := by rw [formsL, formsL, formsL, ← List.flatMap_append, List.take_append_drop]
              rw [e, List.length_append]; omega
            omega
          have HFR := Lib.hid (fun W h1 h2 => from_any pp HPO.out W gr q (pp.form ++ formsL (K.drop (j + 1))) h1 hfl h2)
          unfold FromPost at HFR
          have hval : pp.val = .agg #[.int .u8 pp.k, .int .i64 pp.n, .string ⟨pp.s.toArray⟩] := rfl
          rw [hval] at HFR
          clear hval hfl
          have HX := Lib.hid (box_new wr (.cells #[.int .u8 (pp.k : Int), .int .i64 pp.n, .string ⟨pp.s.toArray⟩] 28))
          have H2 := Lib.hid (H1.out.below (alloc_below wr (.cells #[.int .u8 (pp.k : Int), .int .i64 pp.n, .string ⟨pp.s.toArray⟩] 28)))
          have HQQ : Hid (q < (wr.alloc (.cells #[.int .u8 (pp.k : Int), .int .i64 pp.n, .string ⟨pp.s.toArray⟩] 28)).heap.size) := by show _ < _; have := HQL.out; simp; omega
          have BX2 := Lib.hid (HBW.out.alloc HW5.out (.cells #[.int .u8 (pp.k : Int), .int .i64 pp.n, .string ⟨pp.s.toArray⟩] 28))
          have HSX : Hid (w3.heap.size ≤ (wr.alloc (.cells #[.int .u8 (pp.k : Int), .int .i64 pp.n, .string ⟨pp.s.toArray⟩] 28)).heap.size) := Nat.le_trans HW5.out (by simp)
          have HGW := Lib.hid HGR.out
          have hk0 : (0 : Int) ≤ (pp.k : Int) := by omega
          rcases (by omega : pp.k % 4 = 0 ∨ (pp.k % 4 = 1 ∨ pp.k % 4 = 2) ∨ pp.k % 4 = 3) with h4 | h4 | h4
          · have e4 : (pp.k : Int) % 4 = 0 := by omega
            have HRP : Hid (rdP pp.k (pp.form ++ formsL (K.drop (j + 1))) = (pp.n, [], pp.form.length, 0)) := by
              show _ = _
              rw [show pp.form = encI pp.n from if_pos h4]
              exact rdP_int pp.k pp.n h4 HPO.out.n _
            have hnn : (pp.n != pp.n) = false := by simp
            clear h4
            go_wp2_with fail
            refine (HFR.out _ H2.out HQQ.out).mono ?_
            rintro e w8 ⟨rfl, hr8, hg8⟩
            rw [HRP.out]
            rw [HRP.out, List.drop_left] at hr8
            have R8 := Lib.hid hr8
            have B8 := Lib.hid (below_tr BX2.out (hg8.below HGW.out HSX.out))
            have hx8 := (hg8.block wr.heap.size (by simp) (by have := HGL.out; omega)).trans HX.out
            obtain ⟨⟨q0, q1, q2⟩, f0, f1, f2⟩ := cells3 hx8
            have hz8 : wr.heap.size < w8.heap.size := (Array.getElem?_eq_some_iff.1 hx8).1
            have hs8 := hg8.size
            have HS8 : Hid (wr.heap.size + 1 ≤ w8.heap.size) := by show _ ≤ _; simp at hs8; omega
            have HQ8 : Hid (q < w8.heap.size) := by show _ < _; have := HQL.out; omega
            clear hr8 hg8 hx8 hs8
            go_wp2_with fail
            go_roundw
            case rel => exact ⟨j + 1, by omega, by go_num, by repeat' first | exact R8.out | exact R8.out.below (alloc_below _ _) | refine RdS.set ?_ _ (by have := HGL.out; omega) (by have := HQL.out; omega) | refine RdS.below ?_ (alloc_below _ _), by have := HQ8.out; simp; omega, by repeat' first | exact B8.out | exact B8.out.alloc (by have := HS8.out; have := HSX.out; simp at this; omega) _ | refine Below.setCell ?_ (by have := HW5.out; simp; omega) _ | refine Below.alloc ?_ (by have := HS8.out; have := HSX.out; simp at this; simp; omega) _⟩
            case measure => simp [intOf]; omega
          · rcases h4 with h4 | h4
            · have e4 : (pp.k : Int) % 4 = 1 := by omega
              have HRP : Hid (rdP pp.k (pp.form ++ formsL (K.drop (j + 1))) = (0, pp.s, pp.form.length, 0)) := by
                show _ = _
                rw [show pp.form = encB pp.s from (by unfold PR.form; rw [if_neg (by omega), if_neg (by omega)])]
                exact rdP_text pp.k pp.s (by omega) _
              clear h4
              go_wp2_with fail
              refine (HFR.out _ H2.out HQQ.out).mono ?_
              rintro e w8 ⟨rfl, hr8, hg8⟩
              rw [HRP.out]
              rw [HRP.out, List.drop_left] at hr8
              have R8 := Lib.hid hr8
              have B8 := Lib.hid (below_tr BX2.out (hg8.below HGW.out HSX.out))
              have hx8 := (hg8.block wr.heap.size (by simp) (by have := HGL.out; omega)).trans HX.out
              obtain ⟨⟨q0, q1, q2⟩, f0, f1, f2⟩ := cells3 hx8
              have hz8 : wr.heap.size < w8.heap.size := (Array.getElem?_eq_some_iff.1 hx8).1
              have hs8 := hg8.size
              have HS8 : Hid (wr.heap.size + 1 ≤ w8.heap.size) := by show _ ≤ _; simp at hs8; omega
              have HQ8 : Hid (q < w8.heap.size) := by show _ < _; have := HQL.out; omega
              clear hr8 hg8 hx8 hs8
              go_wp2_with fail
              go_roundw
              case rel => exact ⟨j + 1, by omega, by go_num, by repeat' first | exact R8.out | exact R8.out.below (alloc_below _ _) | refine RdS.set ?_ _ (by have := HGL.out; omega) (by have := HQL.out; omega) | refine RdS.below ?_ (alloc_below _ _), by have := HQ8.out; simp; omega, by repeat' first | exact B8.out | exact B8.out.alloc (by have := HS8.out; have := HSX.out; simp at this; omega) _ | refine Below.setCell ?_ (by have := HW5.out; simp; omega) _ | refine Below.alloc ?_ (by have := HS8.out; have := HSX.out; simp at this; simp; omega) _⟩
              case measure => simp [intOf]; omega
            · have e4 : (pp.k : Int) % 4 = 2 := by omega
              have HRP : Hid (rdP pp.k (pp.form ++ formsL (K.drop (j + 1))) = (0, pp.s, pp.form.length, 0)) := by
                show _ = _
                rw [show pp.form = encB pp.s from (by unfold PR.form; rw [if_neg (by omega), if_neg (by omega)])]
                exact rdP_text pp.k pp.s (by omega) _
              clear h4
              go_wp2_with fail
              refine (HFR.out _ H2.out HQQ.out).mono ?_
              rintro e w8 ⟨rfl, hr8, hg8⟩
              rw [HRP.out]
              rw [HRP.out, List.drop_left] at hr8
              have R8 := Lib.hid hr8
              have B8 := Lib.hid (below_tr BX2.out (hg8.below HGW.out HSX.out))
              have hx8 := (hg8.block wr.heap.size (by simp) (by have := HGL.out; omega)).trans HX.out
              obtain ⟨⟨q0, q1, q2⟩, f0, f1, f2⟩ := cells3 hx8
              have hz8 : wr.heap.size < w8.heap.size := (Array.getElem?_eq_some_iff.1 hx8).1
              have hs8 := hg8.size
              have HS8 : Hid (wr.heap.size + 1 ≤ w8.heap.size) := by show _ ≤ _; simp at hs8; omega
              have HQ8 : Hid (q < w8.heap.size) := by show _ < _; have := HQL.out; omega
              clear hr8 hg8 hx8 hs8
              go_wp2_with fail
              go_roundw
              case rel => exact ⟨j + 1, by omega, by go_num, by repeat' first | exact R8.out | exact R8.out.below (alloc_below _ _) | refine RdS.set ?_ _ (by have := HGL.out; omega) (by have := HQL.out; omega) | refine RdS.below ?_ (alloc_below _ _), by have := HQ8.out; simp; omega, by repeat' first | exact B8.out | exact B8.out.alloc (by have := HS8.out; have := HSX.out; simp at this; omega) _ | refine Below.setCell ?_ (by have := HW5.out; simp; omega) _ | refine Below.alloc ?_ (by have := HS8.out; have := HSX.out; simp at this; simp; omega) _⟩
              case measure => simp [intOf]; omega
          · have e4 : (pp.k : Int) % 4 = 3 := by omega
            have HRP : Hid (rdP pp.k (pp.form ++ formsL (K.drop (j + 1))) = (pp.n % 2, [], pp.form.length, 0)) := by
              show _ = _
              rw [show pp.form = encI (pp.n % 2) from (by unfold PR.form; rw [if_neg (by omega), if_pos h4])]
              exact rdP_flag pp.k pp.n h4 _
            have ha := and_one pp.n
            have hnn : (pp.n % 2 != pp.n % 2) = false := by simp
            clear h4
            go_wp2_with fail
            refine (HFR.out _ H2.out HQQ.out).mono ?_
            rintro e w8 ⟨rfl, hr8, hg8⟩
            rw [HRP.out]
            rw [HRP.out, List.drop_left] at hr8
            have R8 := Lib.hid hr8
            have B8 := Lib.hid (below_tr BX2.out (hg8.below HGW.out HSX.out))
            have hx8 := (hg8.block wr.heap.size (by simp) (by have := HGL.out; omega)).trans HX.out
            obtain ⟨⟨q0, q1, q2⟩, f0, f1, f2⟩ := cells3 hx8
            have hz8 : wr.heap.size < w8.heap.size := (Array.getElem?_eq_some_iff.1 hx8).1
            have hs8 := hg8.size
            have HS8 : Hid (wr.heap.size + 1 ≤ w8.heap.size) := by show _ ≤ _; simp at hs8; omega
            have HQ8 : Hid (q < w8.heap.size) := by show _ < _; have := HQL.out; omega
            clear hr8 hg8 hx8 hs8
            go_wp2_with fail
            go_roundw
            case rel => exact ⟨j + 1, by omega, by go_num, by repeat' first | exact R8.out | exact R8.out.below (alloc_below _ _) | refine RdS.set ?_ _ (by have := HGL.out; omega) (by have := HQL.out; omega) | refine RdS.below ?_ (alloc_below _ _), by have := HQ8.out; simp; omega, by repeat' first | exact B8.out | exact B8.out.alloc (by have := HS8.out; have := HSX.out; simp at this; omega) _ | refine Below.setCell ?_ (by have := HW5.out; simp; omega) _ | refine Below.alloc ?_ (by have := HS8.out; have := HSX.out; simp at this; simp; omega) _⟩
            case measure => simp [intOf]; omega
        · obtain rfl : j = K.length := by omega
          have hjI : ¬ ((K.length : Int) < (K.length : Int)) := by omega
          rw [List.drop_length] at H1
          have HEN := Lib.hid (end_any wr gr q _ H1.out)
          rw [show (if (formsL []).length = 0 then (0 : Int) else 32) = 0 from rfl] at HEN
          go_wp2_with (go_at_call 25; refine HEN.out.mono ?_; rintro e w' ⟨rfl, rfl⟩)
          go_ret
          exact ⟨rfl, below_tr B3.out (below_tr (B5.out.mono B3.out.size) (HBW.out.mono B3.out.size))⟩

set_option maxRecDepth 100000 in
theorem codecReturns_lifted (os : Os) (started : os.Started) (H : Type) (enc : TypeId × Value → H) :
    ReturnsInHanded {} Try.checked os 6 .any (Rows.codecReturnsSpec.pre6 enc Try.prog Try.f6 Rows.codecReturnsRow.domain false) (Rows.codecReturnsSpec.post enc Try.prog Try.f6 false true false false) := by
  refine returnsInHanded_of_change_sized (C := Try.checked) own started (by kernel_rfl) Try.func6
    (ChangeSpec.witness6 (enc := enc) (C := Try.checked) false ⟨#[], #[.slice none 0 0], []⟩ 8 (by kernel_rfl) (by kernel_rfl) (by kernel_rfl) (by kernel_rfl)) ?_
  intro W base args ds gs before hval0 hW _ hsz _
  have hval : ∀ (j : Nat) t v, Try.f6.params[j]? = some t → args[j]? = some v → Value.okWide Try.prog W .any base t v := hval0
  have hW' := hW
  obtain ⟨p, q, hA0, hV, rfl, hfz, hnd⟩ := hW
  have hA : DataW.TrodAll enc Try.prog W 0 (fun _ => true) true Try.f6.params.toList args.toList ds p := hA0
  rw [Try.params6] at hA hval
  obtain ⟨v0, vs0, d0, ds0, p0, q0, hargs, rfl, rfl, h0, r0⟩ := trodAll_cons hA
  obtain ⟨rfl, rfl, rfl⟩ := trodAll_nil r0
  obtain rfl : args = #[v0] := by cases args; simp_all
  obtain ⟨rfl, rfl⟩ := trodVars_none hV
  simp only [List.append_nil] at hW'
  have hlt0 : ∀ x ∈ p0, x.block < W.heap.size := fun x hx => hW'.lt x (by simp [hx])
  have hreach : reachBytes ≤ 140737488351232 := by decide
  obtain ⟨A0, cap0, ps, rfl, hR0, kn0, hd0⟩ := open_pieces (hval 0 22 v0 rfl rfl) h0
  have b0 : ps.length * 32 ≤ reachBytes := by
    rcases hd0 with h0 | ⟨D, sp, e, he⟩
    · rw [h0]; simp
    · have hs : (((List.range ps.length).map D).length + sp.length) * Try.prog.bytesOf 28 ≤ reachBytes := sized_slice hsz (j := 0) (t := 22) (e := 28) rfl (by rw [e]; rfl) Try.underlying22
      rw [show Try.prog.bytesOf 28 = 32 by kernel_rfl, List.length_map, List.length_range] at hs
      omega
  have ok0 : ∀ a ∈ ps, a.Ok := fun a ha => ⟨(kn0 a ha).1, (kn0 a ha).2, by
    rcases hd0 with h0 | ⟨D, sp, e, he⟩
    · rw [h0] at ha; cases ha
    · obtain ⟨i, hi, rfl⟩ := List.getElem_of_mem ha
      have hm : ps[i].s.length ∈ d0.weights Try.prog 22 := by
        rw [e]
        unfold DataW.weights
        rw [Try.underlying22]
        simp only [List.mem_cons, List.mem_append]
        exact .inr (.inl (weightsAll_mem (List.mem_map.2 ⟨i, List.mem_range.2 hi, rfl⟩) (he i hi).weight))
      have := List.all_eq_true.1 hsz _ (DataW.weights_mem_each (j := 0) (t := 22) rfl rfl _ hm)
      have : ps[i].s.length ≤ reachBytes := by simpa using this
      have hr : reachBytes ≤ 140737488351232 := by decide
      omega⟩
  clear hA0 hval0
  refine (codecReturns_walk A0 cap0 ps W hR0 ok0 (by omega)).mono fun e W' ⟨he, hg⟩ => ?_
  subst he
  have hpost : Rows.codecReturnsSpec.post enc Try.prog Try.f6 false true false false W _ _ W' := post_of_below (pa := p0 ++ []) (pv := []) hW' (fun _ _ _ => (trodAll_cons_mk (shut_bool Try.underlying4 _) trodAll_mk0)) (fun sp hsp => (trodAll_cons_mk (WideElems.Trod_stays laidOut (by kernel_rfl) (of_decide_eq_true (by kernel_rfl)) h0 (fun x hx => hg.same (hlt0 x hx)) (fun x hx => hsp x (by simp [hx]))) trodAll_mk0)) (fun _ _ => rfl) (by simp) hg (ok_one (by kernel_rfl) rfl (okWide_bool_mk Try.underlying4 _))
  exact ⟨_, rfl, hpost⟩

theorem codecReturns_holds : Rows.CodecReturnsSaid :=
  OpenClaim.holds_of_wide 6 Try.f6 rfl rfl rfl rfl rfl rfl rfl ⟨rfl, rfl, rfl, rfl, rfl⟩ rfl rfl rfl rfl rfl (by kernel_rfl) Try.func6 (by kernel_rfl)
    (of_decide_eq_true (by kernel_rfl)) (by unfold Func.isWrapper; first | (rw [if_pos (by decide +kernel)]; kernel_rfl) | (rw [if_neg (by decide +kernel)]; exact ⟨rfl, rfl⟩))
    (fun os started H enc _ => codecReturns_lifted os started H enc)
end Go.Proofs.Ytdjppchcnbfcoaa
