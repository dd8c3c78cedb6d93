/-
  The document's disk: Write.
-/
import Derived.Test.YtdbbghmldaekhaaEEnds
import Derived.Test.YtdbbghmldaekhaaDParts
namespace Go.Proofs.Ytdbbghmldaekhaa
open Go.ChangeShapes Go.WideShapes Go.ChangeAt Go.RowKit
set_option linter.unusedVariables false

theorem count_eq (s : St) (ks : List Bool) (hk : s.fuse ≠ 0 → ks = s.keep) (l : List Pc) : (s.add l).count = if decide (s.fuse = 1) = true then ((({ s with calls := next64 s.calls, fuse := s.fuse - 1 } : St).add l).crash ks, 6) else (({ s with calls := next64 s.calls, fuse := s.fuse - 1 } : St).add l, 0) := by
  unfold St.count
  show (if s.fuse = 1 then _ else _) = _
  by_cases h : s.fuse = 1
  · rw [if_pos h, if_pos (by simpa using h)]
    rw [hk (by omega)]
    rfl
  · rw [if_neg h, if_neg (by simpa using h)]
    rfl
theorem brd_take {w : World} {A : Option Addr} {l : List UInt8} (h : BRd w A l) (n : Nat) : BRd w A (l.take n) := fun h0 => by
  have h1 : 0 < l.length := by simp at h0; omega
  obtain ⟨g, off, hA, hg, hc⟩ := h h1
  refine ⟨g, off, hA, hg, fun i hi => ?_⟩
  have hi' : i < l.length := by simp at hi; omega
  rw [hc i hi']
  simp
set_option maxHeartbeats 6400000 in
set_option maxRecDepth 100000 in
/-- Where the call is counted. -/
theorem rwrite_main (F K : Nat) (hF : F < 2) (A : Option Addr) (c : Nat) (b : List UInt8) (w : World) (B g : Nat) (a : Nat → Option Addr) (k : Nat → Nat) (pc : Value) (qs : List PV) (ka : Option Addr) (kc : Nat) (ks : List Bool) (R : Nat → Prop) (s : St) (hd : RSt w B g a k pc qs ka kc ks R s) (hA : BRd w A b) (hm : s.may (F : Int) = 0) (hfit : 0 < b.length → K + b.length ≤ 4194304) (hbl : b.length ≤ 4194304) (hAg : 0 < b.length → ∀ x, A = some x → ¬ RF g pc x.block) (hlim : s.pcs.length + 4194304 ≤ 1000000000000) :
    Calls Try.prog 57 #[.pointer (some ⟨g, 0, none⟩), .int .i64 (F : Int), .int .i64 (K : Int), .slice A b.length c] w (RPost B g pc R ((s.add (parts F K b)).count) w) := by
  have HM := Lib.hid (rmay_any (F : Int) w B g a k pc qs ka kc ks R s hd)
  rw [hm] at HM
  have HME := Lib.hid (rmeets_any w B g a k pc qs ka kc ks R s hd)
  rw [count_eq s ks hd.lit (parts F K b)]
  obtain ⟨s1, hs1⟩ : ∃ s1 : St, s1 = { s with calls := next64 s.calls, fuse := s.fuse - 1 } := ⟨_, rfl⟩
  have hp1 : s1.pcs = s.pcs := by rw [hs1]
  rw [← hs1] at HME ⊢
  have HD := Lib.hid hd
  have HA := Lib.hid hA
  have HAG := Lib.hid hAg
  have HFIT := Lib.hid hfit
  have hblI : (b.length : Int) ≤ 4194304 := by omega
  have hgl := hd.g_lt
  have hB0 := hd.core.base
  have HLIM : Hid (s1.pcs.length + 4194304 ≤ 1000000000000) := by show _ ≤ _; rw [hp1]; exact hlim
  generalize decide (s.fuse = 1) = hit at *
  clear hd hA hAg hfit hs1 hp1 hlim hm
  have HAF : Hid (0 < b.length → ∀ x, A = some x → ¬ RF g pc x.block) := HAG.out
  obtain ⟨x, hx⟩ : ∃ x : St × Int, x = if hit = true then ((s1.add (parts F K b)).crash ks, 6) else (s1.add (parts F K b), 0) := ⟨_, rfl⟩
  rw [← hx]
  have HX := Lib.hid hx
  clear hx
  have hK0 : ¬ (K : Int) < 0 := by omega
  have hK4 : 0 < b.length → ¬ 4194304 < (K : Int) ∧ ¬ (4194304 : Int) - (K : Int) < (b.length : Int) := fun h => by have := HFIT.out h; omega
  by_cases hb0 : 0 < b.length
  · obtain ⟨hK5, hK6⟩ := hK4 hb0
    have hb0I : (0 : Int) < (b.length : Int) := by omega
    clear hK4 HAG
    go_enter Try.func57, Try.ntmps57
    go_wp2_with fail
    refine HM.out.mono ?_
    rintro e w' ⟨rfl, rfl⟩
    go_wp2_with fail
    refine HME.out.mono ?_
    rintro e w1 ⟨rfl, h1, t1⟩
    have H1 := Lib.hid h1
    have T1 := Lib.hid t1
    have HA1 := Lib.hid (HA.out.fr' t1.fr HAF.out)
    clear h1 t1 HM HME HD
    go_wp2_with (at_builtin; refine wpList_copy8 rfl _ _ rfl A b.length c b rfl rfl rfl HA1.out (by omega) ?_; intro v2 w2 hown2 hb2; refine Hid.out ?_)
    refine Lib.hid ?_
    obtain ⟨a2, k2, rfl, hk2, -⟩ := hown2.slice
    obtain ⟨R1, hR1⟩ : ∃ R1, R1 = More R w1 w2 := ⟨_, rfl⟩
    have HC2 : Hid (RCore w2 B g a k pc qs ka ks R1 s1.sure) := by rw [hR1]; exact H1.out.core.more hb2
    have HX2 : Hid (w2.heap[g]? = some (.cells (rbox s1 a k pc ka kc ks) 100 (0, 0))) := (hb2.block g H1.out.g_lt).trans H1.out.box
    have HT2 : Hid (RTurn w w2 g pc R pc R1) := by rw [hR1]; exact T1.out.trans (RTurn.more hb2)
    have HR2 : Hid (0 < b.length → ∀ x, a2 = some x → R1 x.block) := fun h0 x hx => by
      rw [hR1]
      exact .inr (World.ownsRow.lt hown2 x.block (by rw [hx]; rfl))
    have HO2 := Lib.hid hown2.brd
    have HNM := Lib.hid H1.out.names
    have HOK := Lib.hid H1.out.ok
    have HLT := Lib.hid H1.out.lit
    clear hown2 hb2 hR1 H1 T1 HA1
    go_wp2_with fail
    go_loopw [2, 11] (fun pos rest wr => ∃ (K' n : Nat) (rs : List UInt8) (l1 : List Pc) (ra : Option Addr) (rk : Nat) (pc1 : Value) (qs1 : List PV), parts F K b = l1 ++ parts F K' rs ∧ pos = .int .i64 (K' : Int) ∧ n = rs.length ∧ rest = .slice ra n rk ∧ n ≤ rk ∧ BRd wr ra rs ∧ (0 < n → ∀ x, ra = some x → R1 x.block) ∧ (0 < n → K' + n ≤ 4194304) ∧ n ≤ b.length ∧ wr.heap[g]? = some (.cells (rbox s1 a k pc1 ka kc ks) 100 (0, 0)) ∧ RCore wr B g a k pc1 qs1 ka ks R1 s1.sure ∧ qs1.map PV.p = s1.pcs ++ l1 ∧ RTurn w wr g pc R pc1 R1) (fun _ rest _ => lenV rest)
    case atStart => exact ⟨K, b.length, b, [], a2, k2, pc, qs, rfl, rfl, rfl, rfl, hk2, HO2.out, HR2.out, HFIT.out, Nat.le_refl _, HX2.out, HC2.out, by rw [List.append_nil]; exact HNM.out.symm, HT2.out⟩
    case round =>
      obtain ⟨K', n, rs, l1, ra, rk, pc1, qs1, hpt, rfl, hn, rfl, hnk, hrd, hrR, hfit, hnb, hbx, hcr, hnm, htu⟩ := hrel
      have HPT := Lib.hid hpt
      have HN := Lib.hid hn
      have HRD := Lib.hid hrd
      have HRR := Lib.hid hrR
      have HBX := Lib.hid hbx
      have HCR := Lib.hid hcr
      have HNM1 := Lib.hid hnm
      have HTU := Lib.hid htu
      have HFT := Lib.hid hfit
      have hgr := hcr.glt
      obtain ⟨pa1, pk1, hpc1⟩ := row_sliceV hcr.row
      have HQL : Hid (qs1.length + 1 ≤ 2000000000000) := by
        have e1 : qs1.length = s1.pcs.length + l1.length := by have := congrArg List.length hnm; simpa using this
        have e2 := parts_le F K b
        rw [hpt, List.length_append] at e2
        have := HLIM.out
        show _ ≤ _
        omega
      obtain ⟨⟨c0, c1, c2, c3, c4, c5, c6⟩, hfz⟩ := box7 hbx
      clear hpt hn hrd hrR hbx hcr hnm htu hfit
      subst hpc1
      by_cases hn0 : 0 < n
      · obtain ⟨rb, ro, rfl, hrb, -⟩ := HRD.out (by rw [← HN.out]; exact hn0)
        obtain ⟨M, hM⟩ : ∃ M, M = min n (512 - K' % 512) := ⟨_, rfl⟩
        have hmod : K' % 512 < 512 := Nat.mod_lt _ (by decide)
        have hMI : min (n : Int) (512 - (K' : Int) % 512) = (M : Int) := by rw [hM]; omega
        have hM1 : M ≤ n := by omega
        have hM0 : 0 < M := by omega
        have hft := HFT.out hn0
        have hKl2 : (K' : Int) ≤ 4194304 := by omega
        have hnI : (n : Int) ≤ 4194304 := by omega
        have hn0I : (0 : Int) < (n : Int) := by omega
        have hMk : M ≤ rk := by omega
        have hMnI : (M : Int) ≤ (n : Int) := by omega
        have hMkI : (M : Int) ≤ (rk : Int) := by omega
        have hM00 : (0 : Int) ≤ (M : Int) := by omega
        have hKM : (K' : Int) + (M : Int) = ((K' + M : Nat) : Int) := by omega
        have hKM4 : ((K' + M : Nat) : Int) ≤ 4194304 := by omega
        have HM := Lib.hid hM
        obtain ⟨q, hq⟩ : ∃ q : PV, q = ⟨⟨F, false, K', rs.take M⟩, some ⟨rb, ro, none⟩, rk⟩ := ⟨_, rfl⟩
        have hqc : q.cells4 = [.int .i64 (F : Int), .bool false, .int .i64 (K' : Int), .slice (some ⟨rb, ro, none⟩) M rk] := by
          rw [hq]
          unfold PV.cells4
          simp only [List.length_take, ← HN.out, Nat.min_eq_left hM1]
        have HQC := Lib.hid hqc
        have HQ := Lib.hid hq
        obtain ⟨K2, hK2⟩ : ∃ K2, K2 = K' + M := ⟨_, rfl⟩
        rw [← hK2] at hKM hKM4
        have HK2 := Lib.hid hK2
        clear hM hmod hft hq hqc hK2 c0 c1 c3 c4 c5 c6
        go_wp2_with fail
        go_region_law (refine step_piece (by rfl) _ _ (by rfl) B (.slice pa1 qs1.length pk1) q qs1.length (row4 qs1) _ (by rfl) wr.heap.size (by rfl) (HCR.out.below (alloc_below wr _).drew).row (by have := HCR.out.base; simp; omega) (by rw [HQC.out]; intro j u hj; match j, hj with | 0, hj => (obtain rfl := Option.some.inj hj; exact World.cell?_alloc_at _ _ _ _ rfl) | 1, hj => (obtain rfl := Option.some.inj hj; exact World.cell?_alloc_at _ _ _ _ rfl) | 2, hj => (obtain rfl := Option.some.inj hj; exact World.cell?_alloc_at _ _ _ _ rfl) | 3, hj => (obtain rfl := Option.some.inj hj; exact World.cell?_alloc_at _ _ _ _ rfl)) HQL.out ?_; intro pc2 w4 hrow4 hg4; obtain ⟨p4, k4, hpc4⟩ := row_sliceV hrow4; subst hpc4; have HC4 := Lib.hid ((HCR.out.below (alloc_below wr _).drew).push q hrow4 hg4 ⟨by rw [HQ.out]; exact brd_take (HRD.out.below (alloc_below wr _).drew) M, fun h0 x hx => HRR.out hn0 x (by rw [HQ.out] at hx; exact hx)⟩); have HG4 := Lib.hid (Grw.of_below (alloc_below wr _).drew hg4); have hbx4 := Lib.hid ((hg4.old (Nat.lt_of_lt_of_le hgr (by simp)) HCR.out.ng).trans (((alloc_below wr _).drew.block g hgr).trans HBX.out)); obtain ⟨⟨c40, c41, c42, c43, c44, c45, c46⟩, hfz4⟩ := box7 hbx4.out; clear hrow4 hg4)
        all_goals
          have HBR : Hid (BRd (w4.setCell ⟨g, 2, none⟩ (.slice p4 (qs1.length + 1) k4)) (some ⟨rb, ro, none⟩) rs) := (HRD.out.fr' (.of_grw HG4.out fun k h => h) fun h0 x hx hF => HCR.out.nop _ hF (HRR.out hn0 x hx)).fr' (F := fun j => j = g) (Fr.set _ _ _ _ rfl) fun h0 x hx e => HCR.out.nog (e ▸ HRR.out hn0 x hx)
          have HBX5 := Lib.hid (set10 hbx4.out 2 (.slice p4 (qs1.length + 1) k4))
          have HC5 := Lib.hid (HC4.out.set 2 (.slice p4 (qs1.length + 1) k4))
          have HT5 := Lib.hid (HTU.out.trans ((RTurn.push HG4.out).trans (RTurn.set w4 g 2 (.slice p4 (qs1.length + 1) k4) (.slice p4 (qs1.length + 1) k4) R1)))
          clear c40 c41 c42 c43 c44 c45 c46 hfz4 hbx4 HC4 HG4 c2 hfz hgr
          generalize w4.setCell ⟨g, 2, none⟩ (.slice p4 (qs1.length + 1) k4) = w5 at *
        all_goals go_wp2_with fail
        all_goals go_roundw
        all_goals first
          | (simp only [lenV]; omega)
          | (have hrl := HN.out
             have hmin : min rs.length (512 - K' % 512) = M := by rw [← HN.out]; exact HM.out.symm
             have e1 : parts F K b = (l1 ++ [q.p]) ++ parts F K2 (rs.drop M) := by
               rw [HPT.out, parts_step F K' rs (by omega), hmin, ← HK2.out, HQ.out, List.append_assoc]
               rfl
             have e2 : (rs.drop M).length = n - M := by rw [List.length_drop, ← HN.out]
             have hft := HFT.out hn0
             have hk2 := HK2.out
             have e3 : (rs.drop M).take (n - M) = rs.drop M := List.take_of_length_le (by rw [e2]; exact Nat.le_refl _)
             have e4 : (qs1 ++ [q]).length = qs1.length + 1 := by simp
             by_cases hcm : rk = M
             · simp only [if_pos hcm]
               exact ⟨K2, n - M, rs.drop M, l1 ++ [q.p], _, rk - M, _, qs1 ++ [q], e1, rfl, e2.symm, rfl, by omega, by rw [← e3]; exact brd_cut (cap := rk) HBR.out (by omega) (by omega) (by omega) (.inl ⟨rfl, hcm⟩), fun h0 x hx => HRR.out hn0 x hx, fun h0 => by omega, by omega, HBX5.out, HC5.out, by rw [List.map_append, HNM1.out, List.append_assoc]; rfl, HT5.out⟩
             · simp only [if_neg hcm]
               exact ⟨K2, n - M, rs.drop M, l1 ++ [q.p], _, rk - M, _, qs1 ++ [q], e1, rfl, e2.symm, rfl, by omega, by rw [← e3]; exact brd_cut (cap := rk) HBR.out (by omega) (by omega) (by omega) (.inr (by rw [Option.map_some, Go.WideShapes.add_plain])), fun h0 x hx => by obtain rfl := Option.some.inj hx; exact HRR.out hn0 ⟨rb, ro, none⟩ rfl, fun h0 => by omega, by omega, HBX5.out, HC5.out, by rw [List.map_append, HNM1.out, List.append_assoc]; rfl, HT5.out⟩)
      · obtain rfl : n = 0 := by omega
        have hz : ((0 : Nat) : Int) = 0 := rfl
        have hrs : rs = [] := List.length_eq_zero_iff.1 HN.out.symm
        have HP : Hid (parts F K b = l1) := by show _ = _; rw [HPT.out, hrs, parts_nil, List.append_nil]
        have HS : Hid (RSt wr B g a k (.slice pa1 qs1.length pk1) qs1 ka kc ks R1 (s1.add (parts F K b))) :=
          ⟨HBX.out, HCR.out, HLT.out, by rw [HP.out]; exact HNM1.out.symm, HOK.out.add (fun y hy => by
            by_cases hb0 : 0 < b.length
            · exact parts_ok F hF b.length K b (Nat.le_refl _) (by unfold maxFile; have := HFIT.out hb0; omega) y hy
            · obtain rfl : b = [] := List.length_eq_zero_iff.1 (by omega)
              rw [parts_nil] at hy; cases hy)⟩
        have hE0 := ends_no wr B g a k _ qs1 ka kc ks R1 _ HS.out
        have hE1 := ends_hit wr B g a k _ qs1 ka kc ks R1 _ HS.out (by have := HQL.out; omega)
        have HE0 := Lib.hid hE0
        have HE1 := Lib.hid hE1
        clear hE0 hE1 hrs c0 c1 c2 c3 c4 c5 c6 hfz
        cases hit with
        | false =>
          go_wp2_with fail
          refine HE0.out.mono ?_
          rintro e w' ⟨rfl, rfl⟩
          go_wp2_with fail
          go_ret
          rw [HX.out, if_neg (by simp)]
          exact ⟨rfl, _, R1, ⟨a, k, qs1, ka, kc, ks, HS.out⟩, HTU.out⟩
        | true =>
          go_wp2_with fail
          refine HE1.out.mono ?_
          rintro e w5 ⟨rfl, pc5, R5, h5, t5⟩
          have H5 := Lib.hid h5
          have T5 := Lib.hid t5
          clear h5 t5 HE1
          go_wp2_with fail
          go_ret
          rw [HX.out, if_pos trivial]
          exact ⟨rfl, pc5, R5, H5.out, HTU.out.trans T5.out⟩
  · have hb0I : ¬ (0 : Int) < (b.length : Int) := by omega
    clear hK4 HAG
    go_enter Try.func57, Try.ntmps57
    go_wp2_with fail
    refine HM.out.mono ?_
    rintro e w' ⟨rfl, rfl⟩
    go_wp2_with fail
    refine HME.out.mono ?_
    rintro e w1 ⟨rfl, h1, t1⟩
    have H1 := Lib.hid h1
    have T1 := Lib.hid t1
    have HA1 := Lib.hid (HA.out.fr' t1.fr HAF.out)
    clear h1 t1 HM HME HD
    go_wp2_with (at_builtin; refine wpList_copy8 rfl _ _ rfl A b.length c b rfl rfl rfl HA1.out (by omega) ?_; intro v2 w2 hown2 hb2; refine Hid.out ?_)
    refine Lib.hid ?_
    obtain ⟨a2, k2, rfl, hk2, -⟩ := hown2.slice
    obtain ⟨R1, hR1⟩ : ∃ R1, R1 = More R w1 w2 := ⟨_, rfl⟩
    have HC2 : Hid (RCore w2 B g a k pc qs ka ks R1 s1.sure) := by rw [hR1]; exact H1.out.core.more hb2
    have HX2 : Hid (w2.heap[g]? = some (.cells (rbox s1 a k pc ka kc ks) 100 (0, 0))) := (hb2.block g H1.out.g_lt).trans H1.out.box
    have HT2 : Hid (RTurn w w2 g pc R pc R1) := by rw [hR1]; exact T1.out.trans (RTurn.more hb2)
    have HR2 : Hid (0 < b.length → ∀ x, a2 = some x → R1 x.block) := fun h0 x hx => by
      rw [hR1]
      exact .inr (World.ownsRow.lt hown2 x.block (by rw [hx]; rfl))
    have HO2 := Lib.hid hown2.brd
    have HNM := Lib.hid H1.out.names
    have HOK := Lib.hid H1.out.ok
    have HLT := Lib.hid H1.out.lit
    clear hown2 hb2 hR1 H1 T1 HA1
    go_wp2_with fail
    go_loopw [2, 11] (fun pos rest wr => ∃ (K' n : Nat) (rs : List UInt8) (l1 : List Pc) (ra : Option Addr) (rk : Nat) (pc1 : Value) (qs1 : List PV), parts F K b = l1 ++ parts F K' rs ∧ pos = .int .i64 (K' : Int) ∧ n = rs.length ∧ rest = .slice ra n rk ∧ n ≤ rk ∧ BRd wr ra rs ∧ (0 < n → ∀ x, ra = some x → R1 x.block) ∧ (0 < n → K' + n ≤ 4194304) ∧ n ≤ b.length ∧ wr.heap[g]? = some (.cells (rbox s1 a k pc1 ka kc ks) 100 (0, 0)) ∧ RCore wr B g a k pc1 qs1 ka ks R1 s1.sure ∧ qs1.map PV.p = s1.pcs ++ l1 ∧ RTurn w wr g pc R pc1 R1) (fun _ rest _ => lenV rest)
    case atStart => exact ⟨K, b.length, b, [], a2, k2, pc, qs, rfl, rfl, rfl, rfl, hk2, HO2.out, HR2.out, HFIT.out, Nat.le_refl _, HX2.out, HC2.out, by rw [List.append_nil]; exact HNM.out.symm, HT2.out⟩
    case round =>
      obtain ⟨K', n, rs, l1, ra, rk, pc1, qs1, hpt, rfl, hn, rfl, hnk, hrd, hrR, hfit, hnb, hbx, hcr, hnm, htu⟩ := hrel
      have HPT := Lib.hid hpt
      have HN := Lib.hid hn
      have HRD := Lib.hid hrd
      have HRR := Lib.hid hrR
      have HBX := Lib.hid hbx
      have HCR := Lib.hid hcr
      have HNM1 := Lib.hid hnm
      have HTU := Lib.hid htu
      have HFT := Lib.hid hfit
      have hgr := hcr.glt
      obtain ⟨pa1, pk1, hpc1⟩ := row_sliceV hcr.row
      have HQL : Hid (qs1.length + 1 ≤ 2000000000000) := by
        have e1 : qs1.length = s1.pcs.length + l1.length := by have := congrArg List.length hnm; simpa using this
        have e2 := parts_le F K b
        rw [hpt, List.length_append] at e2
        have := HLIM.out
        show _ ≤ _
        omega
      obtain ⟨⟨c0, c1, c2, c3, c4, c5, c6⟩, hfz⟩ := box7 hbx
      clear hpt hn hrd hrR hbx hcr hnm htu hfit
      subst hpc1
      by_cases hn0 : 0 < n
      · omega
      · obtain rfl : n = 0 := by omega
        have hz : ((0 : Nat) : Int) = 0 := rfl
        have hrs : rs = [] := List.length_eq_zero_iff.1 HN.out.symm
        have HP : Hid (parts F K b = l1) := by show _ = _; rw [HPT.out, hrs, parts_nil, List.append_nil]
        have HS : Hid (RSt wr B g a k (.slice pa1 qs1.length pk1) qs1 ka kc ks R1 (s1.add (parts F K b))) :=
          ⟨HBX.out, HCR.out, HLT.out, by rw [HP.out]; exact HNM1.out.symm, HOK.out.add (fun y hy => by
            by_cases hb0 : 0 < b.length
            · exact parts_ok F hF b.length K b (Nat.le_refl _) (by unfold maxFile; have := HFIT.out hb0; omega) y hy
            · obtain rfl : b = [] := List.length_eq_zero_iff.1 (by omega)
              rw [parts_nil] at hy; cases hy)⟩
        have hE0 := ends_no wr B g a k _ qs1 ka kc ks R1 _ HS.out
        have hE1 := ends_hit wr B g a k _ qs1 ka kc ks R1 _ HS.out (by have := HQL.out; omega)
        have HE0 := Lib.hid hE0
        have HE1 := Lib.hid hE1
        clear hE0 hE1 hrs c0 c1 c2 c3 c4 c5 c6 hfz
        cases hit with
        | false =>
          go_wp2_with fail
          refine HE0.out.mono ?_
          rintro e w' ⟨rfl, rfl⟩
          go_wp2_with fail
          go_ret
          rw [HX.out, if_neg (by simp)]
          exact ⟨rfl, _, R1, ⟨a, k, qs1, ka, kc, ks, HS.out⟩, HTU.out⟩
        | true =>
          go_wp2_with fail
          refine HE1.out.mono ?_
          rintro e w5 ⟨rfl, pc5, R5, h5, t5⟩
          have H5 := Lib.hid h5
          have T5 := Lib.hid t5
          clear h5 t5 HE1
          go_wp2_with fail
          go_ret
          rw [HX.out, if_pos trivial]
          exact ⟨rfl, pc5, R5, H5.out, HTU.out.trans T5.out⟩
set_option maxHeartbeats 1600000 in
theorem rwrite_any (f at_ : Int) (A : Option Addr) (c n : Nat) (b : List UInt8) (w : World) (B g : Nat) (a : Nat → Option Addr) (k : Nat → Nat) (pc : Value) (qs : List PV) (ka : Option Addr) (kc : Nat) (ks : List Bool) (R : Nat → Prop) (s : St) (hd : RSt w B g a k pc qs ka kc ks R s) (hn : n = b.length) (hA : BRd w A b) (hAg : 0 < b.length → ∀ x, A = some x → ¬ RF g pc x.block) (hbl : b.length ≤ 140737488355328) (hlim : s.pcs.length + 4194304 ≤ 1000000000000) :
    Calls Try.prog 57 #[.pointer (some ⟨g, 0, none⟩), .int .i64 f, .int .i64 at_, .slice A n c] w (RPost B g pc R (s.write f at_ b) w) := by
  subst hn
  have HM := Lib.hid (rmay_any f w B g a k pc qs ka kc ks R s hd)
  have HD := Lib.hid hd
  unfold St.write
  by_cases hm : s.may f = 0
  · rw [if_neg (by omega)]
    obtain ⟨-, hf⟩ := may_file hm
    rw [hm] at HM
    by_cases hk : at_ < 0
    · rw [if_pos hk]
      clear hd hA hAg hm
      go_enter Try.func57, Try.ntmps57
      go_wp2_with fail
      refine HM.out.mono ?_
      rintro e w' ⟨rfl, rfl⟩
      go_wp2_with fail
      go_ret
      exact ⟨rfl, pc, R, ⟨a, k, qs, ka, kc, ks, HD.out⟩, RTurn.refl _ _ _ _⟩
    · rw [if_neg hk]
      obtain ⟨K, rfl⟩ : ∃ K : Nat, at_ = (K : Int) := ⟨at_.toNat, by omega⟩
      by_cases hfull : 0 < b.length ∧ (4194304 : Int) - b.length < K
      · rw [if_pos hfull]
        obtain ⟨hb0, hfl⟩ := hfull
        have hb0I : (0 : Int) < (b.length : Int) := by omega
        by_cases hK4 : (4194304 : Int) < (K : Int)
        · clear hd hA hAg hm
          go_enter Try.func57, Try.ntmps57
          go_wp2_with fail
          refine HM.out.mono ?_
          rintro e w' ⟨rfl, rfl⟩
          go_wp2_with fail
          go_ret
          exact ⟨rfl, pc, R, ⟨a, k, qs, ka, kc, ks, HD.out⟩, RTurn.refl _ _ _ _⟩
        · have hK5 : (4194304 : Int) - (K : Int) < (b.length : Int) := by omega
          clear hd hA hAg hm
          go_enter Try.func57, Try.ntmps57
          go_wp2_with fail
          refine HM.out.mono ?_
          rintro e w' ⟨rfl, rfl⟩
          go_wp2_with fail
          go_ret
          exact ⟨rfl, pc, R, ⟨a, k, qs, ka, kc, ks, HD.out⟩, RTurn.refl _ _ _ _⟩
      · rw [if_neg hfull]
        rw [show (K : Int).toNat = K from rfl]
        rcases hf with rfl | rfl
        · exact rwrite_main 0 K (by omega) A c b w B g a k pc qs ka kc ks R s hd hA hm (fun h => by omega) (by omega) hAg hlim
        · exact rwrite_main 1 K (by omega) A c b w B g a k pc qs ka kc ks R s hd hA hm (fun h => by omega) (by omega) hAg hlim
  · rw [if_pos hm]
    generalize s.may f = m at *
    clear hd hA hAg
    go_enter Try.func57, Try.ntmps57
    go_wp2_with fail
    refine HM.out.mono ?_
    rintro e w' ⟨rfl, rfl⟩
    go_wp2_with fail
    go_ret
    exact ⟨rfl, pc, R, ⟨a, k, qs, ka, kc, ks, HD.out⟩, RTurn.refl _ _ _ _⟩
end Go.Proofs.Ytdbbghmldaekhaa
