/-
  The document's disk: Sync.
-/
import Derived.Test.YtdbbghmldaekhaaETrunc
namespace Go.Proofs.Ytdbbghmldaekhaa
open Go.ChangeShapes Go.WideShapes Go.ChangeAt Go.RowKit
set_option linter.unusedVariables false

theorem sync_eq (s : St) (ks : List Bool) (hk : s.fuse ≠ 0 → ks = s.keep) (f : Int) (hm : s.may f = 0) : s.sync f = if decide (s.fuse = 1) = true then (({ s with calls := next64 s.calls, fuse := s.fuse - 1 } : St).crash ks, 6) else (({ s with calls := next64 s.calls, fuse := s.fuse - 1 } : St).settle f.toNat, 0) := by
  unfold St.sync
  rw [if_neg (by omega)]
  by_cases h : s.fuse = 1
  · rw [if_pos h, if_pos (by simpa using h), hk (by omega)]
    unfold St.count
    rw [if_pos h]
    rfl
  · rw [if_neg h, if_neg (by simpa using h)]
    unfold St.count
    rw [if_neg (show ¬ (s.settle f.toNat).fuse = 1 from h)]
    rfl
theorem RCore.newrow {w : World} {B g : Nat} {a : Nat → Option Addr} {k : Nat → Nat} {pc : Value} {qs : List PV} {ka : Option Addr} {ks : List Bool} {R : Nat → Prop} {su : Nat → List UInt8} (h : RCore w B g a k pc qs ka ks R su) {pc' : Value} {qs' : List PV} (hrow : w.ownsRow B 150 4 pc' qs'.length (row4 qs')) (hsub : ∀ q ∈ qs', q ∈ qs) (hnew : ∀ j, pc'.ownBlock = some j → ¬ R j ∧ j ≠ g) : RCore w B g a k pc' qs' ka ks R su :=
  ⟨h.base, h.glt, hrow, h.sure, fun q hq => h.reads q (hsub q hq), h.keep, h.nog, fun j hj => (hnew j hj).1, fun e => (hnew g e).2 rfl, h.lt⟩
set_option maxHeartbeats 6400000 in
set_option maxRecDepth 100000 in
theorem rsync_0 (w : World) (B g : Nat) (a : Nat → Option Addr) (k : Nat → Nat) (pc : Value) (qs : List PV) (ka : Option Addr) (kc : Nat) (ks : List Bool) (R : Nat → Prop) (s : St) (hd : RSt w B g a k pc qs ka kc ks R s) (hm : s.may 0 = 0) (hlim : s.pcs.length + 4194304 ≤ 1000000000000) :
    Calls Try.prog 60 #[.pointer (some ⟨g, 0, none⟩), .int .i64 0] w (RPost B g pc R (s.sync 0) w) := by
  have HM := Lib.hid (rmay_any 0 w B g a k pc qs ka kc ks R s hd)
  rw [hm] at HM
  rw [sync_eq s ks hd.lit 0 hm]
  obtain ⟨s1, hs1⟩ : ∃ s1 : St, s1 = { s with calls := next64 s.calls, fuse := s.fuse - 1 } := ⟨_, rfl⟩
  have hp1 : s1.pcs = s.pcs := by rw [hs1]
  have HME := Lib.hid (rmeets_any w B g a k pc qs ka kc ks R s hd)
  rw [← hs1] at HME ⊢
  have hql : qs.length = s.pcs.length := by rw [hd.names, List.length_map]
  have hqlI : (qs.length : Int) ≤ 1000000000000 := by omega
  have HQL : Hid (qs.length + 1 ≤ 2000000000000) := by show _ ≤ _; omega
  have hgl := hd.g_lt
  obtain ⟨x, hx⟩ : ∃ x : St × Int, x = if decide (s.fuse = 1) = true then (s1.crash ks, 6) else (s1.settle (0 : Int).toNat, 0) := ⟨_, rfl⟩
  rw [← hx]
  have HX := Lib.hid hx
  generalize decide (s.fuse = 1) = hit at *
  clear hd hx hs1 hm hlim hp1 hql
  cases hit with
  | true =>
    go_enter Try.func60, Try.ntmps60
    go_wp2_with fail
    refine HM.out.mono ?_
    rintro e w' ⟨rfl, rfl⟩
    go_wp2_with fail
    refine HME.out.mono ?_
    rintro e w1 ⟨rfl, h1, t1⟩
    have HE1 := Lib.hid (ends_hit w1 B g a k _ qs ka kc ks R _ h1 (by have := HQL.out; omega))
    have T1 := Lib.hid t1
    clear h1 t1
    go_wp2_with fail
    refine HE1.out.mono ?_
    rintro e w7 ⟨rfl, pc7, R7, h7, t7⟩
    have H7 := Lib.hid h7
    have T7 := Lib.hid t7
    clear h7 t7 HE1
    go_wp2_with fail
    go_ret
    rw [HX.out, if_pos trivial]
    exact ⟨rfl, pc7, R7, H7.out, T1.out.trans T7.out⟩
  | false =>
    go_enter Try.func60, Try.ntmps60
    go_wp2_with fail
    refine HM.out.mono ?_
    rintro e w' ⟨rfl, rfl⟩
    go_wp2_with fail
    refine HME.out.mono ?_
    rintro e w1 ⟨rfl, h1, t1⟩
    have H1 := Lib.hid h1
    have T1 := Lib.hid t1
    obtain ⟨⟨b0, b1, b2, -⟩, hfz1⟩ := box7 h1.box
    have hgl1 := h1.g_lt
    obtain ⟨L, hL⟩ : ∃ L, L = s1.now 0 := ⟨_, rfl⟩
    have HN := Lib.hid (fun W hW => now_0 W B g a k pc qs ka kc ks R s1 (h1.below (w' := W) hW) (by have := HQL.out; omega))
    rw [← hL] at HN
    have HL := Lib.hid hL
    clear h1 t1 HM HME hL
    go_wp2_with fail
    go_region_with (go_at_call 66; refine (HN.out _ (by first | exact Below.refl _ _ | exact (Below.refl _ _).drew)).mono ?_; rintro e w2 ⟨a2, n2, k2, rfl, rfl, hk2, hr2, hx2, hb2⟩; have hbw := (show Below w1.heap.size w1 w2 from (by first | exact hb2 | exact bt (Below.refl _ _).drew hb2)); have HK2 := Lib.hid hk2; have HR2 := Lib.hid hr2; have HX2 := Lib.hid hx2; have HB2 := Lib.hid hbw; have hbx2 := Lib.hid ((hbw.block g hgl1).trans H1.out.box); obtain ⟨⟨c40, c41, c42, c43, c44, c45, c46⟩, hfz4⟩ := box7 hbx2.out; have hgl2 : g < w2.heap.size := Nat.lt_of_lt_of_le hgl1 hbw.size; clear hk2 hr2 hx2 hb2 hbw)
    all_goals
      obtain ⟨R1, hR1⟩ : ∃ R1, R1 = More R w1 w2 := ⟨_, rfl⟩
      have HC3 : Hid (RCore (w2.setCell ⟨g, 0, none⟩ (.slice a2 L.length k2)) B g (upd a 0 a2) (upd k 0 k2) pc qs ka ks R1 (upd s1.sure 0 L)) := by
        rw [hR1]
        exact ((H1.out.core.more HB2.out).sure_set 0 ⟨HR2.out, fun h0 x hx => HX2.out h0 x hx, HK2.out⟩).set 0 _
      have HX3 : Hid ((w2.setCell ⟨g, 0, none⟩ (.slice a2 L.length k2)).heap[g]? = some (.cells (rbox { s1 with sure := upd s1.sure 0 L } (upd a 0 a2) (upd k 0 k2) pc ka kc ks) 100 (0, 0))) := set10 hbx2.out 0 _
      have HT3 : Hid (RTurn w (w2.setCell ⟨g, 0, none⟩ (.slice a2 L.length k2)) g pc R pc R1) := by
        rw [hR1]
        exact T1.out.trans ((RTurn.more HB2.out).trans (RTurn.set _ _ _ _ _ _))
      clear c40 c41 c42 c43 c44 c45 c46 hfz4 hbx2 hgl2 HB2 HX2 HR2 HK2 hR1 b0 b1 b2 hfz1
      have hgl3 := HC3.out.glt
      generalize w2.setCell ⟨g, 0, none⟩ (.slice a2 L.length k2) = w3 at *
    all_goals go_wp2_with fail
    all_goals go_loopw [6, 7] (fun lv idx wr => ∃ (j : Nat) (la : Option Addr) (nn lk : Nat), j ≤ qs.length ∧ idx = .int .i64 (j : Int) ∧ lv = .slice la nn lk ∧ nn = ((qs.take j).filter fun q => q.p.file != 0).length ∧ wr.ownsRow w3.heap.size 150 4 (.slice la nn lk) nn (row4 ((qs.take j).filter fun q => q.p.file != 0)) ∧ Below w3.heap.size w3 wr) (fun _ idx _ => qs.length - (intOf idx).toNat)
    case atStart => exact ⟨0, none, 0, 0, by omega, rfl, rfl, rfl, World.ownsRow_nil _ _ _ _, Below.refl _ _⟩
    case round =>
      obtain ⟨j, la, nn, lk, hj, rfl, rfl, hnn, hrow, hb⟩ := hrel
      have HNN := Lib.hid hnn
      have HRW := Lib.hid hrow
      have HB := Lib.hid hb
      have hgr : g < wr.heap.size := Nat.lt_of_lt_of_le hgl3 hb.size
      obtain ⟨⟨c0, c1, c2, c3, c4, c5, c6⟩, hfz⟩ := box7 ((hb.block g hgl3).trans HX3.out)
      obtain ⟨pa, pk, hpc⟩ := row_sliceV HC3.out.row
      rw [hpc] at c2
      have HPC := Lib.hid hpc
      clear hnn hrow hb hpc
      by_cases hjn : j < qs.length
      · have hrw := HC3.out.row
        obtain ⟨pb, cap', hx, -, hxl⟩ := World.ownsRow.form hrw (by omega)
        have hx2 := HPC.out.symm.trans hx
        obtain ⟨rfl, rfl⟩ : pa = some ⟨pb, 0, none⟩ ∧ pk = cap' := by simpa using hx2
        have hpb : pc.ownBlock = some pb := by rw [hx]; rfl
        obtain ⟨q, hqq⟩ : ∃ q, q = qs[j] := ⟨_, rfl⟩
        have hr := row4_at qs j hjn
        have hoq := othersQ 0 qs j hjn
        rw [← hqq] at hr hoq
        have g0 := World.ownsRow.cells hrw hpb (j * 4) _ hr.1
        have g1 := World.ownsRow.cells hrw hpb (j * 4 + 1) _ hr.2.1
        have g2 := World.ownsRow.cells hrw hpb (j * 4 + 2) _ hr.2.2.1
        have g3 := World.ownsRow.cells hrw hpb (j * 4 + 3) _ hr.2.2.2
        rw [Go.WideShapes.add_plain, Nat.zero_add, ← (bcell HB.out).1 _ _ hxl] at g0 g1 g2 g3
        have hpr : pb < wr.heap.size := Nat.lt_of_lt_of_le hxl HB.out.size
        have hjnI : (j : Int) < (qs.length : Int) := by omega
        clear hrw hx hx2 hpb hr hqq
        by_cases hf : q.p.file = 0
        · rw [if_pos hf, List.append_nil] at hoq
          rw [hf] at g0
          have HOQ := Lib.hid hoq
          clear hf hoq
          go_wp2_with fail
          exact ⟨⟨j + 1, la, nn, lk, hjn, rfl, rfl, by rw [HOQ.out]; exact HNN.out, by rw [HOQ.out]; exact HRW.out, HB.out⟩, by simp only [intOf]; omega⟩
        · rw [if_neg hf] at hoq
          have HOQ := Lib.hid hoq
          have hfI : ¬ (q.p.file : Int) = 0 := by omega
          have hfI2 : ¬ q.p.file = 0 := hf
          have HNL : Hid (nn + 1 ≤ 2000000000000) := by
            have h1 := HNN.out
            have h2 := List.length_filter_le (fun q : PV => q.p.file != 0) (qs.take j)
            rw [List.length_take] at h2
            have := HQL.out
            show _ ≤ _
            omega
          have HCC : Hid (∀ (o : Obj) j u, o = .cells #[.int .i64 (q.p.file : Int), .bool q.p.cut, .int .i64 (q.p.pos : Int), .slice q.A q.p.b.length q.c] 150 → q.cells4[j]? = some u → (wr.alloc o).cell? ⟨wr.heap.size, j, none⟩ = some u) := by
            intro o j u ho hj
            subst ho
            match j, hj with
            | 0, hj => (obtain rfl := Option.some.inj hj; exact World.cell?_alloc_at _ _ _ _ rfl)
            | 1, hj => (obtain rfl := Option.some.inj hj; exact World.cell?_alloc_at _ _ _ _ rfl)
            | 2, hj => (obtain rfl := Option.some.inj hj; exact World.cell?_alloc_at _ _ _ _ rfl)
            | 3, hj => (obtain rfl := Option.some.inj hj; exact World.cell?_alloc_at _ _ _ _ rfl)
          have hrows : Hid (row4 ((qs.take (j + 1)).filter fun q => q.p.file != 0) = row4 ((qs.take j).filter fun q => q.p.file != 0) ++ q.cells4) := by
            show _ = _
            rw [HOQ.out, row4_app]
            simp [row4]
          have hlen : Hid (((qs.take (j + 1)).filter fun q => q.p.file != 0).length = nn + 1) := by
            show _ = _
            rw [HOQ.out, List.length_append, ← HNN.out]
            rfl
          clear hf hoq
          go_wp2_with (at_builtin; refine wpList_piece4 rfl _ _ rfl w3.heap.size (.slice la nn lk) q nn (row4 ((qs.take j).filter fun q => q.p.file != 0)) _ rfl wr.heap.size rfl (HRW.out.alloc _) (Nat.le_trans HB.out.size (by simp)) (fun j u hj => HCC.out _ j u rfl hj) HNL.out ?_; intro p5 k5 w5 hrow5 hg5; have HR5 := Lib.hid hrow5; have HB5 := Lib.hid (below_tr HB.out ((alloc_below wr _).mono HB.out.size |>.trans (hg5.below (HRW.out.alloc _) (Nat.le_trans HB.out.size (by simp))))); clear hrow5 hg5; refine Hid.out ?_)
          refine Lib.hid ?_
          go_wp2_with fail
          exact ⟨⟨j + 1, p5, nn + 1, k5, hjn, rfl, rfl, hlen.out.symm, by rw [hrows.out]; exact HR5.out, HB5.out⟩, by simp only [intOf]; omega⟩
      · obtain rfl : j = qs.length := by omega
        have HTK : Hid (qs.take qs.length = qs) := List.take_length
        clear HN
        go_wp2_with fail
        go_ret
        rw [HX.out, if_neg (by simp)]
        have hrow := HRW.out
        have hnn := HNN.out
        rw [HTK.out] at hrow hnn
        have hB3 : B ≤ w3.heap.size := Nat.le_trans HC3.out.base (Nat.le_of_lt HC3.out.glt)
        have hnew : ∀ j, (Value.slice la nn lk).ownBlock = some j → w3.heap.size ≤ j := fun j hj => (hrow.lt j hj).1
        have hcr := (HC3.out.below HB.out).newrow (pc' := .slice la nn lk) (qs' := qs.filter fun q => q.p.file != 0) (by rw [← hnn]; exact row_low hrow hB3) (fun q hq => (List.mem_filter.1 hq).1) (fun j hj => ⟨fun hR => by have := HC3.out.lt j hR; have := hnew j hj; omega, fun e => by have := hnew j hj; omega⟩)
        refine ⟨rfl, .slice la nn lk, R1, ⟨upd a 0 a2, upd k 0 k2, qs.filter fun q => q.p.file != 0, ka, kc, ks, ⟨?_, ?_, H1.out.lit, settle_names 0 H1.out.names, H1.out.ok.settle 0⟩⟩, ?_⟩
        · have h9 := set10 ((HB.out.block g hgl3).trans HX3.out) 2 (.slice la nn lk)
          rw [HL.out] at h9
          exact h9
        · have h9 := hcr.set 2 (.slice la nn lk)
          rw [HL.out] at h9
          exact h9
        · have t9 := HT3.out.trans (RTurn.below HB.out)
          exact ⟨t9.fr.trans' (Fr.set _ _ _ _ (.inl rfl)) fun j _ h => h, fun j hj hd => by have h1 := hnew j hd; have h2 := HT3.out.fr.size; omega, t9.newR⟩
set_option maxHeartbeats 6400000 in
set_option maxRecDepth 100000 in
theorem rsync_1 (w : World) (B g : Nat) (a : Nat → Option Addr) (k : Nat → Nat) (pc : Value) (qs : List PV) (ka : Option Addr) (kc : Nat) (ks : List Bool) (R : Nat → Prop) (s : St) (hd : RSt w B g a k pc qs ka kc ks R s) (hm : s.may 1 = 0) (hlim : s.pcs.length + 4194304 ≤ 1000000000000) :
    Calls Try.prog 60 #[.pointer (some ⟨g, 0, none⟩), .int .i64 1] w (RPost B g pc R (s.sync 1) w) := by
  have HM := Lib.hid (rmay_any 1 w B g a k pc qs ka kc ks R s hd)
  rw [hm] at HM
  rw [sync_eq s ks hd.lit 1 hm]
  obtain ⟨s1, hs1⟩ : ∃ s1 : St, s1 = { s with calls := next64 s.calls, fuse := s.fuse - 1 } := ⟨_, rfl⟩
  have hp1 : s1.pcs = s.pcs := by rw [hs1]
  have HME := Lib.hid (rmeets_any w B g a k pc qs ka kc ks R s hd)
  rw [← hs1] at HME ⊢
  have hql : qs.length = s.pcs.length := by rw [hd.names, List.length_map]
  have hqlI : (qs.length : Int) ≤ 1000000000000 := by omega
  have HQL : Hid (qs.length + 1 ≤ 2000000000000) := by show _ ≤ _; omega
  have hgl := hd.g_lt
  obtain ⟨x, hx⟩ : ∃ x : St × Int, x = if decide (s.fuse = 1) = true then (s1.crash ks, 6) else (s1.settle (1 : Int).toNat, 0) := ⟨_, rfl⟩
  rw [← hx]
  have HX := Lib.hid hx
  generalize decide (s.fuse = 1) = hit at *
  clear hd hx hs1 hm hlim hp1 hql
  cases hit with
  | true =>
    go_enter Try.func60, Try.ntmps60
    go_wp2_with fail
    refine HM.out.mono ?_
    rintro e w' ⟨rfl, rfl⟩
    go_wp2_with fail
    refine HME.out.mono ?_
    rintro e w1 ⟨rfl, h1, t1⟩
    have HE1 := Lib.hid (ends_hit w1 B g a k _ qs ka kc ks R _ h1 (by have := HQL.out; omega))
    have T1 := Lib.hid t1
    clear h1 t1
    go_wp2_with fail
    refine HE1.out.mono ?_
    rintro e w7 ⟨rfl, pc7, R7, h7, t7⟩
    have H7 := Lib.hid h7
    have T7 := Lib.hid t7
    clear h7 t7 HE1
    go_wp2_with fail
    go_ret
    rw [HX.out, if_pos trivial]
    exact ⟨rfl, pc7, R7, H7.out, T1.out.trans T7.out⟩
  | false =>
    go_enter Try.func60, Try.ntmps60
    go_wp2_with fail
    refine HM.out.mono ?_
    rintro e w' ⟨rfl, rfl⟩
    go_wp2_with fail
    refine HME.out.mono ?_
    rintro e w1 ⟨rfl, h1, t1⟩
    have H1 := Lib.hid h1
    have T1 := Lib.hid t1
    obtain ⟨⟨b0, b1, b2, -⟩, hfz1⟩ := box7 h1.box
    have hgl1 := h1.g_lt
    obtain ⟨L, hL⟩ : ∃ L, L = s1.now 1 := ⟨_, rfl⟩
    have HN := Lib.hid (fun W hW => now_1 W B g a k pc qs ka kc ks R s1 (h1.below (w' := W) hW) (by have := HQL.out; omega))
    rw [← hL] at HN
    have HL := Lib.hid hL
    clear h1 t1 HM HME hL
    go_wp2_with fail
    go_region_with (go_at_call 66; refine (HN.out _ (by first | exact Below.refl _ _ | exact (Below.refl _ _).drew)).mono ?_; rintro e w2 ⟨a2, n2, k2, rfl, rfl, hk2, hr2, hx2, hb2⟩; have hbw := (show Below w1.heap.size w1 w2 from (by first | exact hb2 | exact bt (Below.refl _ _).drew hb2)); have HK2 := Lib.hid hk2; have HR2 := Lib.hid hr2; have HX2 := Lib.hid hx2; have HB2 := Lib.hid hbw; have hbx2 := Lib.hid ((hbw.block g hgl1).trans H1.out.box); obtain ⟨⟨c40, c41, c42, c43, c44, c45, c46⟩, hfz4⟩ := box7 hbx2.out; have hgl2 : g < w2.heap.size := Nat.lt_of_lt_of_le hgl1 hbw.size; clear hk2 hr2 hx2 hb2 hbw)
    all_goals
      obtain ⟨R1, hR1⟩ : ∃ R1, R1 = More R w1 w2 := ⟨_, rfl⟩
      have HC3 : Hid (RCore (w2.setCell ⟨g, 1, none⟩ (.slice a2 L.length k2)) B g (upd a 1 a2) (upd k 1 k2) pc qs ka ks R1 (upd s1.sure 1 L)) := by
        rw [hR1]
        exact ((H1.out.core.more HB2.out).sure_set 1 ⟨HR2.out, fun h0 x hx => HX2.out h0 x hx, HK2.out⟩).set 1 _
      have HX3 : Hid ((w2.setCell ⟨g, 1, none⟩ (.slice a2 L.length k2)).heap[g]? = some (.cells (rbox { s1 with sure := upd s1.sure 1 L } (upd a 1 a2) (upd k 1 k2) pc ka kc ks) 100 (0, 0))) := set10 hbx2.out 1 _
      have HT3 : Hid (RTurn w (w2.setCell ⟨g, 1, none⟩ (.slice a2 L.length k2)) g pc R pc R1) := by
        rw [hR1]
        exact T1.out.trans ((RTurn.more HB2.out).trans (RTurn.set _ _ _ _ _ _))
      clear c40 c41 c42 c43 c44 c45 c46 hfz4 hbx2 hgl2 HB2 HX2 HR2 HK2 hR1 b0 b1 b2 hfz1
      have hgl3 := HC3.out.glt
      generalize w2.setCell ⟨g, 1, none⟩ (.slice a2 L.length k2) = w3 at *
    all_goals go_wp2_with fail
    all_goals go_loopw [6, 7] (fun lv idx wr => ∃ (j : Nat) (la : Option Addr) (nn lk : Nat), j ≤ qs.length ∧ idx = .int .i64 (j : Int) ∧ lv = .slice la nn lk ∧ nn = ((qs.take j).filter fun q => q.p.file != 1).length ∧ wr.ownsRow w3.heap.size 150 4 (.slice la nn lk) nn (row4 ((qs.take j).filter fun q => q.p.file != 1)) ∧ Below w3.heap.size w3 wr) (fun _ idx _ => qs.length - (intOf idx).toNat)
    case atStart => exact ⟨0, none, 0, 0, by omega, rfl, rfl, rfl, World.ownsRow_nil _ _ _ _, Below.refl _ _⟩
    case round =>
      obtain ⟨j, la, nn, lk, hj, rfl, rfl, hnn, hrow, hb⟩ := hrel
      have HNN := Lib.hid hnn
      have HRW := Lib.hid hrow
      have HB := Lib.hid hb
      have hgr : g < wr.heap.size := Nat.lt_of_lt_of_le hgl3 hb.size
      obtain ⟨⟨c0, c1, c2, c3, c4, c5, c6⟩, hfz⟩ := box7 ((hb.block g hgl3).trans HX3.out)
      obtain ⟨pa, pk, hpc⟩ := row_sliceV HC3.out.row
      rw [hpc] at c2
      have HPC := Lib.hid hpc
      clear hnn hrow hb hpc
      by_cases hjn : j < qs.length
      · have hrw := HC3.out.row
        obtain ⟨pb, cap', hx, -, hxl⟩ := World.ownsRow.form hrw (by omega)
        have hx2 := HPC.out.symm.trans hx
        obtain ⟨rfl, rfl⟩ : pa = some ⟨pb, 0, none⟩ ∧ pk = cap' := by simpa using hx2
        have hpb : pc.ownBlock = some pb := by rw [hx]; rfl
        obtain ⟨q, hqq⟩ : ∃ q, q = qs[j] := ⟨_, rfl⟩
        have hr := row4_at qs j hjn
        have hoq := othersQ 1 qs j hjn
        rw [← hqq] at hr hoq
        have g0 := World.ownsRow.cells hrw hpb (j * 4) _ hr.1
        have g1 := World.ownsRow.cells hrw hpb (j * 4 + 1) _ hr.2.1
        have g2 := World.ownsRow.cells hrw hpb (j * 4 + 2) _ hr.2.2.1
        have g3 := World.ownsRow.cells hrw hpb (j * 4 + 3) _ hr.2.2.2
        rw [Go.WideShapes.add_plain, Nat.zero_add, ← (bcell HB.out).1 _ _ hxl] at g0 g1 g2 g3
        have hpr : pb < wr.heap.size := Nat.lt_of_lt_of_le hxl HB.out.size
        have hjnI : (j : Int) < (qs.length : Int) := by omega
        clear hrw hx hx2 hpb hr hqq
        by_cases hf : q.p.file = 1
        · rw [if_pos hf, List.append_nil] at hoq
          rw [hf] at g0
          have HOQ := Lib.hid hoq
          clear hf hoq
          go_wp2_with fail
          exact ⟨⟨j + 1, la, nn, lk, hjn, rfl, rfl, by rw [HOQ.out]; exact HNN.out, by rw [HOQ.out]; exact HRW.out, HB.out⟩, by simp only [intOf]; omega⟩
        · rw [if_neg hf] at hoq
          have HOQ := Lib.hid hoq
          have hfI : ¬ (q.p.file : Int) = 1 := by omega
          have hfI2 : ¬ q.p.file = 1 := hf
          have HNL : Hid (nn + 1 ≤ 2000000000000) := by
            have h1 := HNN.out
            have h2 := List.length_filter_le (fun q : PV => q.p.file != 1) (qs.take j)
            rw [List.length_take] at h2
            have := HQL.out
            show _ ≤ _
            omega
          have HCC : Hid (∀ (o : Obj) j u, o = .cells #[.int .i64 (q.p.file : Int), .bool q.p.cut, .int .i64 (q.p.pos : Int), .slice q.A q.p.b.length q.c] 150 → q.cells4[j]? = some u → (wr.alloc o).cell? ⟨wr.heap.size, j, none⟩ = some u) := by
            intro o j u ho hj
            subst ho
            match j, hj with
            | 0, hj => (obtain rfl := Option.some.inj hj; exact World.cell?_alloc_at _ _ _ _ rfl)
            | 1, hj => (obtain rfl := Option.some.inj hj; exact World.cell?_alloc_at _ _ _ _ rfl)
            | 2, hj => (obtain rfl := Option.some.inj hj; exact World.cell?_alloc_at _ _ _ _ rfl)
            | 3, hj => (obtain rfl := Option.some.inj hj; exact World.cell?_alloc_at _ _ _ _ rfl)
          have hrows : Hid (row4 ((qs.take (j + 1)).filter fun q => q.p.file != 1) = row4 ((qs.take j).filter fun q => q.p.file != 1) ++ q.cells4) := by
            show _ = _
            rw [HOQ.out, row4_app]
            simp [row4]
          have hlen : Hid (((qs.take (j + 1)).filter fun q => q.p.file != 1).length = nn + 1) := by
            show _ = _
            rw [HOQ.out, List.length_append, ← HNN.out]
            rfl
          clear hf hoq
          go_wp2_with (at_builtin; refine wpList_piece4 rfl _ _ rfl w3.heap.size (.slice la nn lk) q nn (row4 ((qs.take j).filter fun q => q.p.file != 1)) _ rfl wr.heap.size rfl (HRW.out.alloc _) (Nat.le_trans HB.out.size (by simp)) (fun j u hj => HCC.out _ j u rfl hj) HNL.out ?_; intro p5 k5 w5 hrow5 hg5; have HR5 := Lib.hid hrow5; have HB5 := Lib.hid (below_tr HB.out ((alloc_below wr _).mono HB.out.size |>.trans (hg5.below (HRW.out.alloc _) (Nat.le_trans HB.out.size (by simp))))); clear hrow5 hg5; refine Hid.out ?_)
          refine Lib.hid ?_
          go_wp2_with fail
          exact ⟨⟨j + 1, p5, nn + 1, k5, hjn, rfl, rfl, hlen.out.symm, by rw [hrows.out]; exact HR5.out, HB5.out⟩, by simp only [intOf]; omega⟩
      · obtain rfl : j = qs.length := by omega
        have HTK : Hid (qs.take qs.length = qs) := List.take_length
        clear HN
        go_wp2_with fail
        go_ret
        rw [HX.out, if_neg (by simp)]
        have hrow := HRW.out
        have hnn := HNN.out
        rw [HTK.out] at hrow hnn
        have hB3 : B ≤ w3.heap.size := Nat.le_trans HC3.out.base (Nat.le_of_lt HC3.out.glt)
        have hnew : ∀ j, (Value.slice la nn lk).ownBlock = some j → w3.heap.size ≤ j := fun j hj => (hrow.lt j hj).1
        have hcr := (HC3.out.below HB.out).newrow (pc' := .slice la nn lk) (qs' := qs.filter fun q => q.p.file != 1) (by rw [← hnn]; exact row_low hrow hB3) (fun q hq => (List.mem_filter.1 hq).1) (fun j hj => ⟨fun hR => by have := HC3.out.lt j hR; have := hnew j hj; omega, fun e => by have := hnew j hj; omega⟩)
        refine ⟨rfl, .slice la nn lk, R1, ⟨upd a 1 a2, upd k 1 k2, qs.filter fun q => q.p.file != 1, ka, kc, ks, ⟨?_, ?_, H1.out.lit, settle_names 1 H1.out.names, H1.out.ok.settle 1⟩⟩, ?_⟩
        · have h9 := set10 ((HB.out.block g hgl3).trans HX3.out) 2 (.slice la nn lk)
          rw [HL.out] at h9
          exact h9
        · have h9 := hcr.set 2 (.slice la nn lk)
          rw [HL.out] at h9
          exact h9
        · have t9 := HT3.out.trans (RTurn.below HB.out)
          exact ⟨t9.fr.trans' (Fr.set _ _ _ _ (.inl rfl)) fun j _ h => h, fun j hj hd => by have h1 := hnew j hd; have h2 := HT3.out.fr.size; omega, t9.newR⟩
theorem rsync_any (f : Int) (w : World) (B g : Nat) (a : Nat → Option Addr) (k : Nat → Nat) (pc : Value) (qs : List PV) (ka : Option Addr) (kc : Nat) (ks : List Bool) (R : Nat → Prop) (s : St) (hd : RSt w B g a k pc qs ka kc ks R s) (hlim : s.pcs.length + 4194304 ≤ 1000000000000) :
    Calls Try.prog 60 #[.pointer (some ⟨g, 0, none⟩), .int .i64 f] w (RPost B g pc R (s.sync f) w) := by
  by_cases hm : s.may f = 0
  · obtain ⟨-, rfl | rfl⟩ := may_file hm
    · exact rsync_0 w B g a k pc qs ka kc ks R s hd hm hlim
    · exact rsync_1 w B g a k pc qs ka kc ks R s hd hm hlim
  · have HM := Lib.hid (rmay_any f w B g a k pc qs ka kc ks R s hd)
    have HD := Lib.hid hd
    unfold St.sync
    rw [if_pos hm]
    generalize s.may f = m at *
    clear hd
    go_enter Try.func60, Try.ntmps60
    go_wp2_with fail
    refine HM.out.mono ?_
    rintro e w' ⟨rfl, rfl⟩
    go_wp2_with fail
    go_ret
    exact ⟨rfl, pc, R, ⟨a, k, qs, ka, kc, ks, HD.out⟩, RTurn.refl _ _ _ _⟩
end Go.Proofs.Ytdbbghmldaekhaa
