/-
  Of disk: contract of settle: the pieces of a file are made durable.
-/
import Derived.Test.YtellmmgiabfacaaDChange
namespace Go.Proofs.Ytellmmgiabfacaa
open Go.ChangeShapes Go.WideShapes Go.ChangeAt Go.RowKit
set_option linter.unusedVariables false

theorem wpList_pend {w : World} {ops : Array Oper} {rest : List Oper} {o : Oper} {a : Act} {Q : Exit → Act → World → Prop} (hgd : o.guard = none) (s x : Operand)
    (ho : o.op = .call { callee := .builtin .append, args := #[s, x], argTypes := #[93, 93] }) (v u1 u2 : Value) (h1 : u1.oneCell' = true) (h2 : u2.oneCell' = true) (n : Nat) (xs : List Value) (hs : a.eval s = v) (q : Nat) (hx : a.eval x = .slice (some ⟨q, 0, none⟩) 1 1)
    (hown : w.ownsRow 0 134 2 v n xs) (hc1 : w.cell? ⟨q, 0, none⟩ = some u1) (hc2 : w.cell? ⟨q, 1, none⟩ = some u2) (hlim : n + 1 ≤ 8000000000000)
    (h : ∀ b m c w', w'.ownsRow 0 134 2 (.slice b m c) (n + 1) (xs ++ [u1, u2]) → Grw w w' v (.slice b m c) → wpList Try.prog ops Q rest (a.put o.dst (.slice b m c)) w') : wpList Try.prog ops Q (o :: rest) a w := by
  obtain ⟨i0, hi, hz0, hz1, hz2⟩ := info_parts pendInfo
  refine wpList_append_lies _ hgd s x 93 ho 0 134 i0 (.agg #[.int .i64 0, .nilFunc]) 2 16 Try.underlying93 hi hz0 hz1 hz2 rfl (by decide) v _ _ hs hown ⟨q, 0, none⟩ 1 1 [u1, u2] hx rfl (fun j y hj => by
    match j, hj with
    | 0, hj => simp at hj; subst hj; simpa [Addr.add] using hc1
    | 1, hj => simp at hj; subst hj; simpa [Addr.add] using hc2) (fun y hy => by simp at hy; rcases hy with rfl | rfl <;> assumption) (by decide) (by unfold maxLen; omega) (by omega) (Nat.zero_le _) _ rfl ?_
  intro g cap w1 hown1 hgrow hat hlt
  exact h _ _ _ w1 hown1 (Grw.lies hgrow hat)

theorem store_meth (u : Value) (a : Addr) (w : World) (m : Mode) : (store a (.func (.method "colonnade/disk.apply") #[u] #[]) m).run Try.prog w = stored Try.prog w a (.func (.method "colonnade/disk.apply") #[u] #[]) m := run_store Try.prog w a _ m rfl
/-- A row of pieces of the call's own, apart from all that a disk reads. -/
structure Left (w : World) (g : Nat) (v : Nat → Value) (pc : Value) (qs : List PV) (kp x : Value) (ls : List PV) : Prop where
  row : w.ownsRow 0 134 2 x ls.length (rowOf ls)
  apart : ∀ k, x.ownBlock = some k → ¬ DR g v pc qs kp k
theorem Left.push {w w' : World} {g : Nat} {v : Nat → Value} {pc : Value} {qs : List PV} {kp x x' : Value} {ls : List PV} (h : Left w g v pc qs kp x ls) (hl : ∀ k, DR g v pc qs kp k → k < w.heap.size) (q : PV) (hrow : w'.ownsRow 0 134 2 x' (ls.length + 1) (rowOf ls ++ q.cells)) (hg : Grw w w' x x') : Left w' g v pc qs kp x' (ls ++ [q]) := by
  refine ⟨?_, fun k hk hd => ?_⟩
  · have h1 : rowOf ls ++ q.cells = rowOf (ls ++ [q]) := by rw [rowOf_app]; simp [rowOf]
    rw [h1] at hrow
    simpa using hrow
  · rcases hg.at_ with e | e
    · exact h.apart k (e ▸ hk) hd
    · have h1 := e k hk
      have h2 := hl k hd
      omega
theorem Core.left {w w' : World} {g : Nat} {v : Nat → Value} {ct : Nat → List UInt8} {pc : Value} {qs : List PV} {kp : Value} {keep : List Bool} {x x' : Value} {ls : List PV} (h : Core w g v ct pc qs kp keep) (hx : Left w g v pc qs kp x ls) (hg : Grw w w' x x') : Core w' g v ct pc qs kp keep :=
  h.same hg.by_.size fun k hk _ hd => hg.old hk fun e => hx.apart k e hd
/-- The row of pieces is this one from now on. -/
theorem Core.newrow {w : World} {g : Nat} {v : Nat → Value} {ct : Nat → List UInt8} {pc : Value} {qs : List PV} {kp : Value} {keep : List Bool} {x : Value} {ls : List PV} (h : Core w g v ct pc qs kp keep) (hx : Left w g v pc qs kp x ls) (hs : ∀ q ∈ ls, q ∈ qs) : Core w g v ct x ls kp keep :=
  ⟨h.own, h.dj, hx.row, fun q hq => by
    obtain ⟨h1, h2⟩ := h.reads q (hs q hq)
    exact ⟨h1, fun a ha => ⟨(h2 a ha).1, (h2 a ha).2.1, fun e => hx.apart _ e (.inr (.inr ⟨q, hs q hq, a, ha, rfl⟩)), (h2 a ha).2.2.2⟩⟩,
    h.keep, h.dgv, fun e => hx.apart _ e (.inl (.inl rfl)), h.dgk, fun i hi k hk hk' => hx.apart k hk (.inl (.inr (.inr ⟨i, hi, hk'⟩))), fun k hk hk' => hx.apart k hk' (.inr (.inl hk)), h.dkv⟩
/-- One of the four has grown; the row of the call's own stays apart. -/
theorem Left.upd {w w' : World} {g : Nat} {v : Nat → Value} {pc : Value} {qs : List PV} {kp x y : Value} {ls : List PV} {i : Nat} (hi : i < 4) (h : Left w g v pc qs kp x ls) (hg : Grw w w' (v i) y) : Left w' g (upd v i y) pc qs kp x ls := by
  refine ⟨ownsRow_same h.row fun k hk e => hg.old hk fun e' => h.apart k e (.inl (.inr (.inr ⟨i, hi, e'⟩))), fun k hk hd => ?_⟩
  have hkl := (h.row.lt k hk).2
  refine h.apart k hk ?_
  rcases hd with (e | e | ⟨j, hj, e⟩) | e
  · exact .inl (.inl e)
  · exact .inl (.inr (.inl e))
  · by_cases hji : j = i
    · subst hji
      rw [upd_same] at e
      rcases hg.at_ with e' | e'
      · exact .inl (.inr (.inr ⟨j, hj, e' ▸ e⟩))
      · have := e' k e; omega
    · rw [upd_ne _ _ hji] at e
      exact .inl (.inr (.inr ⟨j, hj, e⟩))
  · exact .inr e
theorem Left.same {w w' : World} {g : Nat} {v : Nat → Value} {pc : Value} {qs : List PV} {kp x : Value} {ls : List PV} (h : Left w g v pc qs kp x ls) (hb : ∀ k, k < w.heap.size → x.ownBlock = some k → w'.heap[k]? = w.heap[k]?) : Left w' g v pc qs kp x ls := ⟨ownsRow_same h.row hb, h.apart⟩
theorem Turn.left {w wr w2 : World} {g : Nat} {v v1 : Nat → Value} {pc pc1 x x' : Value} (h : Turn w wr g v pc v1 pc1) (hg : Grw wr w2 x x') (hx : ∀ k, k < w.heap.size → x.ownBlock ≠ some k) : Turn w w2 g v pc v1 pc1 := by
  refine ⟨⟨hg.by_.os.trans h.fr.os, hg.by_.tape.trans h.fr.tape, hg.by_.output.trans h.fr.output, Nat.le_trans h.fr.size hg.by_.size, fun k hk hn => ?_⟩, h.new⟩
  rw [hg.old (Nat.lt_of_lt_of_le hk h.fr.size) (hx k hk)]
  exact h.fr.block k hk hn
theorem Turn.newrow {w w' : World} {g : Nat} {v v1 : Nat → Value} {pc pc1 x : Value} (h : Turn w w' g v pc v1 pc1) (hx : ∀ k, k < w.heap.size → x.ownBlock ≠ some k) : Turn w w' g v pc v1 x := by
  refine ⟨h.fr, fun k hk hd => ?_⟩
  rcases hd with e | e | e
  · exact .inl e
  · exact absurd e (hx k hk)
  · exact h.new k hk (.inr (.inr e))
theorem upd_upd {α : Type} (v : Nat → α) (i : Nat) (a b : α) : upd (upd v i a) i b = upd v i b := by
  funext j
  unfold upd
  split <;> rfl
theorem settle_ct (s : St) (f : Nat) : upd s.ct (2 * f + 1) (foldF f s.pcs (s.sure f)) = (s.settle f).ct := by
  funext j
  have h1 : (2 * f + 1) % 2 = 1 := by omega
  have h2 : (2 * f + 1) / 2 = f := by omega
  by_cases hj : j = 2 * f + 1
  · subst hj
    rw [upd_same]
    unfold St.ct
    rw [if_neg (by omega), h2]
    simp [St.settle, St.now]
  · rw [upd_ne _ _ hj]
    unfold St.ct
    by_cases hj2 : j % 2 = 0
    · rw [if_pos hj2, if_pos hj2, St.settle_now]
    · rw [if_neg hj2, if_neg hj2]
      unfold St.settle
      simp only
      rw [if_neg (by omega)]
theorem settle_names {s : St} {qs : List PV} (f : Nat) (h : s.pcs = qs.map PV.p) : (s.settle f).pcs = (qs.filter fun q => q.p.file != f).map PV.p := by
  show others f s.pcs = _
  unfold others
  rw [h, List.filter_map]
  rfl
theorem othersQ (f : Nat) (qs : List PV) (j : Nat) (h : j < qs.length) : (qs.take (j + 1)).filter (fun q => q.p.file != f) = (qs.take j).filter (fun q => q.p.file != f) ++ (if qs[j].p.file = f then [] else [qs[j]]) := by
  rw [List.take_succ_eq_append_getElem h, List.filter_append]
  congr 1
  by_cases e : qs[j].p.file = f <;> simp [e]

set_option maxHeartbeats 4000000 in
set_option maxRecDepth 100000 in
theorem settle_0 (g : Nat) (w : World) (v : Nat → Value) (pc : Value) (qs : List PV) (kp : Value) (s : St) (hd : DSt w g v pc qs kp s) (hlim : qs.length ≤ 7000000000000) :
    Calls Try.prog 119 #[.pointer (some ⟨g, 0, none⟩), .int .i64 0] w fun e w' => e = .returned (.tuple #[]) ∧ ∃ v' pc', DSt w' g v' pc' (qs.filter fun q => q.p.file != 0) kp (s.settle 0) ∧ Turn w w' g v pc v' pc' := by
  have HD := Lib.hid hd
  have hgl : g < w.heap.size := (Array.getElem?_eq_some_iff.1 hd.box).1
  obtain ⟨⟨c0, c1, c2, c3, c4, c5, c6, c7, c8, c9⟩, hfz⟩ := box10 hd.box
  obtain ⟨apc, kpc, hpc, -⟩ := row_slice hd.core.row
  rw [hpc] at c9
  have HPC := Lib.hid hpc
  have hlimI : (qs.length : Int) ≤ 7000000000000 := by omega
  clear hd hpc
  go_enter Try.func119, Try.ntmps119
  go_wp2_with fail
  clear c0 c1 c2 c3 c4 c5 c6 c7 c8 c9 hfz
  go_loopw [4, 12] (fun x idx wr => ∃ (j : Nat) (v' : Nat → Value), j ≤ qs.length ∧ idx = .int .i64 (j : Int) ∧ wr.heap[g]? = some (.cells (boxOf s v' pc kp) 95 (0, 0)) ∧ Core wr g v' (upd s.ct 1 (foldF 0 ((qs.take j).map PV.p) (s.sure 0))) pc qs kp s.keep ∧ Left wr g v' pc qs kp x ((qs.take j).filter fun q => q.p.file != 0) ∧ Turn w wr g v pc v' pc ∧ ∀ k, k < w.heap.size → x.ownBlock ≠ some k) (fun _ idx _ => qs.length - (intOf idx).toNat)
  case atStart =>
    refine ⟨0, v, by omega, rfl, HD.out.box, ?_, ⟨World.ownsRow_nil _ _ _ _, fun k hk => by simp [Value.ownBlock] at hk⟩, Turn.refl _ _ _ _, fun k _ => by simp [Value.ownBlock]⟩
    have : upd s.ct 1 (foldF 0 ((qs.take 0).map PV.p) (s.sure 0)) = s.ct := by
      funext j
      unfold upd
      split
      · next e => subst e; rfl
      · rfl
    rw [this]
    exact HD.out.core
  case round =>
    obtain ⟨j, v1, hj, rfl, hbox1, hcore1, hleft1, ht1, hnew1⟩ := hrel
    have HB1 := Lib.hid hbox1
    have HC1 := Lib.hid hcore1
    have HL1 := Lib.hid hleft1
    have HT1 := Lib.hid ht1
    have HW1 := Lib.hid hnew1
    by_cases hjn : j < qs.length
    · obtain ⟨pb, cap', hx, -, hxl⟩ := World.ownsRow.form hcore1.row (by omega)
      have hx2 := HPC.out.symm.trans hx
      obtain ⟨rfl, rfl⟩ : apc = some ⟨pb, 0, none⟩ ∧ kpc = cap' := by simpa using hx2
      have hgr : g < wr.heap.size := (Array.getElem?_eq_some_iff.1 hbox1).1
      obtain ⟨q, hqq⟩ : ∃ q, q = qs[j] := ⟨_, rfl⟩
      have hpb : pc.ownBlock = some pb := by rw [hx]; rfl
      have hr := rowOf_at qs j hjn
      have hcell1 := World.ownsRow.cells hcore1.row hpb (j * 2) _ hr.1
      have hcell2 := World.ownsRow.cells hcore1.row hpb (j * 2 + 1) _ hr.2
      rw [Go.WideShapes.add_plain, Nat.zero_add, ← hqq] at hcell1 hcell2
      have HQQ := Lib.hid hqq
      have hqm : q ∈ qs := by rw [hqq]; exact List.getElem_mem _
      obtain ⟨⟨c0, c1, c2, c3, c4, c5, c6, c7, c8, c9⟩, hfz⟩ := box10 hbox1
      have hfn : q.func = .func (.method "colonnade/disk.apply") #[q.iface] #[] := rfl
      rw [hfn] at hcell2
      have HLM := Lib.hid hlim
      have hstF := store_meth
      clear hbox1 hcore1 hleft1 ht1 hnew1 hx hx2 hpb hr hqq hfn hlim
      by_cases hqf : q.p.file = 0
      · rw [hqf] at hcell1
        have HQF := Lib.hid hqf
        have HQM := Lib.hid hqm
        have HPO := Lib.hid (HD.out.ok.pcs q.p (by rw [HD.out.names]; exact List.mem_map_of_mem hqm))
        have HLN := Lib.hid (foldF_len (f := 0) (ps := (qs.take j).map PV.p) (fun p hp => HD.out.ok.pcs p (by rw [HD.out.names]; obtain ⟨y, hy, rfl⟩ := List.mem_map.1 hp; exact List.mem_map_of_mem (List.mem_of_mem_take hy))) (HD.out.ok.sure 0))
        clear hqf hqm
        cases hknd : q.p.cut with
        | true =>
          have hqi : q.iface = .iface 195 (.agg #[.int .i64 q.p.pos]) := by unfold PV.iface; rw [hknd]; rfl
          rw [hqi] at hcell2
          have hnil := nil_cut
          have HAP := Lib.hid (fun W hW => cut_at (w := wr) (W := W) q.p.pos (HC1.out.own 1 (by omega)) hW)
          clear hqi
          go_wp2_with fail
          go_region_with (go_at_call 173; refine (HAP.out _ (by first | exact alloc_below wr _ | exact (alloc_below wr _).drew)).mono ?_; rintro e w4 ⟨a4, n4, k4, rfl, hx4, hg4⟩; have hbx4 := Lib.hid (grw_box hg4 (Below.refl _ _) HB1.out (HC1.out.dgv 1 (by omega))); obtain ⟨⟨c40, c41, c42, c43, c44, c45, c46, c47, c48, c49⟩, hfz4⟩ := box10 hbx4.out; have HX4 := Lib.hid hx4; have HG4 := Lib.hid hg4; clear hx4 hg4)
          all_goals
            have hap : (upd s.ct 1 (foldF 0 ((qs.take (j + 1)).map PV.p) (s.sure 0))) = upd (upd s.ct 1 (foldF 0 ((qs.take j).map PV.p) (s.sure 0))) 1 (q.p.ap (foldF 0 ((qs.take j).map PV.p) (s.sure 0))) := by
              rw [upd_upd, List.take_succ_eq_append_getElem hjn, List.map_append, foldF_app]
              simp only [List.map_cons, List.map_nil, foldF_one]
              rw [← HQQ.out, if_pos HQF.out]
            have hfil : (qs.take (j + 1)).filter (fun q => q.p.file != 0) = (qs.take j).filter (fun q => q.p.file != 0) := by rw [othersQ 0 qs j hjn, ← HQQ.out, if_pos HQF.out, List.append_nil]
            have hpa : q.p.ap (foldF 0 ((qs.take j).map PV.p) (s.sure 0)) = List.take q.p.pos (foldF 0 ((qs.take j).map PV.p) (s.sure 0)) := by unfold Pc.ap; rw [hknd]; rfl
            have hcc := HC1.out.upd hgr (by omega) HX4.out HG4.out
            first | rw [upd_same, ← hpa, ← hap] at hcc | rw [← hpa, ← hap] at hcc
            have HEND : Hid (∃ v2, (w4.setCell ⟨g, 6, none⟩ (.slice a4 n4 k4)).heap[g]? = some (.cells (boxOf s v2 pc kp) 95 (0, 0)) ∧ Core (w4.setCell ⟨g, 6, none⟩ (.slice a4 n4 k4)) g v2 (upd s.ct 1 (foldF 0 ((qs.take (j + 1)).map PV.p) (s.sure 0))) pc qs kp s.keep ∧ Left (w4.setCell ⟨g, 6, none⟩ (.slice a4 n4 k4)) g v2 pc qs kp u4 ((qs.take (j + 1)).filter fun q => q.p.file != 0) ∧ Turn w (w4.setCell ⟨g, 6, none⟩ (.slice a4 n4 k4)) g v pc v2 pc) := by
              rw [hfil]
              exact ⟨upd v1 1 (.slice a4 n4 k4), set10 hbx4.out 6 _, hcc.set 6 _, (HL1.out.upd (by omega) HG4.out).same (fun k hk e => Below.heap_setCell _ _ _ _ fun e' => HL1.out.apart k e (.inl (.inl e'))), (HT1.out.trans (Turn.upd (by omega) HG4.out)).trans (Turn.set _ _ _ _ _ _)⟩
            clear hap hfil hpa hcc c40 c41 c42 c43 c44 c45 c46 c47 c48 c49 hfz4 hbx4 HX4 HG4 c0 c1 c2 c3 c4 c5 c6 c7 c8 c9 hfz
            generalize w4.setCell ⟨g, 6, none⟩ (.slice a4 n4 k4) = w5 at *
          all_goals go_wp2_with fail
          all_goals go_roundw
          all_goals first
            | (simp only [intOf]; omega)
            | (obtain ⟨v2, h1, h2, h3, h4⟩ := HEND.out
               exact ⟨j + 1, v2, hjn, rfl, h1, h2, h3, h4, HW1.out⟩)
        | false =>
          have hqi : q.iface = .iface 175 (.agg #[.int .i64 q.p.pos, .slice q.A q.p.b.length q.c]) := by unfold PV.iface; rw [hknd]; rfl
          rw [hqi] at hcell2
          have hnil := nil_patch
          have HAP := Lib.hid (fun W hW => patch_at (w := wr) (W := W) q.p.pos q.A q.c q.p.b (HC1.out.reads q HQM.out).1 (HPO.out.full hknd) (fun x hx hv => ((HC1.out.reads q HQM.out).2 x hx).2.2.2 1 (by omega) hv) HPO.out.fits (HLN.out) (HC1.out.own 1 (by omega)) hW)
          clear hqi
          go_wp2_with fail
          go_region_with (go_at_call 172; refine (HAP.out _ (by first | exact alloc_below wr _ | exact (alloc_below wr _).drew)).mono ?_; rintro e w4 ⟨a4, n4, k4, rfl, hx4, hg4⟩; have hbx4 := Lib.hid (grw_box hg4 (Below.refl _ _) HB1.out (HC1.out.dgv 1 (by omega))); obtain ⟨⟨c40, c41, c42, c43, c44, c45, c46, c47, c48, c49⟩, hfz4⟩ := box10 hbx4.out; have HX4 := Lib.hid hx4; have HG4 := Lib.hid hg4; clear hx4 hg4)
          all_goals
            have hap : (upd s.ct 1 (foldF 0 ((qs.take (j + 1)).map PV.p) (s.sure 0))) = upd (upd s.ct 1 (foldF 0 ((qs.take j).map PV.p) (s.sure 0))) 1 (q.p.ap (foldF 0 ((qs.take j).map PV.p) (s.sure 0))) := by
              rw [upd_upd, List.take_succ_eq_append_getElem hjn, List.map_append, foldF_app]
              simp only [List.map_cons, List.map_nil, foldF_one]
              rw [← HQQ.out, if_pos HQF.out]
            have hfil : (qs.take (j + 1)).filter (fun q => q.p.file != 0) = (qs.take j).filter (fun q => q.p.file != 0) := by rw [othersQ 0 qs j hjn, ← HQQ.out, if_pos HQF.out, List.append_nil]
            have hpa : q.p.ap (foldF 0 ((qs.take j).map PV.p) (s.sure 0)) = putAt q.p.pos q.p.b (foldF 0 ((qs.take j).map PV.p) (s.sure 0)) := by unfold Pc.ap; rw [hknd]; rfl
            have hcc := HC1.out.upd hgr (by omega) HX4.out HG4.out
            first | rw [upd_same, ← hpa, ← hap] at hcc | rw [← hpa, ← hap] at hcc
            have HEND : Hid (∃ v2, (w4.setCell ⟨g, 6, none⟩ (.slice a4 n4 k4)).heap[g]? = some (.cells (boxOf s v2 pc kp) 95 (0, 0)) ∧ Core (w4.setCell ⟨g, 6, none⟩ (.slice a4 n4 k4)) g v2 (upd s.ct 1 (foldF 0 ((qs.take (j + 1)).map PV.p) (s.sure 0))) pc qs kp s.keep ∧ Left (w4.setCell ⟨g, 6, none⟩ (.slice a4 n4 k4)) g v2 pc qs kp u4 ((qs.take (j + 1)).filter fun q => q.p.file != 0) ∧ Turn w (w4.setCell ⟨g, 6, none⟩ (.slice a4 n4 k4)) g v pc v2 pc) := by
              rw [hfil]
              exact ⟨upd v1 1 (.slice a4 n4 k4), set10 hbx4.out 6 _, hcc.set 6 _, (HL1.out.upd (by omega) HG4.out).same (fun k hk e => Below.heap_setCell _ _ _ _ fun e' => HL1.out.apart k e (.inl (.inl e'))), (HT1.out.trans (Turn.upd (by omega) HG4.out)).trans (Turn.set _ _ _ _ _ _)⟩
            clear hap hfil hpa hcc c40 c41 c42 c43 c44 c45 c46 c47 c48 c49 hfz4 hbx4 HX4 HG4 c0 c1 c2 c3 c4 c5 c6 c7 c8 c9 hfz
            generalize w4.setCell ⟨g, 6, none⟩ (.slice a4 n4 k4) = w5 at *
          all_goals go_wp2_with fail
          all_goals go_roundw
          all_goals first
            | (simp only [intOf]; omega)
            | (obtain ⟨v2, h1, h2, h3, h4⟩ := HEND.out
               exact ⟨j + 1, v2, hjn, rfl, h1, h2, h3, h4, HW1.out⟩)
      · obtain ⟨uf, huf⟩ : ∃ u : Nat, u = q.p.file := ⟨_, rfl⟩
        obtain ⟨ui, hui⟩ : ∃ u, u = q.iface := ⟨_, rfl⟩
        rw [← huf] at hcell1 hqf
        rw [← hui] at hcell2
        have HUF := Lib.hid huf
        have HUI := Lib.hid hui
        have HLX : Hid (wr.ownsRow 0 134 2 u4 ((qs.take j).filter fun q => q.p.file != 0).length (rowOf ((qs.take j).filter fun q => q.p.file != 0))) := HL1.out.row
        have hll : ((qs.take j).filter fun q => q.p.file != 0).length + 1 ≤ 8000000000000 := by
          have h1 := List.length_filter_le (fun q : PV => q.p.file != 0) (qs.take j)
          have h2 := HLM.out
          simp at h1
          omega
        have HLL := Lib.hid hll
        have hqfI : ¬ (uf : Int) = 0 := by omega
        clear hui huf hll
        go_wp2_with (at_builtin; refine wpList_pend rfl (.tmp 20) (.tmp 22) rfl u4 (.int .i64 uf) (.func (.method "colonnade/disk.apply") #[ui] #[]) rfl rfl ((qs.take j).filter fun q => q.p.file != 0).length _ rfl (wr.heap.size + 1) rfl ((HLX.out.alloc _).alloc _) (by simp) (by simp) HLL.out ?_; intro b2 m2 k2 w2 hrow2 hgrw2; have HROW2 := Lib.hid hrow2; have HGR2 := Lib.hid hgrw2; clear hrow2 hgrw2)
        have hG := Grw.of_below (alloc_below wr _) (Grw.of_below (alloc_below _ _) HGR2.out)
        have hqc : q.cells = [.int .i64 uf, .func (.method "colonnade/disk.apply") #[ui] #[]] := by unfold PV.cells PV.func; rw [← HUF.out, ← HUI.out]
        have hfil : (qs.take (j + 1)).filter (fun q => q.p.file != 0) = (qs.take j).filter (fun q => q.p.file != 0) ++ [q] := by rw [othersQ 0 qs j hjn, ← HQQ.out, if_neg (by rw [← HUF.out]; exact hqf)]
        refine ⟨⟨j + 1, v1, hjn, rfl, (hG.old hgr fun e => HL1.out.apart _ e (.inl (.inl rfl))).trans HB1.out, ?_, ?_, HT1.out.left hG HW1.out, fun k hk e => ?_⟩, by simp only [intOf]; omega⟩
        · have hfold : foldF 0 ((qs.take (j + 1)).map PV.p) (s.sure 0) = foldF 0 ((qs.take j).map PV.p) (s.sure 0) := by
            rw [List.take_succ_eq_append_getElem hjn, List.map_append, foldF_app]
            simp only [List.map_cons, List.map_nil, foldF_one]
            rw [if_neg (by rw [← HQQ.out, ← HUF.out]; exact hqf)]
          rw [hfold]
          exact HC1.out.left HL1.out hG
        · rw [hfil]
          exact HL1.out.push (HC1.out.lt hgr) q (by rw [hqc]; exact HROW2.out) hG
        · rcases hG.at_ with e' | e'
          · exact HW1.out k hk (e' ▸ e)
          · have h1 := e' k e
            have h2 := HT1.out.fr.size
            omega
    · have hjn' : j = qs.length := by omega
      subst hjn'
      obtain ⟨bx, cx, hux, -⟩ := row_slice HL1.out.row
      obtain ⟨nx, hnx⟩ : ∃ n, n = ((qs.take qs.length).filter fun q => q.p.file != 0).length := ⟨_, rfl⟩
      rw [← hnx] at hux
      subst hux
      have hfull : qs.take qs.length = qs := List.take_length
      rw [hfull] at HC1 HL1
      rw [← HD.out.names] at HC1
      have hcore2 := (HC1.out.newrow HL1.out fun q hq => (List.mem_filter.1 hq).1).set 9 (.slice bx nx cx)
      rw [settle_ct s 0] at hcore2
      have HH : Hid (∃ v' pc', DSt (wr.setCell ⟨g, 9, none⟩ (.slice bx nx cx)) g v' pc' (qs.filter fun q => q.p.file != 0) kp (s.settle 0) ∧ Turn w (wr.setCell ⟨g, 9, none⟩ (.slice bx nx cx)) g v pc v' pc') :=
        ⟨v1, _, ⟨set10 HB1.out 9 _, hcore2, settle_names 0 HD.out.names, HD.out.ok.settle 0⟩, (HT1.out.newrow HW1.out).trans (Turn.set _ _ _ _ _ _)⟩
      obtain ⟨⟨c0, c1, c2, c3, c4, c5, c6, c7, c8, c9⟩, hfz⟩ := box10 hbox1
      clear hcore2 hfull hnx HC1 HL1 HT1 HW1 hbox1 hcore1 hleft1 ht1 hnew1
      go_wp2_with fail
      first | go_end0 | skip
      exact ⟨rfl, HH.out⟩

set_option maxHeartbeats 4000000 in
set_option maxRecDepth 100000 in
theorem settle_1 (g : Nat) (w : World) (v : Nat → Value) (pc : Value) (qs : List PV) (kp : Value) (s : St) (hd : DSt w g v pc qs kp s) (hlim : qs.length ≤ 7000000000000) :
    Calls Try.prog 119 #[.pointer (some ⟨g, 0, none⟩), .int .i64 1] w fun e w' => e = .returned (.tuple #[]) ∧ ∃ v' pc', DSt w' g v' pc' (qs.filter fun q => q.p.file != 1) kp (s.settle 1) ∧ Turn w w' g v pc v' pc' := by
  have HD := Lib.hid hd
  have hgl : g < w.heap.size := (Array.getElem?_eq_some_iff.1 hd.box).1
  obtain ⟨⟨c0, c1, c2, c3, c4, c5, c6, c7, c8, c9⟩, hfz⟩ := box10 hd.box
  obtain ⟨apc, kpc, hpc, -⟩ := row_slice hd.core.row
  rw [hpc] at c9
  have HPC := Lib.hid hpc
  have hlimI : (qs.length : Int) ≤ 7000000000000 := by omega
  clear hd hpc
  go_enter Try.func119, Try.ntmps119
  go_wp2_with fail
  clear c0 c1 c2 c3 c4 c5 c6 c7 c8 c9 hfz
  go_loopw [4, 12] (fun x idx wr => ∃ (j : Nat) (v' : Nat → Value), j ≤ qs.length ∧ idx = .int .i64 (j : Int) ∧ wr.heap[g]? = some (.cells (boxOf s v' pc kp) 95 (0, 0)) ∧ Core wr g v' (upd s.ct 3 (foldF 1 ((qs.take j).map PV.p) (s.sure 1))) pc qs kp s.keep ∧ Left wr g v' pc qs kp x ((qs.take j).filter fun q => q.p.file != 1) ∧ Turn w wr g v pc v' pc ∧ ∀ k, k < w.heap.size → x.ownBlock ≠ some k) (fun _ idx _ => qs.length - (intOf idx).toNat)
  case atStart =>
    refine ⟨0, v, by omega, rfl, HD.out.box, ?_, ⟨World.ownsRow_nil _ _ _ _, fun k hk => by simp [Value.ownBlock] at hk⟩, Turn.refl _ _ _ _, fun k _ => by simp [Value.ownBlock]⟩
    have : upd s.ct 3 (foldF 1 ((qs.take 0).map PV.p) (s.sure 1)) = s.ct := by
      funext j
      unfold upd
      split
      · next e => subst e; rfl
      · rfl
    rw [this]
    exact HD.out.core
  case round =>
    obtain ⟨j, v1, hj, rfl, hbox1, hcore1, hleft1, ht1, hnew1⟩ := hrel
    have HB1 := Lib.hid hbox1
    have HC1 := Lib.hid hcore1
    have HL1 := Lib.hid hleft1
    have HT1 := Lib.hid ht1
    have HW1 := Lib.hid hnew1
    by_cases hjn : j < qs.length
    · obtain ⟨pb, cap', hx, -, hxl⟩ := World.ownsRow.form hcore1.row (by omega)
      have hx2 := HPC.out.symm.trans hx
      obtain ⟨rfl, rfl⟩ : apc = some ⟨pb, 0, none⟩ ∧ kpc = cap' := by simpa using hx2
      have hgr : g < wr.heap.size := (Array.getElem?_eq_some_iff.1 hbox1).1
      obtain ⟨q, hqq⟩ : ∃ q, q = qs[j] := ⟨_, rfl⟩
      have hpb : pc.ownBlock = some pb := by rw [hx]; rfl
      have hr := rowOf_at qs j hjn
      have hcell1 := World.ownsRow.cells hcore1.row hpb (j * 2) _ hr.1
      have hcell2 := World.ownsRow.cells hcore1.row hpb (j * 2 + 1) _ hr.2
      rw [Go.WideShapes.add_plain, Nat.zero_add, ← hqq] at hcell1 hcell2
      have HQQ := Lib.hid hqq
      have hqm : q ∈ qs := by rw [hqq]; exact List.getElem_mem _
      obtain ⟨⟨c0, c1, c2, c3, c4, c5, c6, c7, c8, c9⟩, hfz⟩ := box10 hbox1
      have hfn : q.func = .func (.method "colonnade/disk.apply") #[q.iface] #[] := rfl
      rw [hfn] at hcell2
      have HLM := Lib.hid hlim
      have hstF := store_meth
      clear hbox1 hcore1 hleft1 ht1 hnew1 hx hx2 hpb hr hqq hfn hlim
      by_cases hqf : q.p.file = 1
      · rw [hqf] at hcell1
        have HQF := Lib.hid hqf
        have HQM := Lib.hid hqm
        have HPO := Lib.hid (HD.out.ok.pcs q.p (by rw [HD.out.names]; exact List.mem_map_of_mem hqm))
        have HLN := Lib.hid (foldF_len (f := 1) (ps := (qs.take j).map PV.p) (fun p hp => HD.out.ok.pcs p (by rw [HD.out.names]; obtain ⟨y, hy, rfl⟩ := List.mem_map.1 hp; exact List.mem_map_of_mem (List.mem_of_mem_take hy))) (HD.out.ok.sure 1))
        clear hqf hqm
        cases hknd : q.p.cut with
        | true =>
          have hqi : q.iface = .iface 195 (.agg #[.int .i64 q.p.pos]) := by unfold PV.iface; rw [hknd]; rfl
          rw [hqi] at hcell2
          have hnil := nil_cut
          have HAP := Lib.hid (fun W hW => cut_at (w := wr) (W := W) q.p.pos (HC1.out.own 3 (by omega)) hW)
          clear hqi
          go_wp2_with fail
          go_region_with (go_at_call 173; refine (HAP.out _ (by first | exact alloc_below wr _ | exact (alloc_below wr _).drew)).mono ?_; rintro e w4 ⟨a4, n4, k4, rfl, hx4, hg4⟩; have hbx4 := Lib.hid (grw_box hg4 (Below.refl _ _) HB1.out (HC1.out.dgv 3 (by omega))); obtain ⟨⟨c40, c41, c42, c43, c44, c45, c46, c47, c48, c49⟩, hfz4⟩ := box10 hbx4.out; have HX4 := Lib.hid hx4; have HG4 := Lib.hid hg4; clear hx4 hg4)
          all_goals
            have hap : (upd s.ct 3 (foldF 1 ((qs.take (j + 1)).map PV.p) (s.sure 1))) = upd (upd s.ct 3 (foldF 1 ((qs.take j).map PV.p) (s.sure 1))) 3 (q.p.ap (foldF 1 ((qs.take j).map PV.p) (s.sure 1))) := by
              rw [upd_upd, List.take_succ_eq_append_getElem hjn, List.map_append, foldF_app]
              simp only [List.map_cons, List.map_nil, foldF_one]
              rw [← HQQ.out, if_pos HQF.out]
            have hfil : (qs.take (j + 1)).filter (fun q => q.p.file != 1) = (qs.take j).filter (fun q => q.p.file != 1) := by rw [othersQ 1 qs j hjn, ← HQQ.out, if_pos HQF.out, List.append_nil]
            have hpa : q.p.ap (foldF 1 ((qs.take j).map PV.p) (s.sure 1)) = List.take q.p.pos (foldF 1 ((qs.take j).map PV.p) (s.sure 1)) := by unfold Pc.ap; rw [hknd]; rfl
            have hcc := HC1.out.upd hgr (by omega) HX4.out HG4.out
            first | rw [upd_same, ← hpa, ← hap] at hcc | rw [← hpa, ← hap] at hcc
            have HEND : Hid (∃ v2, (w4.setCell ⟨g, 8, none⟩ (.slice a4 n4 k4)).heap[g]? = some (.cells (boxOf s v2 pc kp) 95 (0, 0)) ∧ Core (w4.setCell ⟨g, 8, none⟩ (.slice a4 n4 k4)) g v2 (upd s.ct 3 (foldF 1 ((qs.take (j + 1)).map PV.p) (s.sure 1))) pc qs kp s.keep ∧ Left (w4.setCell ⟨g, 8, none⟩ (.slice a4 n4 k4)) g v2 pc qs kp u4 ((qs.take (j + 1)).filter fun q => q.p.file != 1) ∧ Turn w (w4.setCell ⟨g, 8, none⟩ (.slice a4 n4 k4)) g v pc v2 pc) := by
              rw [hfil]
              exact ⟨upd v1 3 (.slice a4 n4 k4), set10 hbx4.out 8 _, hcc.set 8 _, (HL1.out.upd (by omega) HG4.out).same (fun k hk e => Below.heap_setCell _ _ _ _ fun e' => HL1.out.apart k e (.inl (.inl e'))), (HT1.out.trans (Turn.upd (by omega) HG4.out)).trans (Turn.set _ _ _ _ _ _)⟩
            clear hap hfil hpa hcc c40 c41 c42 c43 c44 c45 c46 c47 c48 c49 hfz4 hbx4 HX4 HG4 c0 c1 c2 c3 c4 c5 c6 c7 c8 c9 hfz
            generalize w4.setCell ⟨g, 8, none⟩ (.slice a4 n4 k4) = w5 at *
          all_goals go_wp2_with fail
          all_goals go_roundw
          all_goals first
            | (simp only [intOf]; omega)
            | (obtain ⟨v2, h1, h2, h3, h4⟩ := HEND.out
               exact ⟨j + 1, v2, hjn, rfl, h1, h2, h3, h4, HW1.out⟩)
        | false =>
          have hqi : q.iface = .iface 175 (.agg #[.int .i64 q.p.pos, .slice q.A q.p.b.length q.c]) := by unfold PV.iface; rw [hknd]; rfl
          rw [hqi] at hcell2
          have hnil := nil_patch
          have HAP := Lib.hid (fun W hW => patch_at (w := wr) (W := W) q.p.pos q.A q.c q.p.b (HC1.out.reads q HQM.out).1 (HPO.out.full hknd) (fun x hx hv => ((HC1.out.reads q HQM.out).2 x hx).2.2.2 3 (by omega) hv) HPO.out.fits (HLN.out) (HC1.out.own 3 (by omega)) hW)
          clear hqi
          go_wp2_with fail
          go_region_with (go_at_call 172; refine (HAP.out _ (by first | exact alloc_below wr _ | exact (alloc_below wr _).drew)).mono ?_; rintro e w4 ⟨a4, n4, k4, rfl, hx4, hg4⟩; have hbx4 := Lib.hid (grw_box hg4 (Below.refl _ _) HB1.out (HC1.out.dgv 3 (by omega))); obtain ⟨⟨c40, c41, c42, c43, c44, c45, c46, c47, c48, c49⟩, hfz4⟩ := box10 hbx4.out; have HX4 := Lib.hid hx4; have HG4 := Lib.hid hg4; clear hx4 hg4)
          all_goals
            have hap : (upd s.ct 3 (foldF 1 ((qs.take (j + 1)).map PV.p) (s.sure 1))) = upd (upd s.ct 3 (foldF 1 ((qs.take j).map PV.p) (s.sure 1))) 3 (q.p.ap (foldF 1 ((qs.take j).map PV.p) (s.sure 1))) := by
              rw [upd_upd, List.take_succ_eq_append_getElem hjn, List.map_append, foldF_app]
              simp only [List.map_cons, List.map_nil, foldF_one]
              rw [← HQQ.out, if_pos HQF.out]
            have hfil : (qs.take (j + 1)).filter (fun q => q.p.file != 1) = (qs.take j).filter (fun q => q.p.file != 1) := by rw [othersQ 1 qs j hjn, ← HQQ.out, if_pos HQF.out, List.append_nil]
            have hpa : q.p.ap (foldF 1 ((qs.take j).map PV.p) (s.sure 1)) = putAt q.p.pos q.p.b (foldF 1 ((qs.take j).map PV.p) (s.sure 1)) := by unfold Pc.ap; rw [hknd]; rfl
            have hcc := HC1.out.upd hgr (by omega) HX4.out HG4.out
            first | rw [upd_same, ← hpa, ← hap] at hcc | rw [← hpa, ← hap] at hcc
            have HEND : Hid (∃ v2, (w4.setCell ⟨g, 8, none⟩ (.slice a4 n4 k4)).heap[g]? = some (.cells (boxOf s v2 pc kp) 95 (0, 0)) ∧ Core (w4.setCell ⟨g, 8, none⟩ (.slice a4 n4 k4)) g v2 (upd s.ct 3 (foldF 1 ((qs.take (j + 1)).map PV.p) (s.sure 1))) pc qs kp s.keep ∧ Left (w4.setCell ⟨g, 8, none⟩ (.slice a4 n4 k4)) g v2 pc qs kp u4 ((qs.take (j + 1)).filter fun q => q.p.file != 1) ∧ Turn w (w4.setCell ⟨g, 8, none⟩ (.slice a4 n4 k4)) g v pc v2 pc) := by
              rw [hfil]
              exact ⟨upd v1 3 (.slice a4 n4 k4), set10 hbx4.out 8 _, hcc.set 8 _, (HL1.out.upd (by omega) HG4.out).same (fun k hk e => Below.heap_setCell _ _ _ _ fun e' => HL1.out.apart k e (.inl (.inl e'))), (HT1.out.trans (Turn.upd (by omega) HG4.out)).trans (Turn.set _ _ _ _ _ _)⟩
            clear hap hfil hpa hcc c40 c41 c42 c43 c44 c45 c46 c47 c48 c49 hfz4 hbx4 HX4 HG4 c0 c1 c2 c3 c4 c5 c6 c7 c8 c9 hfz
            generalize w4.setCell ⟨g, 8, none⟩ (.slice a4 n4 k4) = w5 at *
          all_goals go_wp2_with fail
          all_goals go_roundw
          all_goals first
            | (simp only [intOf]; omega)
            | (obtain ⟨v2, h1, h2, h3, h4⟩ := HEND.out
               exact ⟨j + 1, v2, hjn, rfl, h1, h2, h3, h4, HW1.out⟩)
      · obtain ⟨uf, huf⟩ : ∃ u : Nat, u = q.p.file := ⟨_, rfl⟩
        obtain ⟨ui, hui⟩ : ∃ u, u = q.iface := ⟨_, rfl⟩
        rw [← huf] at hcell1 hqf
        rw [← hui] at hcell2
        have HUF := Lib.hid huf
        have HUI := Lib.hid hui
        have HLX : Hid (wr.ownsRow 0 134 2 u4 ((qs.take j).filter fun q => q.p.file != 1).length (rowOf ((qs.take j).filter fun q => q.p.file != 1))) := HL1.out.row
        have hll : ((qs.take j).filter fun q => q.p.file != 1).length + 1 ≤ 8000000000000 := by
          have h1 := List.length_filter_le (fun q : PV => q.p.file != 1) (qs.take j)
          have h2 := HLM.out
          simp at h1
          omega
        have HLL := Lib.hid hll
        have hqfI : ¬ (uf : Int) = 1 := by omega
        clear hui huf hll
        go_wp2_with (at_builtin; refine wpList_pend rfl (.tmp 20) (.tmp 22) rfl u4 (.int .i64 uf) (.func (.method "colonnade/disk.apply") #[ui] #[]) rfl rfl ((qs.take j).filter fun q => q.p.file != 1).length _ rfl (wr.heap.size + 1) rfl ((HLX.out.alloc _).alloc _) (by simp) (by simp) HLL.out ?_; intro b2 m2 k2 w2 hrow2 hgrw2; have HROW2 := Lib.hid hrow2; have HGR2 := Lib.hid hgrw2; clear hrow2 hgrw2)
        have hG := Grw.of_below (alloc_below wr _) (Grw.of_below (alloc_below _ _) HGR2.out)
        have hqc : q.cells = [.int .i64 uf, .func (.method "colonnade/disk.apply") #[ui] #[]] := by unfold PV.cells PV.func; rw [← HUF.out, ← HUI.out]
        have hfil : (qs.take (j + 1)).filter (fun q => q.p.file != 1) = (qs.take j).filter (fun q => q.p.file != 1) ++ [q] := by rw [othersQ 1 qs j hjn, ← HQQ.out, if_neg (by rw [← HUF.out]; exact hqf)]
        refine ⟨⟨j + 1, v1, hjn, rfl, (hG.old hgr fun e => HL1.out.apart _ e (.inl (.inl rfl))).trans HB1.out, ?_, ?_, HT1.out.left hG HW1.out, fun k hk e => ?_⟩, by simp only [intOf]; omega⟩
        · have hfold : foldF 1 ((qs.take (j + 1)).map PV.p) (s.sure 1) = foldF 1 ((qs.take j).map PV.p) (s.sure 1) := by
            rw [List.take_succ_eq_append_getElem hjn, List.map_append, foldF_app]
            simp only [List.map_cons, List.map_nil, foldF_one]
            rw [if_neg (by rw [← HQQ.out, ← HUF.out]; exact hqf)]
          rw [hfold]
          exact HC1.out.left HL1.out hG
        · rw [hfil]
          exact HL1.out.push (HC1.out.lt hgr) q (by rw [hqc]; exact HROW2.out) hG
        · rcases hG.at_ with e' | e'
          · exact HW1.out k hk (e' ▸ e)
          · have h1 := e' k e
            have h2 := HT1.out.fr.size
            omega
    · have hjn' : j = qs.length := by omega
      subst hjn'
      obtain ⟨bx, cx, hux, -⟩ := row_slice HL1.out.row
      obtain ⟨nx, hnx⟩ : ∃ n, n = ((qs.take qs.length).filter fun q => q.p.file != 1).length := ⟨_, rfl⟩
      rw [← hnx] at hux
      subst hux
      have hfull : qs.take qs.length = qs := List.take_length
      rw [hfull] at HC1 HL1
      rw [← HD.out.names] at HC1
      have hcore2 := (HC1.out.newrow HL1.out fun q hq => (List.mem_filter.1 hq).1).set 9 (.slice bx nx cx)
      rw [settle_ct s 1] at hcore2
      have HH : Hid (∃ v' pc', DSt (wr.setCell ⟨g, 9, none⟩ (.slice bx nx cx)) g v' pc' (qs.filter fun q => q.p.file != 1) kp (s.settle 1) ∧ Turn w (wr.setCell ⟨g, 9, none⟩ (.slice bx nx cx)) g v pc v' pc') :=
        ⟨v1, _, ⟨set10 HB1.out 9 _, hcore2, settle_names 1 HD.out.names, HD.out.ok.settle 1⟩, (HT1.out.newrow HW1.out).trans (Turn.set _ _ _ _ _ _)⟩
      obtain ⟨⟨c0, c1, c2, c3, c4, c5, c6, c7, c8, c9⟩, hfz⟩ := box10 hbox1
      clear hcore2 hfull hnx HC1 HL1 HT1 HW1 hbox1 hcore1 hleft1 ht1 hnew1
      go_wp2_with fail
      first | go_end0 | skip
      exact ⟨rfl, HH.out⟩

end Go.Proofs.Ytellmmgiabfacaa
