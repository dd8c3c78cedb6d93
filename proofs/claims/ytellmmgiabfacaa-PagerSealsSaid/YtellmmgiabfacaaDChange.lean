/-
  Of disk: contract of change: pieces are made.
-/
import Derived.Test.YtellmmgiabfacaaDNil
import Derived.Deep.RegionLaw
namespace Go.Proofs.Ytellmmgiabfacaa
open Go.ChangeShapes Go.WideShapes Go.ChangeAt Go.RowKit
set_option linter.unusedVariables false

theorem pendInfo : (Try.prog.info? 134).map (fun i => (i.zero, i.size, i.bytes)) = some (some (.agg #[.int .i64 0, .nilFunc]), 2, 16) := by kernel_rfl
/-- A pending piece is appended. -/
theorem step_pend {ops : Array Oper} {o : Oper} {a : Act} {K : Act → World → Prop} {Q : Exit → Act → World → Prop} {E : Prop} (hgd : o.guard = none) (s x : Operand)
    (ho : o.op = .call { callee := .builtin .append, args := #[s, x], argTypes := #[93, 93] }) (v u1 u2 : Value) (h1 : u1.oneCell' = true) (h2 : u2.oneCell' = true) (n : Nat) (xs : List Value) (w : World) (hs : a.eval s = v) (q : Nat) (hx : a.eval x = .slice (some ⟨q, 0, none⟩) 1 1)
    (hown : w.ownsRow 0 134 2 v n xs) (hc1 : w.cell? ⟨q, 0, none⟩ = some u1) (hc2 : w.cell? ⟨q, 1, none⟩ = some u2) (hlim : n + 1 ≤ 8000000000000)
    (h : ∀ v' w', w'.ownsRow 0 134 2 v' (n + 1) (xs ++ [u1, u2]) → Grw w w' v v' → K (a.put o.dst v') w') : if Region.wanted o (yielded ops a.tmps) = true then Oper.wp Try.prog o a w K Q else E := by
  obtain ⟨i0, hi, hz0, hz1, hz2⟩ := info_parts pendInfo
  refine step_append_lies _ hgd s x 93 ho 0 134 i0 (.agg #[.int .i64 0, .nilFunc]) 2 16 Try.underlying93 hi hz0 hz1 hz2 rfl (by decide) v _ _ hs hown ⟨q, 0, none⟩ 1 1 [u1, u2] hx rfl (fun j y hj => by
    match j, hj with
    | 0, hj => simp at hj; subst hj; simpa [Addr.add] using hc1
    | 1, hj => simp at hj; subst hj; simpa [Addr.add] using hc2) (fun y hy => by simp at hy; rcases hy with rfl | rfl <;> assumption) (by decide) (by unfold maxLen; omega) (by omega) (Nat.zero_le _) _ rfl ?_
  intro g cap w1 hown1 hgrow hat hlt
  exact h _ w1 hown1 (Grw.lies hgrow hat)

theorem grw_box {wr W w2 : World} {x y : Value} {g : Nat} {o : Obj} (h : Grw W w2 x y) (hb : Below wr.heap.size wr W) (hbox : wr.heap[g]? = some o) (hn : x.ownBlock ≠ some g) : w2.heap[g]? = some o := by
  have hg : g < wr.heap.size := (Array.getElem?_eq_some_iff.1 hbox).1
  rw [h.old (Nat.lt_of_lt_of_le hg hb.size) hn, hb.block g hg, hbox]
/-- What may have been written from one state of a disk to another. -/
structure Turn (w w' : World) (g : Nat) (v : Nat → Value) (pc : Value) (v' : Nat → Value) (pc' : Value) : Prop where
  fr : Fr (DF g v pc) w w'
  new : ∀ k, k < w.heap.size → DF g v' pc' k → DF g v pc k
theorem Turn.refl (w : World) (g : Nat) (v : Nat → Value) (pc : Value) : Turn w w g v pc v pc := ⟨.refl _ _, fun _ _ h => h⟩
theorem Turn.trans {w w1 w2 : World} {g : Nat} {v v1 v2 : Nat → Value} {pc pc1 pc2 : Value} (h : Turn w w1 g v pc v1 pc1) (k : Turn w1 w2 g v1 pc1 v2 pc2) : Turn w w2 g v pc v2 pc2 :=
  ⟨h.fr.trans' k.fr h.new, fun j hj hd => h.new j hj (k.new j (Nat.lt_of_lt_of_le hj h.fr.size) hd)⟩
theorem Turn.below {w w' : World} {g : Nat} {v : Nat → Value} {pc : Value} (h : Below w.heap.size w w') : Turn w w' g v pc v pc := ⟨.of_below h, fun _ _ h => h⟩
theorem Turn.set (w : World) (g i : Nat) (u : Value) (v : Nat → Value) (pc : Value) : Turn w (w.setCell ⟨g, i, none⟩ u) g v pc v pc := ⟨.set _ _ _ _ (.inl rfl), fun _ _ h => h⟩
theorem Turn.pieces {w w' : World} {g : Nat} {v : Nat → Value} {pc pc' : Value} (h : Grw w w' pc pc') : Turn w w' g v pc v pc' := by
  refine ⟨.of_grw h fun k hk => .inr (.inl hk), fun k hk hd => ?_⟩
  rcases hd with e | e | e
  · exact .inl e
  · rcases h.at_ with e' | e'
    · exact .inr (.inl (e' ▸ e))
    · have := e' k e; omega
  · exact .inr (.inr e)
theorem Turn.upd {w w' : World} {g : Nat} {v : Nat → Value} {pc : Value} {i : Nat} (hi : i < 4) {x : Value} (h : Grw w w' (v i) x) : Turn w w' g v pc (upd v i x) pc := by
  refine ⟨.of_grw h fun k hk => .inr (.inr ⟨i, hi, hk⟩), fun k hk hd => ?_⟩
  rcases hd with e | e | ⟨j, hj, e⟩
  · exact .inl e
  · exact .inr (.inl e)
  · by_cases hji : j = i
    · subst hji
      rw [upd_same] at e
      rcases h.at_ with e' | e'
      · exact .inr (.inr ⟨j, hj, e' ▸ e⟩)
      · have := e' k e; omega
    · rw [upd_ne _ _ hji] at e
      exact .inr (.inr ⟨j, hj, e⟩)

theorem cut_at {w W : World} {v : Value} {l : List UInt8} (n : Nat) (h : OwnB w 0 v l) (hW : Below w.heap.size w W) : Calls Try.prog 173 #[.agg #[.int .i64 n], v] W fun e w' => ∃ a m c, e = .returned (.slice a m c) ∧ OwnB w' 0 (.slice a m c) (l.take n) ∧ Grw w w' v (.slice a m c) :=
  (cut_apply n v l W (h.below hW)).mono fun e w' ⟨x, h1, h2, h3⟩ => by
    obtain ⟨a, c, rfl, -, -⟩ := h2.slice
    exact ⟨a, _, c, h1, h2, Grw.of_below hW h3⟩
theorem patch_at {w W : World} {v : Value} {l : List UInt8} (pos : Nat) (A : Option Addr) (c : Nat) (b : List UInt8) (hA : BRd w A b) (hb : 0 < b.length) (hd : Apart A v) (hlim : pos + b.length ≤ maxFile) (hl : l.length ≤ maxFile) (h : OwnB w 0 v l) (hW : Below w.heap.size w W) :
    Calls Try.prog 172 #[.agg #[.int .i64 pos, .slice A b.length c], v] W fun e w' => ∃ a m c, e = .returned (.slice a m c) ∧ OwnB w' 0 (.slice a m c) (putAt pos b l) ∧ Grw w w' v (.slice a m c) :=
  (patch_apply pos A c b v l W (h.below hW) (hA.below hW) hb hd hlim hl).mono fun e w' ⟨x, h1, h2, h3⟩ => by
    obtain ⟨a, c, rfl, -, -⟩ := h2.slice
    exact ⟨a, _, c, h1, h2, Grw.of_below hW h3⟩
/-- A piece has been appended and stored; the file is as it was. -/
theorem mid_step {wr w2 : World} {g : Nat} {v : Nat → Value} {pc pc2 : Value} {qs : List PV} {kp : Value} {s : St} (hd : DSt wr g v pc qs kp s) (q : PV) {n : Nat} (hn : n = qs.length + 1) (hrow : w2.ownsRow 0 134 2 pc2 n (rowOf qs ++ q.cells)) (hg : Grw wr w2 pc pc2)
    (hq : BRd wr q.A q.p.b ∧ ∀ a, q.A = some a → a.block < wr.heap.size ∧ ¬ DF g v pc a.block) :
    (w2.setCell ⟨g, 9, none⟩ pc2).heap[g]? = some (.cells (boxOf s v pc2 kp) 95 (0, 0)) ∧ Core (w2.setCell ⟨g, 9, none⟩ pc2) g v s.ct pc2 (qs ++ [q]) kp s.keep ∧ Turn wr (w2.setCell ⟨g, 9, none⟩ pc2) g v pc v pc2 := by
  have hgl : g < wr.heap.size := (Array.getElem?_eq_some_iff.1 hd.box).1
  refine ⟨set10 ((hg.old hgl hd.core.dgp).trans hd.box) 9 _, ?_, (Turn.pieces hg).trans (Turn.set _ _ _ _ _ _)⟩
  have h1 : rowOf qs ++ q.cells = rowOf (qs ++ [q]) := by rw [rowOf_app]; simp [rowOf]
  rw [h1, hn] at hrow
  refine (hd.core.pieces hgl (qs' := qs ++ [q]) (by simpa using hrow) hg fun y hy => ?_).set 9 _
  rcases List.mem_append.1 hy with hy | hy
  · exact .inl hy
  · simp at hy
    subst hy
    refine .inr ⟨hq.1, fun a ha => ?_⟩
    obtain ⟨h2, h3⟩ := hq.2 a ha
    exact ⟨h2, fun e => h3 (.inl e), fun e => h3 (.inr (.inl e)), fun i hi e => h3 (.inr (.inr ⟨i, hi, e⟩))⟩

/-- A piece has been stored in the file too. -/
theorem end_ct (s : St) (p : Pc) (f i : Nat) (hi : i = 2 * f) (hp : p.file = f) : (s.add [p]).ct = upd s.ct i (p.ap (s.ct i)) := by
  funext j
  have hnow : ∀ f', (s.add [p]).now f' = if p.file = f' then p.ap (s.now f') else s.now f' := fun f' => by
    unfold St.now St.add
    rw [foldF_app, foldF_one]
  subst hi
  unfold St.ct
  by_cases hj : j = 2 * f
  · subst hj
    have h1 : 2 * f % 2 = 0 := by omega
    have h2 : 2 * f / 2 = f := by omega
    simp [h1, h2, hnow, hp]
  · rw [upd_ne _ _ hj]
    by_cases h1 : j % 2 = 0
    · rw [if_pos h1, if_pos h1, hnow, if_neg (by omega)]
    · rw [if_neg h1, if_neg h1]
      rfl
theorem Lst.turn {w w' : World} {x : Value} {ls : List PV} {q0 g : Nat} {v v' : Nat → Value} {pc pc' : Value} (h : Lst w 0 x ls q0) (ht : Turn w w' g v pc v' pc') (hx : ∀ k, x.ownBlock = some k → ¬ DF g v pc k) (hq : ∀ q ∈ ls, ∀ a, q.A = some a → ¬ DF g v pc q0) : Lst w' 0 x ls q0 :=
  ⟨ownsRow_same h.row fun k hk e => ht.fr.block k hk (hx k e), fun q hm => ⟨(h.reads q hm).1.fr ht.fr fun a ha => by rw [(h.reads q hm).2 a ha]; exact hq q hm a ha, (h.reads q hm).2⟩⟩
theorem end_step {w3 w4 : World} {g : Nat} {v : Nat → Value} {pc : Value} {qs : List PV} {kp : Value} {s : St} (p : Pc) (f i : Nat) (hf : f < 2) (hi : i = 2 * f) (hp : p.file = f) (hok : p.Ok) (hs : s.Ok) (hnames : (s.add [p]).pcs = qs.map PV.p)
    (hbox : w3.heap[g]? = some (.cells (boxOf s v pc kp) 95 (0, 0))) (hcore : Core w3 g v s.ct pc qs kp s.keep) {x : Value} {l : List UInt8} (hx : OwnB w4 0 x l) (hl : l = p.ap (s.ct i)) (hg : Grw w3 w4 (v i) x) :
    DSt (w4.setCell ⟨g, 5 + i, none⟩ x) g (upd v i x) pc qs kp (s.add [p]) ∧ Turn w3 (w4.setCell ⟨g, 5 + i, none⟩ x) g v pc (upd v i x) pc := by
  have hi4 : i < 4 := by omega
  have hgl : g < w3.heap.size := (Array.getElem?_eq_some_iff.1 hbox).1
  refine ⟨⟨?_, ?_, hnames, hs.add fun y hy => by simp at hy; subst hy; exact hok⟩, (Turn.upd hi4 hg).trans (Turn.set _ _ _ _ _ _)⟩
  · have hb := set10 ((hg.old hgl (hcore.dgv i hi4)).trans hbox) (5 + i) x
    rw [hb]
    have : f = 0 ∨ f = 1 := by omega
    rcases this with rfl | rfl <;> subst hi <;> simp [boxOf, upd] <;> exact ⟨rfl, rfl, rfl⟩
  · have := (hcore.upd hgl hi4 hx hg).set (5 + i) x
    rw [hl, ← end_ct s p f i hi hp] at this
    exact this

set_option maxHeartbeats 4000000 in
set_option maxRecDepth 100000 in
theorem change_cut0 (g : Nat) (a : Option Addr) (n cap q0 : Nat) (ls : List PV) (w : World) (v : Nat → Value) (pc : Value) (qs : List PV) (kp : Value) (s : St) (hd : DSt w g v pc qs kp s) (hL : Lst w 0 (.slice a n cap) ls q0) (hn : n = ls.length)
    (hok : ∀ q ∈ ls, q.p.Ok ∧ q.p.file = 0 ∧ q.p.cut = true) (hxa : ∀ x, a = some x → ¬ DF g v pc x.block) (hq : ∀ q ∈ ls, ∀ x, q.A = some x → q0 < w.heap.size ∧ ¬ DF g v pc q0) (hlim : qs.length + n ≤ 8000000000000) :
    Calls Try.prog 83 #[.pointer (some ⟨g, 0, none⟩), .int .i64 0, .slice a n cap] w fun e w' => e = .returned (.tuple #[]) ∧ ∃ v' pc', DSt w' g v' pc' (qs ++ ls) kp (s.add (ls.map PV.p)) ∧ Turn w w' g v pc v' pc' := by
  have HD := Lib.hid hd
  have HL := Lib.hid hL
  have HOK := Lib.hid hok
  have HXA := Lib.hid hxa
  have HQ := Lib.hid hq
  have hgl : g < w.heap.size := (Array.getElem?_eq_some_iff.1 hd.box).1
  have HN := Lib.hid hn
  have hnI : (n : Int) ≤ 8000000000000 := by omega
  clear hd hL hok hxa hq hn
  go_enter Try.func83, Try.ntmps83
  go_wp2_with fail
  go_loopw [10] (fun idx wr => ∃ (j : Nat) (v' : Nat → Value) (pc' : Value), j ≤ n ∧ idx = .int .i64 (j : Int) ∧ DSt wr g v' pc' (qs ++ ls.take j) kp (s.add ((ls.take j).map PV.p)) ∧ Lst wr 0 (.slice a n cap) ls q0 ∧ Turn w wr g v pc v' pc') (fun idx _ => n - (intOf idx).toNat)
  case atStart => exact ⟨0, v, pc, by omega, rfl, by simpa [St.add] using HD.out, HL.out, Turn.refl _ _ _ _⟩
  case round =>
    obtain ⟨j, v1, pc1, hj, rfl, hd1, hL1, hT1⟩ := hrel
    have HD1 := Lib.hid hd1
    have HL1 := Lib.hid hL1
    have HT1 := Lib.hid hT1
    by_cases hjn : j < n
    · obtain ⟨xb, cap', hx, -, hxl⟩ := World.ownsRow.form hL1.row (by have := HN.out; omega)
      obtain ⟨rfl, hnl, rfl⟩ : a = some ⟨xb, 0, none⟩ ∧ n = ls.length ∧ cap = cap' := by simpa using hx
      subst hnl
      have hjl : j < ls.length := hjn
      have hcell := World.ownsRow.cells hL1.row (g := xb) rfl j ls[j].iface (by simp [hjl])
      rw [Go.WideShapes.add_plain, Nat.zero_add] at hcell
      obtain ⟨⟨c0, c1, c2, c3, c4, c5, c6, c7, c8, c9⟩, hfz⟩ := box10 hd1.box
      have hrow0 := hd1.core.row
      have hN2 : (qs ++ ls.take j).length = qs.length + j := by simp; omega
      rw [hN2] at hrow0
      obtain ⟨N, hN⟩ : ∃ N, N = qs.length + j := ⟨_, rfl⟩
      rw [← hN] at hrow0
      have hNlim : N + 1 ≤ 8000000000000 := by omega
      have hNlimI : (N : Int) + 1 ≤ 8000000000000 := by omega
      have hrow := Lib.hid hrow0
      have hbox := Lib.hid hd1.box
      obtain ⟨apc, kpc, hpc, -⟩ := row_slice hrow0
      rw [hpc] at c9
      have HPC := Lib.hid hpc
      obtain ⟨q, hqq⟩ : ∃ q, q = ls[j] := ⟨_, rfl⟩
      rw [← hqq] at hcell
      have HQQ := Lib.hid hqq
      have HLN : Hid ((qs ++ ls.take j).length = N) := by show _ = _; rw [hN2, hN]
      have hqm : q ∈ ls := by rw [hqq]; exact List.getElem_mem _
      have HQOK := Lib.hid (HOK.out q hqm)
      have hknd := HQOK.out.2.2
      have HQR : Hid (BRd wr q.A q.p.b ∧ ∀ a, q.A = some a → a.block < wr.heap.size ∧ ¬ DF g v1 pc1 a.block) := by
        refine ⟨(hL1.reads q hqm).1, fun a ha => ?_⟩
        obtain ⟨h1, h2⟩ := HQ.out q hqm a ha
        rw [(hL1.reads q hqm).2 a ha]
        exact ⟨Nat.lt_of_lt_of_le h1 hT1.fr.size, fun h => h2 (hT1.new _ h1 h)⟩
      have hgr : g < wr.heap.size := (Array.getElem?_eq_some_iff.1 hd1.box).1
      have HGP : Hid ((Value.slice apc N kpc).ownBlock ≠ some g) := by show _ ≠ _; rw [← hpc]; exact hd1.core.dgp
      have HPC2 : Hid (wr.ownsRow 0 134 2 (.slice apc N kpc) N (rowOf (qs ++ ls.take j))) := by show World.ownsRow _ _ _ _ _ _ _; rw [← hpc]; exact hrow0
      have HNN := Lib.hid hN
      have HS1 := Lib.hid hd1.ok
      have HLT : Hid (ls.take (j + 1) = ls.take j ++ [q]) := by show _ = _; rw [hqq, List.take_succ_eq_append_getElem hjl]
      obtain ⟨s1, hs1⟩ : ∃ s1, s1 = s.add ((ls.take j).map PV.p) := ⟨_, rfl⟩
      rw [← hs1] at HD1 HS1 hbox c1 c2 c3
      have HSS := Lib.hid hs1
      have hqi : q.iface = (.iface 195 (.agg #[.int .i64 q.p.pos])) := by unfold PV.iface; rw [hknd]; rfl
      rw [hqi] at hcell
      have hnil := nil_cut
      have HQC : Hid (q.cells = [.int .i64 (0 : Nat), (.func (.method "colonnade/disk.apply") #[(.iface 195 (.agg #[.int .i64 q.p.pos]))] #[])]) := by show _ = _; unfold PV.cells PV.func; rw [hqi, HQOK.out.2.1]
      clear hd1 hL1 hT1 hx hqq hpc hrow0 hN2 hN hqi hqm hs1
      go_upto_region 3 with fail
      go_cut [7] (fun s7 wx => s7 = (.iface 195 (.agg #[.int .i64 q.p.pos])) ∧ ∃ pc2 : Value, wx.heap[g]? = some (.cells (boxOf s1 v1 pc2 kp) 95 (0, 0)) ∧ Core wx g v1 s1.ct pc2 (qs ++ ls.take j ++ [q]) kp s1.keep ∧ Turn wr wx g v1 pc1 v1 pc2)
      case first =>
        go_region_law (refine step_pend (by rfl) _ _ (by rfl) (.slice apc N kpc) (.int .i64 0) (.func (.method "colonnade/disk.apply") #[(.iface 195 (.agg #[.int .i64 q.p.pos]))] #[]) (by rfl) (by rfl) N (rowOf (qs ++ ls.take j)) _ (by rfl) wr.heap.size (by rfl) (ownsRow_same (HPC2.out) (fun k hk _ => Below.heap_alloc wr _ k hk)) (by simp) (by simp) hNlim ?_; intro pc2 w2 hrow2 hgrw2; obtain ⟨a2, k2, rfl, -⟩ := row_slice hrow2; have hgr2 := Lib.hid (Grw.of_below (alloc_below wr _).drew hgrw2); have hbx2 := Lib.hid (grw_box hgrw2 (alloc_below wr _).drew hbox.out HGP.out); obtain ⟨⟨c20, c21, c22, c23, c24, c25, c26, c27, c28, c29⟩, hfz2⟩ := box10 hbx2.out; rw [HPC.out] at c29; have HROW2 := Lib.hid hrow2; clear hrow2 hgrw2)
        all_goals go_wp2_with fail
        all_goals go_meet
        all_goals exact ⟨rfl, _, mid_step HD1.out q (n := N + 1) (by rw [HLN.out]) (by rw [HQC.out]; exact HROW2.out) (by rw [HPC.out]; exact hgr2.out) HQR.out⟩
      case rest =>
        obtain ⟨rfl, pc2, hmid⟩ := hcut
        have HMID := Lib.hid hmid
        obtain ⟨⟨c30, c31, c32, c33, c34, c35, c36, c37, c38, c39⟩, hfz3⟩ := box10 hmid.1
        have HAP := Lib.hid (fun W hW => cut_at (W := W) q.p.pos (HMID.out.2.1.own 0 (by omega)) hW)
        have hg3 : g < wc.heap.size := (Array.getElem?_eq_some_iff.1 hmid.1).1
        clear hmid c0 c1 c2 c3 c4 c5 c6 c7 c8 c9 hfz
        go_upto_region 4 with fail
        go_region_with (go_at_call 173; refine (HAP.out _ (by first | exact Below.refl _ _ | exact (Below.refl _ _).drew)).mono ?_; rintro e w4 ⟨a4, n4, k4, rfl, hx4, hg4⟩; have hbx4 := Lib.hid (grw_box hg4 (Below.refl _ _) HMID.out.1 (HMID.out.2.1.dgv 0 (by omega))); obtain ⟨⟨c40, c41, c42, c43, c44, c45, c46, c47, c48, c49⟩, hfz4⟩ := box10 hbx4.out; have HX4 := Lib.hid hx4; have HG4 := Lib.hid hg4; clear hx4 hg4)
        all_goals
          have hsx : (s.add ((ls.take (j + 1)).map PV.p)) = s1.add [q.p] := by rw [HSS.out, HLT.out]; simp [St.add]
          have hnm : (s1.add [q.p]).pcs = (qs ++ ls.take j ++ [q]).map PV.p := by rw [List.map_append, ← HD1.out.names]; rfl
          have hend := end_step q.p 0 0 (by omega) rfl HQOK.out.2.1 HQOK.out.1 HS1.out hnm HMID.out.1 HMID.out.2.1 HX4.out (by unfold Pc.ap; rw [hknd]; rfl) HG4.out
          have hE : Hid (DSt (wc.setCell ⟨0, 0, none⟩ (.bool true)) g v1 pc1 qs kp s ∨ True) := .inr trivial
          have HEND : Hid (∃ v2, DSt (w4.setCell ⟨g, 5, none⟩ (.slice a4 n4 k4)) g v2 pc2 (qs ++ ls.take (j + 1)) kp (s.add ((ls.take (j + 1)).map PV.p)) ∧ Turn w (w4.setCell ⟨g, 5, none⟩ (.slice a4 n4 k4)) g v pc v2 pc2) := by
            refine ⟨_, ?_, (HT1.out.trans HMID.out.2.2).trans hend.2⟩
            rw [hsx, HLT.out, ← List.append_assoc]
            exact hend.1
          clear hsx hnm hend hE c30 c31 c32 c33 c34 c35 c36 c37 c38 c39 c40 c41 c42 c43 c44 c45 c46 c47 c48 c49 hfz3 hfz4 hg3
          generalize w4.setCell ⟨g, 5, none⟩ (.slice a4 n4 k4) = w5 at *
        all_goals go_wp2_with fail
        all_goals go_roundw
        all_goals first
          | (simp only [intOf]; omega)
          | (obtain ⟨v2, h1, h2⟩ := HEND.out
             exact ⟨j + 1, v2, pc2, hjn, rfl, h1, HL.out.turn h2 (fun k hk => by simp [Value.ownBlock] at hk; subst hk; exact HXA.out _ rfl) (fun q hq a ha => (HQ.out q hq a ha).2), h2⟩)
    · have hjn' : j = n := by omega
      subst hjn'
      have hfull : ls.take j = ls := List.take_of_length_le (by have := HN.out; omega)
      rw [hfull] at HD1
      have HH := Lib.hid (⟨v1, pc1, HD1.out, HT1.out⟩ : ∃ v' pc', DSt wr g v' pc' (qs ++ ls) kp (s.add (ls.map PV.p)) ∧ Turn w wr g v pc v' pc')
      clear HD1 HT1 hfull
      go_wp2_with fail
      first | go_end0 | skip
      exact ⟨rfl, HH.out⟩

set_option maxHeartbeats 4000000 in
set_option maxRecDepth 100000 in
theorem change_cut1 (g : Nat) (a : Option Addr) (n cap q0 : Nat) (ls : List PV) (w : World) (v : Nat → Value) (pc : Value) (qs : List PV) (kp : Value) (s : St) (hd : DSt w g v pc qs kp s) (hL : Lst w 0 (.slice a n cap) ls q0) (hn : n = ls.length)
    (hok : ∀ q ∈ ls, q.p.Ok ∧ q.p.file = 1 ∧ q.p.cut = true) (hxa : ∀ x, a = some x → ¬ DF g v pc x.block) (hq : ∀ q ∈ ls, ∀ x, q.A = some x → q0 < w.heap.size ∧ ¬ DF g v pc q0) (hlim : qs.length + n ≤ 8000000000000) :
    Calls Try.prog 83 #[.pointer (some ⟨g, 0, none⟩), .int .i64 1, .slice a n cap] w fun e w' => e = .returned (.tuple #[]) ∧ ∃ v' pc', DSt w' g v' pc' (qs ++ ls) kp (s.add (ls.map PV.p)) ∧ Turn w w' g v pc v' pc' := by
  have HD := Lib.hid hd
  have HL := Lib.hid hL
  have HOK := Lib.hid hok
  have HXA := Lib.hid hxa
  have HQ := Lib.hid hq
  have hgl : g < w.heap.size := (Array.getElem?_eq_some_iff.1 hd.box).1
  have HN := Lib.hid hn
  have hnI : (n : Int) ≤ 8000000000000 := by omega
  clear hd hL hok hxa hq hn
  go_enter Try.func83, Try.ntmps83
  go_wp2_with fail
  go_loopw [10] (fun idx wr => ∃ (j : Nat) (v' : Nat → Value) (pc' : Value), j ≤ n ∧ idx = .int .i64 (j : Int) ∧ DSt wr g v' pc' (qs ++ ls.take j) kp (s.add ((ls.take j).map PV.p)) ∧ Lst wr 0 (.slice a n cap) ls q0 ∧ Turn w wr g v pc v' pc') (fun idx _ => n - (intOf idx).toNat)
  case atStart => exact ⟨0, v, pc, by omega, rfl, by simpa [St.add] using HD.out, HL.out, Turn.refl _ _ _ _⟩
  case round =>
    obtain ⟨j, v1, pc1, hj, rfl, hd1, hL1, hT1⟩ := hrel
    have HD1 := Lib.hid hd1
    have HL1 := Lib.hid hL1
    have HT1 := Lib.hid hT1
    by_cases hjn : j < n
    · obtain ⟨xb, cap', hx, -, hxl⟩ := World.ownsRow.form hL1.row (by have := HN.out; omega)
      obtain ⟨rfl, hnl, rfl⟩ : a = some ⟨xb, 0, none⟩ ∧ n = ls.length ∧ cap = cap' := by simpa using hx
      subst hnl
      have hjl : j < ls.length := hjn
      have hcell := World.ownsRow.cells hL1.row (g := xb) rfl j ls[j].iface (by simp [hjl])
      rw [Go.WideShapes.add_plain, Nat.zero_add] at hcell
      obtain ⟨⟨c0, c1, c2, c3, c4, c5, c6, c7, c8, c9⟩, hfz⟩ := box10 hd1.box
      have hrow0 := hd1.core.row
      have hN2 : (qs ++ ls.take j).length = qs.length + j := by simp; omega
      rw [hN2] at hrow0
      obtain ⟨N, hN⟩ : ∃ N, N = qs.length + j := ⟨_, rfl⟩
      rw [← hN] at hrow0
      have hNlim : N + 1 ≤ 8000000000000 := by omega
      have hNlimI : (N : Int) + 1 ≤ 8000000000000 := by omega
      have hrow := Lib.hid hrow0
      have hbox := Lib.hid hd1.box
      obtain ⟨apc, kpc, hpc, -⟩ := row_slice hrow0
      rw [hpc] at c9
      have HPC := Lib.hid hpc
      obtain ⟨q, hqq⟩ : ∃ q, q = ls[j] := ⟨_, rfl⟩
      rw [← hqq] at hcell
      have HQQ := Lib.hid hqq
      have HLN : Hid ((qs ++ ls.take j).length = N) := by show _ = _; rw [hN2, hN]
      have hqm : q ∈ ls := by rw [hqq]; exact List.getElem_mem _
      have HQOK := Lib.hid (HOK.out q hqm)
      have hknd := HQOK.out.2.2
      have HQR : Hid (BRd wr q.A q.p.b ∧ ∀ a, q.A = some a → a.block < wr.heap.size ∧ ¬ DF g v1 pc1 a.block) := by
        refine ⟨(hL1.reads q hqm).1, fun a ha => ?_⟩
        obtain ⟨h1, h2⟩ := HQ.out q hqm a ha
        rw [(hL1.reads q hqm).2 a ha]
        exact ⟨Nat.lt_of_lt_of_le h1 hT1.fr.size, fun h => h2 (hT1.new _ h1 h)⟩
      have hgr : g < wr.heap.size := (Array.getElem?_eq_some_iff.1 hd1.box).1
      have HGP : Hid ((Value.slice apc N kpc).ownBlock ≠ some g) := by show _ ≠ _; rw [← hpc]; exact hd1.core.dgp
      have HPC2 : Hid (wr.ownsRow 0 134 2 (.slice apc N kpc) N (rowOf (qs ++ ls.take j))) := by show World.ownsRow _ _ _ _ _ _ _; rw [← hpc]; exact hrow0
      have HNN := Lib.hid hN
      have HS1 := Lib.hid hd1.ok
      have HLT : Hid (ls.take (j + 1) = ls.take j ++ [q]) := by show _ = _; rw [hqq, List.take_succ_eq_append_getElem hjl]
      obtain ⟨s1, hs1⟩ : ∃ s1, s1 = s.add ((ls.take j).map PV.p) := ⟨_, rfl⟩
      rw [← hs1] at HD1 HS1 hbox c1 c2 c3
      have HSS := Lib.hid hs1
      have hqi : q.iface = (.iface 195 (.agg #[.int .i64 q.p.pos])) := by unfold PV.iface; rw [hknd]; rfl
      rw [hqi] at hcell
      have hnil := nil_cut
      have HQC : Hid (q.cells = [.int .i64 (1 : Nat), (.func (.method "colonnade/disk.apply") #[(.iface 195 (.agg #[.int .i64 q.p.pos]))] #[])]) := by show _ = _; unfold PV.cells PV.func; rw [hqi, HQOK.out.2.1]
      clear hd1 hL1 hT1 hx hqq hpc hrow0 hN2 hN hqi hqm hs1
      go_upto_region 3 with fail
      go_cut [7] (fun s7 wx => s7 = (.iface 195 (.agg #[.int .i64 q.p.pos])) ∧ ∃ pc2 : Value, wx.heap[g]? = some (.cells (boxOf s1 v1 pc2 kp) 95 (0, 0)) ∧ Core wx g v1 s1.ct pc2 (qs ++ ls.take j ++ [q]) kp s1.keep ∧ Turn wr wx g v1 pc1 v1 pc2)
      case first =>
        go_region_law (refine step_pend (by rfl) _ _ (by rfl) (.slice apc N kpc) (.int .i64 1) (.func (.method "colonnade/disk.apply") #[(.iface 195 (.agg #[.int .i64 q.p.pos]))] #[]) (by rfl) (by rfl) N (rowOf (qs ++ ls.take j)) _ (by rfl) wr.heap.size (by rfl) (ownsRow_same (HPC2.out) (fun k hk _ => Below.heap_alloc wr _ k hk)) (by simp) (by simp) hNlim ?_; intro pc2 w2 hrow2 hgrw2; obtain ⟨a2, k2, rfl, -⟩ := row_slice hrow2; have hgr2 := Lib.hid (Grw.of_below (alloc_below wr _).drew hgrw2); have hbx2 := Lib.hid (grw_box hgrw2 (alloc_below wr _).drew hbox.out HGP.out); obtain ⟨⟨c20, c21, c22, c23, c24, c25, c26, c27, c28, c29⟩, hfz2⟩ := box10 hbx2.out; rw [HPC.out] at c29; have HROW2 := Lib.hid hrow2; clear hrow2 hgrw2)
        all_goals go_wp2_with fail
        all_goals go_meet
        all_goals exact ⟨rfl, _, mid_step HD1.out q (n := N + 1) (by rw [HLN.out]) (by rw [HQC.out]; exact HROW2.out) (by rw [HPC.out]; exact hgr2.out) HQR.out⟩
      case rest =>
        obtain ⟨rfl, pc2, hmid⟩ := hcut
        have HMID := Lib.hid hmid
        obtain ⟨⟨c30, c31, c32, c33, c34, c35, c36, c37, c38, c39⟩, hfz3⟩ := box10 hmid.1
        have HAP := Lib.hid (fun W hW => cut_at (W := W) q.p.pos (HMID.out.2.1.own 2 (by omega)) hW)
        have hg3 : g < wc.heap.size := (Array.getElem?_eq_some_iff.1 hmid.1).1
        clear hmid c0 c1 c2 c3 c4 c5 c6 c7 c8 c9 hfz
        go_upto_region 4 with fail
        go_region_with (go_at_call 173; refine (HAP.out _ (by first | exact Below.refl _ _ | exact (Below.refl _ _).drew)).mono ?_; rintro e w4 ⟨a4, n4, k4, rfl, hx4, hg4⟩; have hbx4 := Lib.hid (grw_box hg4 (Below.refl _ _) HMID.out.1 (HMID.out.2.1.dgv 2 (by omega))); obtain ⟨⟨c40, c41, c42, c43, c44, c45, c46, c47, c48, c49⟩, hfz4⟩ := box10 hbx4.out; have HX4 := Lib.hid hx4; have HG4 := Lib.hid hg4; clear hx4 hg4)
        all_goals
          have hsx : (s.add ((ls.take (j + 1)).map PV.p)) = s1.add [q.p] := by rw [HSS.out, HLT.out]; simp [St.add]
          have hnm : (s1.add [q.p]).pcs = (qs ++ ls.take j ++ [q]).map PV.p := by rw [List.map_append, ← HD1.out.names]; rfl
          have hend := end_step q.p 1 2 (by omega) rfl HQOK.out.2.1 HQOK.out.1 HS1.out hnm HMID.out.1 HMID.out.2.1 HX4.out (by unfold Pc.ap; rw [hknd]; rfl) HG4.out
          have hE : Hid (DSt (wc.setCell ⟨0, 0, none⟩ (.bool true)) g v1 pc1 qs kp s ∨ True) := .inr trivial
          have HEND : Hid (∃ v2, DSt (w4.setCell ⟨g, 7, none⟩ (.slice a4 n4 k4)) g v2 pc2 (qs ++ ls.take (j + 1)) kp (s.add ((ls.take (j + 1)).map PV.p)) ∧ Turn w (w4.setCell ⟨g, 7, none⟩ (.slice a4 n4 k4)) g v pc v2 pc2) := by
            refine ⟨_, ?_, (HT1.out.trans HMID.out.2.2).trans hend.2⟩
            rw [hsx, HLT.out, ← List.append_assoc]
            exact hend.1
          clear hsx hnm hend hE c30 c31 c32 c33 c34 c35 c36 c37 c38 c39 c40 c41 c42 c43 c44 c45 c46 c47 c48 c49 hfz3 hfz4 hg3
          generalize w4.setCell ⟨g, 7, none⟩ (.slice a4 n4 k4) = w5 at *
        all_goals go_wp2_with fail
        all_goals go_roundw
        all_goals first
          | (simp only [intOf]; omega)
          | (obtain ⟨v2, h1, h2⟩ := HEND.out
             exact ⟨j + 1, v2, pc2, hjn, rfl, h1, HL.out.turn h2 (fun k hk => by simp [Value.ownBlock] at hk; subst hk; exact HXA.out _ rfl) (fun q hq a ha => (HQ.out q hq a ha).2), h2⟩)
    · have hjn' : j = n := by omega
      subst hjn'
      have hfull : ls.take j = ls := List.take_of_length_le (by have := HN.out; omega)
      rw [hfull] at HD1
      have HH := Lib.hid (⟨v1, pc1, HD1.out, HT1.out⟩ : ∃ v' pc', DSt wr g v' pc' (qs ++ ls) kp (s.add (ls.map PV.p)) ∧ Turn w wr g v pc v' pc')
      clear HD1 HT1 hfull
      go_wp2_with fail
      first | go_end0 | skip
      exact ⟨rfl, HH.out⟩

set_option maxHeartbeats 4000000 in
set_option maxRecDepth 100000 in
theorem change_patch0 (g : Nat) (a : Option Addr) (n cap q0 : Nat) (ls : List PV) (w : World) (v : Nat → Value) (pc : Value) (qs : List PV) (kp : Value) (s : St) (hd : DSt w g v pc qs kp s) (hL : Lst w 0 (.slice a n cap) ls q0) (hn : n = ls.length)
    (hok : ∀ q ∈ ls, q.p.Ok ∧ q.p.file = 0 ∧ q.p.cut = false) (hxa : ∀ x, a = some x → ¬ DF g v pc x.block) (hq : ∀ q ∈ ls, ∀ x, q.A = some x → q0 < w.heap.size ∧ ¬ DF g v pc q0) (hlim : qs.length + n ≤ 8000000000000) :
    Calls Try.prog 83 #[.pointer (some ⟨g, 0, none⟩), .int .i64 0, .slice a n cap] w fun e w' => e = .returned (.tuple #[]) ∧ ∃ v' pc', DSt w' g v' pc' (qs ++ ls) kp (s.add (ls.map PV.p)) ∧ Turn w w' g v pc v' pc' := by
  have HD := Lib.hid hd
  have HL := Lib.hid hL
  have HOK := Lib.hid hok
  have HXA := Lib.hid hxa
  have HQ := Lib.hid hq
  have hgl : g < w.heap.size := (Array.getElem?_eq_some_iff.1 hd.box).1
  have HN := Lib.hid hn
  have hnI : (n : Int) ≤ 8000000000000 := by omega
  clear hd hL hok hxa hq hn
  go_enter Try.func83, Try.ntmps83
  go_wp2_with fail
  go_loopw [10] (fun idx wr => ∃ (j : Nat) (v' : Nat → Value) (pc' : Value), j ≤ n ∧ idx = .int .i64 (j : Int) ∧ DSt wr g v' pc' (qs ++ ls.take j) kp (s.add ((ls.take j).map PV.p)) ∧ Lst wr 0 (.slice a n cap) ls q0 ∧ Turn w wr g v pc v' pc') (fun idx _ => n - (intOf idx).toNat)
  case atStart => exact ⟨0, v, pc, by omega, rfl, by simpa [St.add] using HD.out, HL.out, Turn.refl _ _ _ _⟩
  case round =>
    obtain ⟨j, v1, pc1, hj, rfl, hd1, hL1, hT1⟩ := hrel
    have HD1 := Lib.hid hd1
    have HL1 := Lib.hid hL1
    have HT1 := Lib.hid hT1
    by_cases hjn : j < n
    · obtain ⟨xb, cap', hx, -, hxl⟩ := World.ownsRow.form hL1.row (by have := HN.out; omega)
      obtain ⟨rfl, hnl, rfl⟩ : a = some ⟨xb, 0, none⟩ ∧ n = ls.length ∧ cap = cap' := by simpa using hx
      subst hnl
      have hjl : j < ls.length := hjn
      have hcell := World.ownsRow.cells hL1.row (g := xb) rfl j ls[j].iface (by simp [hjl])
      rw [Go.WideShapes.add_plain, Nat.zero_add] at hcell
      obtain ⟨⟨c0, c1, c2, c3, c4, c5, c6, c7, c8, c9⟩, hfz⟩ := box10 hd1.box
      have hrow0 := hd1.core.row
      have hN2 : (qs ++ ls.take j).length = qs.length + j := by simp; omega
      rw [hN2] at hrow0
      obtain ⟨N, hN⟩ : ∃ N, N = qs.length + j := ⟨_, rfl⟩
      rw [← hN] at hrow0
      have hNlim : N + 1 ≤ 8000000000000 := by omega
      have hNlimI : (N : Int) + 1 ≤ 8000000000000 := by omega
      have hrow := Lib.hid hrow0
      have hbox := Lib.hid hd1.box
      obtain ⟨apc, kpc, hpc, -⟩ := row_slice hrow0
      rw [hpc] at c9
      have HPC := Lib.hid hpc
      obtain ⟨q, hqq⟩ : ∃ q, q = ls[j] := ⟨_, rfl⟩
      rw [← hqq] at hcell
      have HQQ := Lib.hid hqq
      have HLN : Hid ((qs ++ ls.take j).length = N) := by show _ = _; rw [hN2, hN]
      have hqm : q ∈ ls := by rw [hqq]; exact List.getElem_mem _
      have HQOK := Lib.hid (HOK.out q hqm)
      have hknd := HQOK.out.2.2
      have HQR : Hid (BRd wr q.A q.p.b ∧ ∀ a, q.A = some a → a.block < wr.heap.size ∧ ¬ DF g v1 pc1 a.block) := by
        refine ⟨(hL1.reads q hqm).1, fun a ha => ?_⟩
        obtain ⟨h1, h2⟩ := HQ.out q hqm a ha
        rw [(hL1.reads q hqm).2 a ha]
        exact ⟨Nat.lt_of_lt_of_le h1 hT1.fr.size, fun h => h2 (hT1.new _ h1 h)⟩
      have hgr : g < wr.heap.size := (Array.getElem?_eq_some_iff.1 hd1.box).1
      have HGP : Hid ((Value.slice apc N kpc).ownBlock ≠ some g) := by show _ ≠ _; rw [← hpc]; exact hd1.core.dgp
      have HPC2 : Hid (wr.ownsRow 0 134 2 (.slice apc N kpc) N (rowOf (qs ++ ls.take j))) := by show World.ownsRow _ _ _ _ _ _ _; rw [← hpc]; exact hrow0
      have HNN := Lib.hid hN
      have HS1 := Lib.hid hd1.ok
      have HLT : Hid (ls.take (j + 1) = ls.take j ++ [q]) := by show _ = _; rw [hqq, List.take_succ_eq_append_getElem hjl]
      obtain ⟨s1, hs1⟩ : ∃ s1, s1 = s.add ((ls.take j).map PV.p) := ⟨_, rfl⟩
      rw [← hs1] at HD1 HS1 hbox c1 c2 c3
      have HSS := Lib.hid hs1
      have hqi : q.iface = (.iface 175 (.agg #[.int .i64 q.p.pos, .slice q.A q.p.b.length q.c])) := by unfold PV.iface; rw [hknd]; rfl
      rw [hqi] at hcell
      have hnil := nil_patch
      have HQC : Hid (q.cells = [.int .i64 (0 : Nat), (.func (.method "colonnade/disk.apply") #[(.iface 175 (.agg #[.int .i64 q.p.pos, .slice q.A q.p.b.length q.c]))] #[])]) := by show _ = _; unfold PV.cells PV.func; rw [hqi, HQOK.out.2.1]
      clear hd1 hL1 hT1 hx hqq hpc hrow0 hN2 hN hqi hqm hs1
      go_upto_region 3 with fail
      go_cut [7] (fun s7 wx => s7 = (.iface 175 (.agg #[.int .i64 q.p.pos, .slice q.A q.p.b.length q.c])) ∧ ∃ pc2 : Value, wx.heap[g]? = some (.cells (boxOf s1 v1 pc2 kp) 95 (0, 0)) ∧ Core wx g v1 s1.ct pc2 (qs ++ ls.take j ++ [q]) kp s1.keep ∧ Turn wr wx g v1 pc1 v1 pc2)
      case first =>
        go_region_law (refine step_pend (by rfl) _ _ (by rfl) (.slice apc N kpc) (.int .i64 0) (.func (.method "colonnade/disk.apply") #[(.iface 175 (.agg #[.int .i64 q.p.pos, .slice q.A q.p.b.length q.c]))] #[]) (by rfl) (by rfl) N (rowOf (qs ++ ls.take j)) _ (by rfl) wr.heap.size (by rfl) (ownsRow_same (HPC2.out) (fun k hk _ => Below.heap_alloc wr _ k hk)) (by simp) (by simp) hNlim ?_; intro pc2 w2 hrow2 hgrw2; obtain ⟨a2, k2, rfl, -⟩ := row_slice hrow2; have hgr2 := Lib.hid (Grw.of_below (alloc_below wr _).drew hgrw2); have hbx2 := Lib.hid (grw_box hgrw2 (alloc_below wr _).drew hbox.out HGP.out); obtain ⟨⟨c20, c21, c22, c23, c24, c25, c26, c27, c28, c29⟩, hfz2⟩ := box10 hbx2.out; rw [HPC.out] at c29; have HROW2 := Lib.hid hrow2; clear hrow2 hgrw2)
        all_goals go_wp2_with fail
        all_goals go_meet
        all_goals exact ⟨rfl, _, mid_step HD1.out q (n := N + 1) (by rw [HLN.out]) (by rw [HQC.out]; exact HROW2.out) (by rw [HPC.out]; exact hgr2.out) HQR.out⟩
      case rest =>
        obtain ⟨rfl, pc2, hmid⟩ := hcut
        have HMID := Lib.hid hmid
        obtain ⟨⟨c30, c31, c32, c33, c34, c35, c36, c37, c38, c39⟩, hfz3⟩ := box10 hmid.1
        have HAP := Lib.hid (fun W hW => patch_at (W := W) q.p.pos q.A q.c q.p.b (HMID.out.2.1.reads q (by simp)).1 (HQOK.out.1.full hknd) (fun x hx hv => ((HMID.out.2.1.reads q (by simp)).2 x hx).2.2.2 0 (by omega) hv) HQOK.out.1.fits (HS1.out.now 0) (HMID.out.2.1.own 0 (by omega)) hW)
        have hg3 : g < wc.heap.size := (Array.getElem?_eq_some_iff.1 hmid.1).1
        clear hmid c0 c1 c2 c3 c4 c5 c6 c7 c8 c9 hfz
        go_upto_region 4 with fail
        go_region_with (go_at_call 172; refine (HAP.out _ (by first | exact Below.refl _ _ | exact (Below.refl _ _).drew)).mono ?_; rintro e w4 ⟨a4, n4, k4, rfl, hx4, hg4⟩; have hbx4 := Lib.hid (grw_box hg4 (Below.refl _ _) HMID.out.1 (HMID.out.2.1.dgv 0 (by omega))); obtain ⟨⟨c40, c41, c42, c43, c44, c45, c46, c47, c48, c49⟩, hfz4⟩ := box10 hbx4.out; have HX4 := Lib.hid hx4; have HG4 := Lib.hid hg4; clear hx4 hg4)
        all_goals
          have hsx : (s.add ((ls.take (j + 1)).map PV.p)) = s1.add [q.p] := by rw [HSS.out, HLT.out]; simp [St.add]
          have hnm : (s1.add [q.p]).pcs = (qs ++ ls.take j ++ [q]).map PV.p := by rw [List.map_append, ← HD1.out.names]; rfl
          have hend := end_step q.p 0 0 (by omega) rfl HQOK.out.2.1 HQOK.out.1 HS1.out hnm HMID.out.1 HMID.out.2.1 HX4.out (by unfold Pc.ap; rw [hknd]; rfl) HG4.out
          have hE : Hid (DSt (wc.setCell ⟨0, 0, none⟩ (.bool true)) g v1 pc1 qs kp s ∨ True) := .inr trivial
          have HEND : Hid (∃ v2, DSt (w4.setCell ⟨g, 5, none⟩ (.slice a4 n4 k4)) g v2 pc2 (qs ++ ls.take (j + 1)) kp (s.add ((ls.take (j + 1)).map PV.p)) ∧ Turn w (w4.setCell ⟨g, 5, none⟩ (.slice a4 n4 k4)) g v pc v2 pc2) := by
            refine ⟨_, ?_, (HT1.out.trans HMID.out.2.2).trans hend.2⟩
            rw [hsx, HLT.out, ← List.append_assoc]
            exact hend.1
          clear hsx hnm hend hE c30 c31 c32 c33 c34 c35 c36 c37 c38 c39 c40 c41 c42 c43 c44 c45 c46 c47 c48 c49 hfz3 hfz4 hg3
          generalize w4.setCell ⟨g, 5, none⟩ (.slice a4 n4 k4) = w5 at *
        all_goals go_wp2_with fail
        all_goals go_roundw
        all_goals first
          | (simp only [intOf]; omega)
          | (obtain ⟨v2, h1, h2⟩ := HEND.out
             exact ⟨j + 1, v2, pc2, hjn, rfl, h1, HL.out.turn h2 (fun k hk => by simp [Value.ownBlock] at hk; subst hk; exact HXA.out _ rfl) (fun q hq a ha => (HQ.out q hq a ha).2), h2⟩)
    · have hjn' : j = n := by omega
      subst hjn'
      have hfull : ls.take j = ls := List.take_of_length_le (by have := HN.out; omega)
      rw [hfull] at HD1
      have HH := Lib.hid (⟨v1, pc1, HD1.out, HT1.out⟩ : ∃ v' pc', DSt wr g v' pc' (qs ++ ls) kp (s.add (ls.map PV.p)) ∧ Turn w wr g v pc v' pc')
      clear HD1 HT1 hfull
      go_wp2_with fail
      first | go_end0 | skip
      exact ⟨rfl, HH.out⟩

set_option maxHeartbeats 4000000 in
set_option maxRecDepth 100000 in
theorem change_patch1 (g : Nat) (a : Option Addr) (n cap q0 : Nat) (ls : List PV) (w : World) (v : Nat → Value) (pc : Value) (qs : List PV) (kp : Value) (s : St) (hd : DSt w g v pc qs kp s) (hL : Lst w 0 (.slice a n cap) ls q0) (hn : n = ls.length)
    (hok : ∀ q ∈ ls, q.p.Ok ∧ q.p.file = 1 ∧ q.p.cut = false) (hxa : ∀ x, a = some x → ¬ DF g v pc x.block) (hq : ∀ q ∈ ls, ∀ x, q.A = some x → q0 < w.heap.size ∧ ¬ DF g v pc q0) (hlim : qs.length + n ≤ 8000000000000) :
    Calls Try.prog 83 #[.pointer (some ⟨g, 0, none⟩), .int .i64 1, .slice a n cap] w fun e w' => e = .returned (.tuple #[]) ∧ ∃ v' pc', DSt w' g v' pc' (qs ++ ls) kp (s.add (ls.map PV.p)) ∧ Turn w w' g v pc v' pc' := by
  have HD := Lib.hid hd
  have HL := Lib.hid hL
  have HOK := Lib.hid hok
  have HXA := Lib.hid hxa
  have HQ := Lib.hid hq
  have hgl : g < w.heap.size := (Array.getElem?_eq_some_iff.1 hd.box).1
  have HN := Lib.hid hn
  have hnI : (n : Int) ≤ 8000000000000 := by omega
  clear hd hL hok hxa hq hn
  go_enter Try.func83, Try.ntmps83
  go_wp2_with fail
  go_loopw [10] (fun idx wr => ∃ (j : Nat) (v' : Nat → Value) (pc' : Value), j ≤ n ∧ idx = .int .i64 (j : Int) ∧ DSt wr g v' pc' (qs ++ ls.take j) kp (s.add ((ls.take j).map PV.p)) ∧ Lst wr 0 (.slice a n cap) ls q0 ∧ Turn w wr g v pc v' pc') (fun idx _ => n - (intOf idx).toNat)
  case atStart => exact ⟨0, v, pc, by omega, rfl, by simpa [St.add] using HD.out, HL.out, Turn.refl _ _ _ _⟩
  case round =>
    obtain ⟨j, v1, pc1, hj, rfl, hd1, hL1, hT1⟩ := hrel
    have HD1 := Lib.hid hd1
    have HL1 := Lib.hid hL1
    have HT1 := Lib.hid hT1
    by_cases hjn : j < n
    · obtain ⟨xb, cap', hx, -, hxl⟩ := World.ownsRow.form hL1.row (by have := HN.out; omega)
      obtain ⟨rfl, hnl, rfl⟩ : a = some ⟨xb, 0, none⟩ ∧ n = ls.length ∧ cap = cap' := by simpa using hx
      subst hnl
      have hjl : j < ls.length := hjn
      have hcell := World.ownsRow.cells hL1.row (g := xb) rfl j ls[j].iface (by simp [hjl])
      rw [Go.WideShapes.add_plain, Nat.zero_add] at hcell
      obtain ⟨⟨c0, c1, c2, c3, c4, c5, c6, c7, c8, c9⟩, hfz⟩ := box10 hd1.box
      have hrow0 := hd1.core.row
      have hN2 : (qs ++ ls.take j).length = qs.length + j := by simp; omega
      rw [hN2] at hrow0
      obtain ⟨N, hN⟩ : ∃ N, N = qs.length + j := ⟨_, rfl⟩
      rw [← hN] at hrow0
      have hNlim : N + 1 ≤ 8000000000000 := by omega
      have hNlimI : (N : Int) + 1 ≤ 8000000000000 := by omega
      have hrow := Lib.hid hrow0
      have hbox := Lib.hid hd1.box
      obtain ⟨apc, kpc, hpc, -⟩ := row_slice hrow0
      rw [hpc] at c9
      have HPC := Lib.hid hpc
      obtain ⟨q, hqq⟩ : ∃ q, q = ls[j] := ⟨_, rfl⟩
      rw [← hqq] at hcell
      have HQQ := Lib.hid hqq
      have HLN : Hid ((qs ++ ls.take j).length = N) := by show _ = _; rw [hN2, hN]
      have hqm : q ∈ ls := by rw [hqq]; exact List.getElem_mem _
      have HQOK := Lib.hid (HOK.out q hqm)
      have hknd := HQOK.out.2.2
      have HQR : Hid (BRd wr q.A q.p.b ∧ ∀ a, q.A = some a → a.block < wr.heap.size ∧ ¬ DF g v1 pc1 a.block) := by
        refine ⟨(hL1.reads q hqm).1, fun a ha => ?_⟩
        obtain ⟨h1, h2⟩ := HQ.out q hqm a ha
        rw [(hL1.reads q hqm).2 a ha]
        exact ⟨Nat.lt_of_lt_of_le h1 hT1.fr.size, fun h => h2 (hT1.new _ h1 h)⟩
      have hgr : g < wr.heap.size := (Array.getElem?_eq_some_iff.1 hd1.box).1
      have HGP : Hid ((Value.slice apc N kpc).ownBlock ≠ some g) := by show _ ≠ _; rw [← hpc]; exact hd1.core.dgp
      have HPC2 : Hid (wr.ownsRow 0 134 2 (.slice apc N kpc) N (rowOf (qs ++ ls.take j))) := by show World.ownsRow _ _ _ _ _ _ _; rw [← hpc]; exact hrow0
      have HNN := Lib.hid hN
      have HS1 := Lib.hid hd1.ok
      have HLT : Hid (ls.take (j + 1) = ls.take j ++ [q]) := by show _ = _; rw [hqq, List.take_succ_eq_append_getElem hjl]
      obtain ⟨s1, hs1⟩ : ∃ s1, s1 = s.add ((ls.take j).map PV.p) := ⟨_, rfl⟩
      rw [← hs1] at HD1 HS1 hbox c1 c2 c3
      have HSS := Lib.hid hs1
      have hqi : q.iface = (.iface 175 (.agg #[.int .i64 q.p.pos, .slice q.A q.p.b.length q.c])) := by unfold PV.iface; rw [hknd]; rfl
      rw [hqi] at hcell
      have hnil := nil_patch
      have HQC : Hid (q.cells = [.int .i64 (1 : Nat), (.func (.method "colonnade/disk.apply") #[(.iface 175 (.agg #[.int .i64 q.p.pos, .slice q.A q.p.b.length q.c]))] #[])]) := by show _ = _; unfold PV.cells PV.func; rw [hqi, HQOK.out.2.1]
      clear hd1 hL1 hT1 hx hqq hpc hrow0 hN2 hN hqi hqm hs1
      go_upto_region 3 with fail
      go_cut [7] (fun s7 wx => s7 = (.iface 175 (.agg #[.int .i64 q.p.pos, .slice q.A q.p.b.length q.c])) ∧ ∃ pc2 : Value, wx.heap[g]? = some (.cells (boxOf s1 v1 pc2 kp) 95 (0, 0)) ∧ Core wx g v1 s1.ct pc2 (qs ++ ls.take j ++ [q]) kp s1.keep ∧ Turn wr wx g v1 pc1 v1 pc2)
      case first =>
        go_region_law (refine step_pend (by rfl) _ _ (by rfl) (.slice apc N kpc) (.int .i64 1) (.func (.method "colonnade/disk.apply") #[(.iface 175 (.agg #[.int .i64 q.p.pos, .slice q.A q.p.b.length q.c]))] #[]) (by rfl) (by rfl) N (rowOf (qs ++ ls.take j)) _ (by rfl) wr.heap.size (by rfl) (ownsRow_same (HPC2.out) (fun k hk _ => Below.heap_alloc wr _ k hk)) (by simp) (by simp) hNlim ?_; intro pc2 w2 hrow2 hgrw2; obtain ⟨a2, k2, rfl, -⟩ := row_slice hrow2; have hgr2 := Lib.hid (Grw.of_below (alloc_below wr _).drew hgrw2); have hbx2 := Lib.hid (grw_box hgrw2 (alloc_below wr _).drew hbox.out HGP.out); obtain ⟨⟨c20, c21, c22, c23, c24, c25, c26, c27, c28, c29⟩, hfz2⟩ := box10 hbx2.out; rw [HPC.out] at c29; have HROW2 := Lib.hid hrow2; clear hrow2 hgrw2)
        all_goals go_wp2_with fail
        all_goals go_meet
        all_goals exact ⟨rfl, _, mid_step HD1.out q (n := N + 1) (by rw [HLN.out]) (by rw [HQC.out]; exact HROW2.out) (by rw [HPC.out]; exact hgr2.out) HQR.out⟩
      case rest =>
        obtain ⟨rfl, pc2, hmid⟩ := hcut
        have HMID := Lib.hid hmid
        obtain ⟨⟨c30, c31, c32, c33, c34, c35, c36, c37, c38, c39⟩, hfz3⟩ := box10 hmid.1
        have HAP := Lib.hid (fun W hW => patch_at (W := W) q.p.pos q.A q.c q.p.b (HMID.out.2.1.reads q (by simp)).1 (HQOK.out.1.full hknd) (fun x hx hv => ((HMID.out.2.1.reads q (by simp)).2 x hx).2.2.2 2 (by omega) hv) HQOK.out.1.fits (HS1.out.now 1) (HMID.out.2.1.own 2 (by omega)) hW)
        have hg3 : g < wc.heap.size := (Array.getElem?_eq_some_iff.1 hmid.1).1
        clear hmid c0 c1 c2 c3 c4 c5 c6 c7 c8 c9 hfz
        go_upto_region 4 with fail
        go_region_with (go_at_call 172; refine (HAP.out _ (by first | exact Below.refl _ _ | exact (Below.refl _ _).drew)).mono ?_; rintro e w4 ⟨a4, n4, k4, rfl, hx4, hg4⟩; have hbx4 := Lib.hid (grw_box hg4 (Below.refl _ _) HMID.out.1 (HMID.out.2.1.dgv 2 (by omega))); obtain ⟨⟨c40, c41, c42, c43, c44, c45, c46, c47, c48, c49⟩, hfz4⟩ := box10 hbx4.out; have HX4 := Lib.hid hx4; have HG4 := Lib.hid hg4; clear hx4 hg4)
        all_goals
          have hsx : (s.add ((ls.take (j + 1)).map PV.p)) = s1.add [q.p] := by rw [HSS.out, HLT.out]; simp [St.add]
          have hnm : (s1.add [q.p]).pcs = (qs ++ ls.take j ++ [q]).map PV.p := by rw [List.map_append, ← HD1.out.names]; rfl
          have hend := end_step q.p 1 2 (by omega) rfl HQOK.out.2.1 HQOK.out.1 HS1.out hnm HMID.out.1 HMID.out.2.1 HX4.out (by unfold Pc.ap; rw [hknd]; rfl) HG4.out
          have hE : Hid (DSt (wc.setCell ⟨0, 0, none⟩ (.bool true)) g v1 pc1 qs kp s ∨ True) := .inr trivial
          have HEND : Hid (∃ v2, DSt (w4.setCell ⟨g, 7, none⟩ (.slice a4 n4 k4)) g v2 pc2 (qs ++ ls.take (j + 1)) kp (s.add ((ls.take (j + 1)).map PV.p)) ∧ Turn w (w4.setCell ⟨g, 7, none⟩ (.slice a4 n4 k4)) g v pc v2 pc2) := by
            refine ⟨_, ?_, (HT1.out.trans HMID.out.2.2).trans hend.2⟩
            rw [hsx, HLT.out, ← List.append_assoc]
            exact hend.1
          clear hsx hnm hend hE c30 c31 c32 c33 c34 c35 c36 c37 c38 c39 c40 c41 c42 c43 c44 c45 c46 c47 c48 c49 hfz3 hfz4 hg3
          generalize w4.setCell ⟨g, 7, none⟩ (.slice a4 n4 k4) = w5 at *
        all_goals go_wp2_with fail
        all_goals go_roundw
        all_goals first
          | (simp only [intOf]; omega)
          | (obtain ⟨v2, h1, h2⟩ := HEND.out
             exact ⟨j + 1, v2, pc2, hjn, rfl, h1, HL.out.turn h2 (fun k hk => by simp [Value.ownBlock] at hk; subst hk; exact HXA.out _ rfl) (fun q hq a ha => (HQ.out q hq a ha).2), h2⟩)
    · have hjn' : j = n := by omega
      subst hjn'
      have hfull : ls.take j = ls := List.take_of_length_le (by have := HN.out; omega)
      rw [hfull] at HD1
      have HH := Lib.hid (⟨v1, pc1, HD1.out, HT1.out⟩ : ∃ v' pc', DSt wr g v' pc' (qs ++ ls) kp (s.add (ls.map PV.p)) ∧ Turn w wr g v pc v' pc')
      clear HD1 HT1 hfull
      go_wp2_with fail
      first | go_end0 | skip
      exact ⟨rfl, HH.out⟩

end Go.Proofs.Ytellmmgiabfacaa
