/-
  Of disk: contract of Crash.
-/
import Derived.Test.YtellmmgiabfacaaDIdx
namespace Go.Proofs.Ytellmmgiabfacaa
open Go.ChangeShapes Go.WideShapes Go.ChangeAt Go.RowKit
set_option linter.unusedVariables false

/-- A slice of truths, wherever it lies. -/
def KRd (w : World) (A : Option Addr) (l : List Bool) : Prop := 0 < l.length → ∃ g off, A = some ⟨g, off, none⟩ ∧ g < w.heap.size ∧ ∀ i (h : i < l.length), w.cell? ⟨g, off + i, none⟩ = some (.bool l[i])
theorem KRd.fr {F : Nat → Prop} {w w' : World} {A : Option Addr} {l : List Bool} (h : KRd w A l) (hf : Fr F w w') (hn : 0 < l.length → ∀ a, A = some a → ¬ F a.block) : KRd w' A l := fun h0 => by
  obtain ⟨g, off, rfl, hl, hc⟩ := h h0
  have hb : w'.heap[g]? = w.heap[g]? := hf.block g hl (hn h0 _ rfl)
  refine ⟨g, off, rfl, Nat.lt_of_lt_of_le hl hf.size, fun i hi => ?_⟩
  rw [World.cell?_of_block (w := w) (w' := w') (a := ⟨g, off + i, none⟩) hb]
  exact hc i hi
theorem own_krd {w : World} {B n cap : Nat} {a : Option Addr} {l : List Bool} (h : w.ownsRow B 4 1 (.slice a n cap) l.length (l.map Value.bool)) : KRd w a l := fun hn => by
  obtain ⟨g, cap', hv, hb, hg⟩ := World.ownsRow.form h hn
  obtain ⟨rfl, -, rfl⟩ : a = some ⟨g, 0, none⟩ ∧ n = l.length ∧ cap = cap' := by simpa using hv
  refine ⟨g, 0, rfl, hg, fun j hj => ?_⟩
  have hc := World.ownsRow.cells h (g := g) rfl j _ (by rw [List.getElem?_map, List.getElem?_eq_getElem hj]; rfl)
  rw [show (⟨g, 0, none⟩ : Addr).add j = ⟨g, 0 + j, none⟩ from Go.WideShapes.add_plain g 0 j] at hc
  exact hc
/-- What the four slices hold while the pieces ps have been looked at. -/
def ctK (s : St) (ks : List Bool) (ps : List Pc) (i : Nat) : List UInt8 := if i % 2 = 0 then s.now (i / 2) else foldF (i / 2) (kept ks ps) (s.sure (i / 2))
theorem ctK_nil (s : St) (ks : List Bool) : ctK s ks [] = s.ct := by
  funext i
  unfold ctK St.ct
  have : kept ks [] = [] := by cases ks <;> rfl
  rw [this]
  rfl
theorem ctK_skip (s : St) (ks : List Bool) (ps : List Pc) (j : Nat) (h : j < ps.length) (hk : ks[j]?.getD false = false) : ctK s ks (ps.take (j + 1)) = ctK s ks (ps.take j) := by
  unfold ctK
  rw [kept_take ks ps j h, hk]
  rfl
theorem ctK_step (s : St) (ks : List Bool) (ps : List Pc) (j f : Nat) (p : Pc) (hp : ps[j]? = some p) (hk : ks[j]?.getD false = true) (hf : p.file = f) : ctK s ks (ps.take (j + 1)) = upd (ctK s ks (ps.take j)) (2 * f + 1) (p.ap (ctK s ks (ps.take j) (2 * f + 1))) := by
  obtain ⟨h, rfl⟩ := List.getElem?_eq_some_iff.1 hp
  have h1 : (2 * f + 1) % 2 = 1 := by omega
  have h2 : (2 * f + 1) / 2 = f := by omega
  have hkk : kept ks (ps.take (j + 1)) = kept ks (ps.take j) ++ [ps[j]] := by rw [kept_take ks ps j h, hk]; rfl
  funext i
  by_cases hi : i = 2 * f + 1
  · subst hi
    rw [upd_same]
    unfold ctK
    rw [if_neg (by omega), if_neg (by omega), hkk, foldF_app, foldF_one, h2, if_pos hf]
  · rw [upd_ne _ _ hi]
    unfold ctK
    by_cases hi2 : i % 2 = 0
    · rw [if_pos hi2, if_pos hi2]
    · rw [if_neg hi2, if_neg hi2, hkk, foldF_app, foldF_one, if_neg (by omega)]
theorem ctK_ok {s : St} (hs : s.Ok) (ks : List Bool) (j i : Nat) : (ctK s ks (s.pcs.take j) i).length ≤ maxFile := by
  unfold ctK
  split
  · exact hs.now _
  · exact foldF_len (kept_ok fun p hp => hs.pcs p (List.mem_of_mem_take hp)) (hs.sure _)
/-- What they hold while both files are laid anew. -/
def ctN (s : St) (ks : List Bool) (n i : Nat) : List UInt8 := if i % 2 = 0 ∧ n ≤ i / 2 then s.now (i / 2) else foldF (i / 2) (kept ks s.pcs) (s.sure (i / 2))
theorem ctN_zero (s : St) (ks : List Bool) : ctN s ks 0 = ctK s ks s.pcs := by
  funext i
  unfold ctN ctK
  simp
theorem ctN_step (s : St) (ks : List Bool) (n : Nat) : ctN s ks (n + 1) = upd (ctN s ks n) (2 * n) (ctN s ks n (2 * n + 1)) := by
  have h1 : 2 * n / 2 = n := by omega
  have h2 : (2 * n + 1) / 2 = n := by omega
  funext i
  by_cases hi : i = 2 * n
  · subst hi
    rw [upd_same]
    unfold ctN
    rw [if_neg (by omega), if_neg (by omega), h1, h2]
  · rw [upd_ne _ _ hi]
    unfold ctN
    by_cases h3 : i % 2 = 0 ∧ n + 1 ≤ i / 2
    · rw [if_pos h3, if_pos (by omega)]
    · rw [if_neg h3, if_neg (by omega)]
theorem ctN_two (s : St) (ks : List Bool) (i : Nat) (hi : i < 4) : ctN s ks 2 i = (s.crash ks).ct i := by
  unfold ctN St.ct
  rw [if_neg (by omega)]
  split <;> rfl
theorem Core.congr {w : World} {g : Nat} {v : Nat → Value} {ct ct' : Nat → List UInt8} {pc : Value} {qs : List PV} {kp : Value} {keep : List Bool} (h : Core w g v ct pc qs kp keep) (hc : ∀ i, i < 4 → ct i = ct' i) : Core w g v ct' pc qs kp keep :=
  ⟨fun i hi => hc i hi ▸ h.own i hi, h.dj, h.row, h.reads, h.keep, h.dgv, h.dgp, h.dgk, h.dpv, h.dkp, h.dkv⟩
theorem Core.bare {w : World} {g : Nat} {v : Nat → Value} {ct : Nat → List UInt8} {pc : Value} {qs : List PV} {kp : Value} {keep : List Bool} (h : Core w g v ct pc qs kp keep) : Core w g v ct (.slice none 0 0) [] (.slice none 0 0) [] :=
  ⟨h.own, h.dj, World.ownsRow_nil _ _ _ _, fun q hq => by simp at hq, World.ownsRow_nil _ _ _ _, h.dgv, by simp [Value.ownBlock], by simp [Value.ownBlock], fun _ _ k hk => by simp [Value.ownBlock] at hk, fun k hk => by simp [Value.ownBlock] at hk, fun _ _ k hk => by simp [Value.ownBlock] at hk⟩
theorem Grw.of_new {w w' : World} {v x : Value} {l : List UInt8} (hb : Below w.heap.size w w') (hx : OwnB w' w.heap.size x l) : Grw w w' v x :=
  ⟨⟨hb.os, hb.tape, hb.output, hb.size, fun k hk _ => hb.block k hk⟩, .inr fun k hk => (hx.lt k hk).1⟩
theorem OwnB.zero {w : World} {B : Nat} {v : Value} {l : List UInt8} (h : OwnB w B v l) : OwnB w 0 v l := by
  refine ⟨h.1, ?_⟩
  rcases h.2 with h2 | ⟨g, cap, cur, hv, hb, hg, rest⟩
  · exact .inl h2
  · exact .inr ⟨g, cap, cur, hv, Nat.zero_le _, hg, rest⟩
theorem OwnB.brd' {w : World} {a : Option Addr} {n cap : Nat} {l : List UInt8} (h : OwnB w 0 (.slice a n cap) l) (hn : n = l.length) : BRd w a l := by
  subst hn
  exact h.brd
theorem clone_at {w W : World} {A : Option Addr} {c n : Nat} {l : List UInt8} (hA : BRd w A l) (hl : l.length ≤ maxFile) (hn : n = l.length) (v : Value) (hW : Below w.heap.size w W) :
    Calls Try.prog 16 #[.slice A n c] W fun e w' => ∃ a m c, e = .returned (.slice a m c) ∧ OwnB w' 0 (.slice a m c) l ∧ Grw w w' v (.slice a m c) := by
  subst hn
  refine (clone_any A c l W (hA.below hW) (by unfold maxFile at hl; omega)).mono ?_
  rintro e w' ⟨x, rfl, h2, h3⟩
  obtain ⟨a, c, rfl, -, -⟩ := h2.slice
  exact ⟨a, _, c, rfl, h2.zero, Grw.of_below hW (Grw.of_new h3 h2)⟩

theorem cut_at2 {w W : World} {v : Value} {l : List UInt8} (n : Nat) (h : OwnB w 0 v l) (hW : Below w.heap.size w W) : Calls Try.prog 173 #[.agg #[.int .i64 n], v] W fun e w' => ∃ a m c, e = .returned (.slice a m c) ∧ OwnB w' 0 (.slice a m c) (l.take n) ∧ Grw w w' v (.slice a m c) ∧ Grw W w' v (.slice a m c) :=
  (cut_apply n v l W (h.below hW)).mono fun e w' ⟨x, h1, h2, h3⟩ => by
    obtain ⟨a, c, rfl, -, -⟩ := h2.slice
    exact ⟨a, _, c, h1, h2, Grw.of_below hW h3, h3⟩
theorem patch_at2 {w W : World} {v : Value} {l : List UInt8} (pos : Nat) (A : Option Addr) (c : Nat) (b : List UInt8) (hA : BRd w A b) (hb : 0 < b.length) (hd : Apart A v) (hlim : pos + b.length ≤ maxFile) (hl : l.length ≤ maxFile) (h : OwnB w 0 v l) (hW : Below w.heap.size w W) :
    Calls Try.prog 172 #[.agg #[.int .i64 pos, .slice A b.length c], v] W fun e w' => ∃ a m c, e = .returned (.slice a m c) ∧ OwnB w' 0 (.slice a m c) (putAt pos b l) ∧ Grw w w' v (.slice a m c) ∧ Grw W w' v (.slice a m c) :=
  (patch_apply pos A c b v l W (h.below hW) (hA.below hW) hb hd hlim hl).mono fun e w' ⟨x, h1, h2, h3⟩ => by
    obtain ⟨a, c, rfl, -, -⟩ := h2.slice
    exact ⟨a, _, c, h1, h2, Grw.of_below hW h3, h3⟩
theorem box2_kept {wr w4 : World} {x y a0 a1 : Value} {T : TypeId} {n : Nat} {l : List UInt8} (h : Grw (wr.alloc (.cells #[a0, a1] T)).drew w4 x y) (hx : OwnB wr 0 x l) : w4.cell? ⟨wr.heap.size, 0, none⟩ = some a0 ∧ w4.cell? ⟨wr.heap.size, 1, none⟩ = some a1 := by
  have hb : w4.heap[wr.heap.size]? = some (.cells #[a0, a1] T) := by
    refine (h.old (by simp) fun e => ?_).trans (heap_alloc_new wr _)
    have := (hx.lt _ e).2
    omega
  simp [World.cell?, hb]

set_option maxHeartbeats 1000000 in
theorem crash_not {p : Value} (x : Value) {w : World} (h : Mk w p false) : Calls Try.prog 32 #[p, x] w fun e w' => e = .returned (.int .i64 2) ∧ w = w' := by
  have HC := Lib.hid (isMade_any h)
  clear h
  go_enter Try.func32, Try.ntmps32
  go_wp2_with fail
  refine HC.out.mono ?_
  rintro e w' ⟨rfl, rfl⟩
  go_wp2_with fail
  go_ret
  exact ⟨rfl, rfl⟩
set_option maxHeartbeats 1000000 in
theorem crash_down (g : Nat) (x : Value) {w : World} {v : Nat → Value} {pc : Value} {qs : List PV} {kp : Value} {s : St} (hd : DSt w g v pc qs kp s) (hdn : s.down = true) : Calls Try.prog 32 #[.pointer (some ⟨g, 0, none⟩), x] w fun e w' => e = .returned (.int .i64 6) ∧ w = w' := by
  obtain ⟨⟨c0, c1, -⟩, -⟩ := box10 hd.box
  have HC := Lib.hid (isMade_any (.inr ⟨g, rfl, c0⟩))
  rw [hdn] at c1
  clear hd
  go_enter Try.func32, Try.ntmps32
  go_wp2_with fail
  refine HC.out.mono ?_
  rintro e w' ⟨rfl, rfl⟩
  go_wp2_with fail
  go_ret
  exact ⟨rfl, rfl⟩

set_option maxHeartbeats 8000000 in
set_option maxRecDepth 100000 in
theorem crash_any (g : Nat) (A : Option Addr) (c : Nat) (ks : List Bool) (w : World) (v : Nat → Value) (pc : Value) (qs : List PV) (kp : Value) (s : St) (hd : DSt w g v pc qs kp s) (hdn : s.down = false) (hA : KRd w A ks) (hAF : 0 < ks.length → ∀ a, A = some a → ¬ DF g v pc a.block) (hlim : qs.length ≤ 8000000000000) :
    Calls Try.prog 32 #[.pointer (some ⟨g, 0, none⟩), .slice A ks.length c] w fun e w' => e = .returned (.int .i64 0) ∧ ∃ v', DSt w' g v' (.slice none 0 0) [] (.slice none 0 0) (s.crash ks) ∧ Turn w w' g v pc v' (.slice none 0 0) := by
  have HD := Lib.hid hd
  have HA := Lib.hid hA
  have HAF := Lib.hid hAF
  have hgl : g < w.heap.size := (Array.getElem?_eq_some_iff.1 hd.box).1
  obtain ⟨⟨c0, c1, c2, c3, c4, c5, c6, c7, c8, c9⟩, hfz⟩ := box10 hd.box
  have HC := Lib.hid (isMade_any (.inr ⟨g, rfl, c0⟩))
  obtain ⟨apc, kpc, hpc, -⟩ := row_slice hd.core.row
  rw [hpc] at c9
  rw [hdn] at c1
  have HPC := Lib.hid hpc
  have HDN := Lib.hid hdn
  have hlimI : (qs.length : Int) ≤ 8000000000000 := by omega
  clear hd hpc hA hAF hdn
  go_enter Try.func32, Try.ntmps32
  go_wp2_with fail
  refine HC.out.mono ?_
  rintro e w' ⟨rfl, rfl⟩
  go_wp2_with fail
  clear c0 c1 c2 c3 c4 c5 c6 c7 c8 c9 hfz
  go_loopw [21] (fun idx wr => ∃ (j : Nat) (v' : Nat → Value), j ≤ qs.length ∧ idx = .int .i64 (j : Int) ∧ wr.heap[g]? = some (.cells (boxOf s v' pc kp) 95 (0, 0)) ∧ Core wr g v' (ctK s ks (s.pcs.take j)) pc qs kp s.keep ∧ Turn w wr g v pc v' pc) (fun idx _ => qs.length - (intOf idx).toNat)
  case atStart => exact ⟨0, v, by omega, rfl, HD.out.box, by rw [List.take_zero, ctK_nil]; exact HD.out.core, Turn.refl _ _ _ _⟩
  case round =>
    obtain ⟨j, v1, hj, rfl, hbox1, hcore1, ht1⟩ := hrel
    have HB1 := Lib.hid hbox1
    have HC1 := Lib.hid hcore1
    have HT1 := Lib.hid ht1
    have hgr : g < wr.heap.size := (Array.getElem?_eq_some_iff.1 hbox1).1
    have hpl : s.pcs.length = qs.length := by rw [HD.out.names, List.length_map]
    have HPL := Lib.hid hpl
    by_cases hjn : j < qs.length
    · obtain ⟨pb, cap', hx, -, hxl⟩ := World.ownsRow.form hcore1.row (by omega)
      have hx2 := HPC.out.symm.trans hx
      obtain ⟨rfl, rfl⟩ : apc = some ⟨pb, 0, none⟩ ∧ kpc = cap' := by simpa using hx2
      obtain ⟨q, hqq⟩ : ∃ q, q = qs[j] := ⟨_, rfl⟩
      have hpb : pc.ownBlock = some pb := by rw [hx]; rfl
      have hr := rowOf_at qs j hjn
      have hcell1 := World.ownsRow.cells hcore1.row hpb (j * 2) _ hr.1
      have hcell2 := World.ownsRow.cells hcore1.row hpb (j * 2 + 1) _ hr.2
      rw [Go.WideShapes.add_plain, Nat.zero_add, ← hqq] at hcell1 hcell2
      have HQQ := Lib.hid hqq
      have hqm : q ∈ qs := by rw [hqq]; exact List.getElem_mem _
      have HQM := Lib.hid hqm
      have hqp : s.pcs[j]? = some q.p := by rw [HD.out.names, hqq, List.getElem?_map, List.getElem?_eq_getElem hjn]; rfl
      have HQP := Lib.hid hqp
      have HPO := Lib.hid (HD.out.ok.pcs q.p (by rw [HD.out.names]; exact List.mem_map_of_mem hqm))
      have HLN := Lib.hid (fun i => ctK_ok HD.out.ok ks j i)
      have HKR := Lib.hid (HA.out.fr HT1.out.fr HAF.out)
      obtain ⟨⟨c0, c1, c2, c3, c4, c5, c6, c7, c8, c9⟩, hfz⟩ := box10 hbox1
      have hfn : q.func = .func (.method "colonnade/disk.apply") #[q.iface] #[] := rfl
      rw [hfn] at hcell2
      have hstF := store_meth
      clear hbox1 hcore1 ht1 hx hx2 hpb hr hqq hfn hqm hqp hpl
      by_cases hkj : ks[j]?.getD false = true
      · have hjk : j < ks.length := by
          rcases Nat.lt_or_ge j ks.length with h | h
          · exact h
          · rw [List.getElem?_eq_none h] at hkj
            simp at hkj
        have hkv : ks[j] = true := by rw [List.getElem?_eq_getElem hjk] at hkj; simpa using hkj
        obtain ⟨kb, ko, rfl, hkb, hkc⟩ := HKR.out (by omega)
        have hkcell := hkc j hjk
        rw [hkv] at hkcell
        have HKJ := Lib.hid hkj
        have hjkI : (j : Int) < ks.length := by omega
        clear hkc hkv hkj
        rcases Nat.lt_or_ge q.p.file 1 with hq0 | hq1
        · have hqf : q.p.file = 0 := by omega
          rw [hqf] at hcell1
          have HQF := Lib.hid hqf
          clear hqf hq0
          cases hknd : q.p.cut with
          | true =>
            have hqi : q.iface = .iface 195 (.agg #[.int .i64 q.p.pos]) := by unfold PV.iface; rw [hknd]; rfl
            rw [hqi] at hcell2
            have hnil := nil_cut
            have HAP := Lib.hid (fun W hW => cut_at2 (w := wr) (W := W) q.p.pos (HC1.out.own 1 (by omega)) hW)
            clear hqi
            go_wp2_with fail
            have hz6 := hfz 6
            clear c0 c1 c2 c3 c4 c5 c7 c8 c9 hfz hcell1 hcell2 hkcell hstF hjkI hlim
            go_region_with (go_at_call 173; refine (HAP.out _ (alloc_below wr _).drew).mono ?_; rintro e w4 ⟨a4, n4, k4, rfl, hx4, hg4, hg5⟩; obtain ⟨hk40, hk41⟩ := box2_kept (n := 0) hg5 (HC1.out.own 1 (by omega)); have hbx4 := Lib.hid (grw_box hg4 (Below.refl _ _) HB1.out (HC1.out.dgv 1 (by omega))); have hz4 := (box10 hbx4.out).2 6; have c4 := (box10 hbx4.out).1.2.2.2.2.2.2.1; have HX4 := Lib.hid hx4; have HG4 := Lib.hid hg4; clear hx4 hg4 hg5)
            all_goals
              have hap := ctK_step s ks s.pcs j 0 q.p HQP.out HKJ.out HQF.out
              have hpa : q.p.ap (ctK s ks (s.pcs.take j) 1) = List.take q.p.pos (ctK s ks (s.pcs.take j) 1) := by unfold Pc.ap; rw [hknd]; rfl
              have hcc := HC1.out.upd hgr (by omega) HX4.out HG4.out
              have hap2 : ctK s ks (s.pcs.take (j + 1)) = upd (ctK s ks (s.pcs.take j)) 1 (q.p.ap (ctK s ks (s.pcs.take j) 1)) := hap
              rw [← hpa, ← hap2] at hcc
              have HEND : Hid (∃ v2, (w4.setCell ⟨g, 6, none⟩ (.slice a4 n4 k4)).heap[g]? = some (.cells (boxOf s v2 pc kp) 95 (0, 0)) ∧ Core (w4.setCell ⟨g, 6, none⟩ (.slice a4 n4 k4)) g v2 (ctK s ks (s.pcs.take (j + 1))) pc qs kp s.keep ∧ Turn w (w4.setCell ⟨g, 6, none⟩ (.slice a4 n4 k4)) g v pc v2 pc) :=
                ⟨upd v1 1 (.slice a4 n4 k4), set10 hbx4.out 6 _, hcc.set 6 _, (HT1.out.trans (Turn.upd (by omega) HG4.out)).trans (Turn.set _ _ _ _ _ _)⟩
              clear hap hap2 hpa hcc c4 hz4 hbx4 HX4 HG4 c6 hz6 hk40 hk41
              generalize w4.setCell ⟨g, 6, none⟩ (.slice a4 n4 k4) = w5 at *
            all_goals go_wp2_with fail
            all_goals go_roundw
            all_goals first
              | (simp only [intOf]; omega)
              | (obtain ⟨v2, h1, h2, h3⟩ := HEND.out
                 exact ⟨j + 1, v2, hjn, rfl, h1, h2, h3⟩)
          | false =>
            have hqi : q.iface = .iface 175 (.agg #[.int .i64 q.p.pos, .slice q.A q.p.b.length q.c]) := by unfold PV.iface; rw [hknd]; rfl
            rw [hqi] at hcell2
            have hnil := nil_patch
            have HAP := Lib.hid (fun W hW => patch_at2 (w := wr) (W := W) q.p.pos q.A q.c q.p.b (HC1.out.reads q HQM.out).1 (HPO.out.full hknd) (fun x hx hv => ((HC1.out.reads q HQM.out).2 x hx).2.2.2 1 (by omega) hv) HPO.out.fits (HLN.out 1) (HC1.out.own 1 (by omega)) hW)
            clear hqi
            go_wp2_with fail
            have hz6 := hfz 6
            clear c0 c1 c2 c3 c4 c5 c7 c8 c9 hfz hcell1 hcell2 hkcell hstF hjkI hlim
            go_region_with (go_at_call 172; refine (HAP.out _ (alloc_below wr _).drew).mono ?_; rintro e w4 ⟨a4, n4, k4, rfl, hx4, hg4, hg5⟩; obtain ⟨hk40, hk41⟩ := box2_kept (n := 0) hg5 (HC1.out.own 1 (by omega)); have hbx4 := Lib.hid (grw_box hg4 (Below.refl _ _) HB1.out (HC1.out.dgv 1 (by omega))); have hz4 := (box10 hbx4.out).2 6; have c4 := (box10 hbx4.out).1.2.2.2.2.2.2.1; have HX4 := Lib.hid hx4; have HG4 := Lib.hid hg4; clear hx4 hg4 hg5)
            all_goals
              have hap := ctK_step s ks s.pcs j 0 q.p HQP.out HKJ.out HQF.out
              have hpa : q.p.ap (ctK s ks (s.pcs.take j) 1) = putAt q.p.pos q.p.b (ctK s ks (s.pcs.take j) 1) := by unfold Pc.ap; rw [hknd]; rfl
              have hcc := HC1.out.upd hgr (by omega) HX4.out HG4.out
              have hap2 : ctK s ks (s.pcs.take (j + 1)) = upd (ctK s ks (s.pcs.take j)) 1 (q.p.ap (ctK s ks (s.pcs.take j) 1)) := hap
              rw [← hpa, ← hap2] at hcc
              have HEND : Hid (∃ v2, (w4.setCell ⟨g, 6, none⟩ (.slice a4 n4 k4)).heap[g]? = some (.cells (boxOf s v2 pc kp) 95 (0, 0)) ∧ Core (w4.setCell ⟨g, 6, none⟩ (.slice a4 n4 k4)) g v2 (ctK s ks (s.pcs.take (j + 1))) pc qs kp s.keep ∧ Turn w (w4.setCell ⟨g, 6, none⟩ (.slice a4 n4 k4)) g v pc v2 pc) :=
                ⟨upd v1 1 (.slice a4 n4 k4), set10 hbx4.out 6 _, hcc.set 6 _, (HT1.out.trans (Turn.upd (by omega) HG4.out)).trans (Turn.set _ _ _ _ _ _)⟩
              clear hap hap2 hpa hcc c4 hz4 hbx4 HX4 HG4 c6 hz6 hk40 hk41
              generalize w4.setCell ⟨g, 6, none⟩ (.slice a4 n4 k4) = w5 at *
            all_goals go_wp2_with fail
            all_goals go_roundw
            all_goals first
              | (simp only [intOf]; omega)
              | (obtain ⟨v2, h1, h2, h3⟩ := HEND.out
                 exact ⟨j + 1, v2, hjn, rfl, h1, h2, h3⟩)
        · have hqf : q.p.file = 1 := by have := HPO.out.file; omega
          rw [hqf] at hcell1
          have HQF := Lib.hid hqf
          clear hqf hq1
          cases hknd : q.p.cut with
          | true =>
            have hqi : q.iface = .iface 195 (.agg #[.int .i64 q.p.pos]) := by unfold PV.iface; rw [hknd]; rfl
            rw [hqi] at hcell2
            have hnil := nil_cut
            have HAP := Lib.hid (fun W hW => cut_at2 (w := wr) (W := W) q.p.pos (HC1.out.own 3 (by omega)) hW)
            clear hqi
            go_wp2_with fail
            have hz8 := hfz 8
            clear c0 c1 c2 c3 c4 c5 c6 c7 c9 hfz hcell1 hcell2 hkcell hstF hjkI hlim
            go_region_with (go_at_call 173; refine (HAP.out _ (alloc_below wr _).drew).mono ?_; rintro e w4 ⟨a4, n4, k4, rfl, hx4, hg4, hg5⟩; obtain ⟨hk40, hk41⟩ := box2_kept (n := 0) hg5 (HC1.out.own 3 (by omega)); have hbx4 := Lib.hid (grw_box hg4 (Below.refl _ _) HB1.out (HC1.out.dgv 3 (by omega))); have hz4 := (box10 hbx4.out).2 8; have c4 := (box10 hbx4.out).1.2.2.2.2.2.2.2.2.1; have HX4 := Lib.hid hx4; have HG4 := Lib.hid hg4; clear hx4 hg4 hg5)
            all_goals
              have hap := ctK_step s ks s.pcs j 1 q.p HQP.out HKJ.out HQF.out
              have hpa : q.p.ap (ctK s ks (s.pcs.take j) 3) = List.take q.p.pos (ctK s ks (s.pcs.take j) 3) := by unfold Pc.ap; rw [hknd]; rfl
              have hcc := HC1.out.upd hgr (by omega) HX4.out HG4.out
              have hap2 : ctK s ks (s.pcs.take (j + 1)) = upd (ctK s ks (s.pcs.take j)) 3 (q.p.ap (ctK s ks (s.pcs.take j) 3)) := hap
              rw [← hpa, ← hap2] at hcc
              have HEND : Hid (∃ v2, (w4.setCell ⟨g, 8, none⟩ (.slice a4 n4 k4)).heap[g]? = some (.cells (boxOf s v2 pc kp) 95 (0, 0)) ∧ Core (w4.setCell ⟨g, 8, none⟩ (.slice a4 n4 k4)) g v2 (ctK s ks (s.pcs.take (j + 1))) pc qs kp s.keep ∧ Turn w (w4.setCell ⟨g, 8, none⟩ (.slice a4 n4 k4)) g v pc v2 pc) :=
                ⟨upd v1 3 (.slice a4 n4 k4), set10 hbx4.out 8 _, hcc.set 8 _, (HT1.out.trans (Turn.upd (by omega) HG4.out)).trans (Turn.set _ _ _ _ _ _)⟩
              clear hap hap2 hpa hcc c4 hz4 hbx4 HX4 HG4 c8 hz8 hk40 hk41
              generalize w4.setCell ⟨g, 8, none⟩ (.slice a4 n4 k4) = w5 at *
            all_goals go_wp2_with fail
            all_goals go_roundw
            all_goals first
              | (simp only [intOf]; omega)
              | (obtain ⟨v2, h1, h2, h3⟩ := HEND.out
                 exact ⟨j + 1, v2, hjn, rfl, h1, h2, h3⟩)
          | false =>
            have hqi : q.iface = .iface 175 (.agg #[.int .i64 q.p.pos, .slice q.A q.p.b.length q.c]) := by unfold PV.iface; rw [hknd]; rfl
            rw [hqi] at hcell2
            have hnil := nil_patch
            have HAP := Lib.hid (fun W hW => patch_at2 (w := wr) (W := W) q.p.pos q.A q.c q.p.b (HC1.out.reads q HQM.out).1 (HPO.out.full hknd) (fun x hx hv => ((HC1.out.reads q HQM.out).2 x hx).2.2.2 3 (by omega) hv) HPO.out.fits (HLN.out 3) (HC1.out.own 3 (by omega)) hW)
            clear hqi
            go_wp2_with fail
            have hz8 := hfz 8
            clear c0 c1 c2 c3 c4 c5 c6 c7 c9 hfz hcell1 hcell2 hkcell hstF hjkI hlim
            go_region_with (go_at_call 172; refine (HAP.out _ (alloc_below wr _).drew).mono ?_; rintro e w4 ⟨a4, n4, k4, rfl, hx4, hg4, hg5⟩; obtain ⟨hk40, hk41⟩ := box2_kept (n := 0) hg5 (HC1.out.own 3 (by omega)); have hbx4 := Lib.hid (grw_box hg4 (Below.refl _ _) HB1.out (HC1.out.dgv 3 (by omega))); have hz4 := (box10 hbx4.out).2 8; have c4 := (box10 hbx4.out).1.2.2.2.2.2.2.2.2.1; have HX4 := Lib.hid hx4; have HG4 := Lib.hid hg4; clear hx4 hg4 hg5)
            all_goals
              have hap := ctK_step s ks s.pcs j 1 q.p HQP.out HKJ.out HQF.out
              have hpa : q.p.ap (ctK s ks (s.pcs.take j) 3) = putAt q.p.pos q.p.b (ctK s ks (s.pcs.take j) 3) := by unfold Pc.ap; rw [hknd]; rfl
              have hcc := HC1.out.upd hgr (by omega) HX4.out HG4.out
              have hap2 : ctK s ks (s.pcs.take (j + 1)) = upd (ctK s ks (s.pcs.take j)) 3 (q.p.ap (ctK s ks (s.pcs.take j) 3)) := hap
              rw [← hpa, ← hap2] at hcc
              have HEND : Hid (∃ v2, (w4.setCell ⟨g, 8, none⟩ (.slice a4 n4 k4)).heap[g]? = some (.cells (boxOf s v2 pc kp) 95 (0, 0)) ∧ Core (w4.setCell ⟨g, 8, none⟩ (.slice a4 n4 k4)) g v2 (ctK s ks (s.pcs.take (j + 1))) pc qs kp s.keep ∧ Turn w (w4.setCell ⟨g, 8, none⟩ (.slice a4 n4 k4)) g v pc v2 pc) :=
                ⟨upd v1 3 (.slice a4 n4 k4), set10 hbx4.out 8 _, hcc.set 8 _, (HT1.out.trans (Turn.upd (by omega) HG4.out)).trans (Turn.set _ _ _ _ _ _)⟩
              clear hap hap2 hpa hcc c4 hz4 hbx4 HX4 HG4 c8 hz8 hk40 hk41
              generalize w4.setCell ⟨g, 8, none⟩ (.slice a4 n4 k4) = w5 at *
            all_goals go_wp2_with fail
            all_goals go_roundw
            all_goals first
              | (simp only [intOf]; omega)
              | (obtain ⟨v2, h1, h2, h3⟩ := HEND.out
                 exact ⟨j + 1, v2, hjn, rfl, h1, h2, h3⟩)
      · have HKJ : Hid (ks[j]?.getD false = false) := by show _ = _; simpa using hkj
        obtain ⟨uf, huf⟩ : ∃ u : Nat, u = q.p.file := ⟨_, rfl⟩
        obtain ⟨ui, hui⟩ : ∃ u, u = q.iface := ⟨_, rfl⟩
        rw [← huf] at hcell1
        rw [← hui] at hcell2
        clear hui huf
        by_cases hjk : j < ks.length
        · have hkv : ks[j] = false := by rw [List.getElem?_eq_getElem hjk] at hkj; simpa using hkj
          obtain ⟨kb, ko, rfl, hkb, hkc⟩ := HKR.out (by omega)
          have hkcell := hkc j hjk
          rw [hkv] at hkcell
          have hjkI : (j : Int) < ks.length := by omega
          clear hkc hkv hkj
          go_wp2_with fail
          go_roundw
          case measure => simp only [intOf]; omega
          case rel =>
            refine ⟨j + 1, v1, hjn, rfl, ((alloc_below wr _).block g hgr).trans HB1.out, ?_, HT1.out.trans (Turn.below (alloc_below _ _))⟩
            rw [ctK_skip s ks s.pcs j (by rw [HPL.out]; exact hjn) HKJ.out]
            exact HC1.out.below (alloc_below _ _)
        · have hjkI : ¬ (j : Int) < ks.length := by omega
          clear hkj
          go_wp2_with fail
          go_roundw
          case measure => simp only [intOf]; omega
          case rel =>
            refine ⟨j + 1, v1, hjn, rfl, ((alloc_below wr _).block g hgr).trans HB1.out, ?_, HT1.out.trans (Turn.below (alloc_below _ _))⟩
            rw [ctK_skip s ks s.pcs j (by rw [HPL.out]; exact hjn) HKJ.out]
            exact HC1.out.below (alloc_below _ _)
    · clear hpl
      have hjn' : j = qs.length := by omega
      subst hjn'
      have hfull : s.pcs.take qs.length = s.pcs := by rw [← HPL.out]; exact List.take_length
      have hc2 := hcore1
      rw [hfull, ← ctN_zero] at hc2
      have HC2 := Lib.hid hc2
      obtain ⟨⟨c0, c1, c2, c3, c4, c5, c6, c7, c8, c9⟩, hfz⟩ := box10 hbox1
      clear hcore1 hbox1 ht1 hfull hc2
      obtain ⟨a0, n0, k0, e0⟩ : ∃ a n k, v1 0 = .slice a n k := by obtain ⟨a, k, e, -, -⟩ := (HC2.out.own 0 (by omega)).slice; exact ⟨a, _, k, e⟩
      obtain ⟨a1, n1, k1, e1⟩ : ∃ a n k, v1 1 = .slice a n k := by obtain ⟨a, k, e, -, -⟩ := (HC2.out.own 1 (by omega)).slice; exact ⟨a, _, k, e⟩
      obtain ⟨a2, n2, k2, e2⟩ : ∃ a n k, v1 2 = .slice a n k := by obtain ⟨a, k, e, -, -⟩ := (HC2.out.own 2 (by omega)).slice; exact ⟨a, _, k, e⟩
      obtain ⟨a3, n3, k3, e3⟩ : ∃ a n k, v1 3 = .slice a n k := by obtain ⟨a, k, e, -, -⟩ := (HC2.out.own 3 (by omega)).slice; exact ⟨a, _, k, e⟩
      rw [e0] at c5
      rw [e1] at c6
      rw [e2] at c7
      rw [e3] at c8
      have E1 := Lib.hid e1
      have E3 := Lib.hid e3
      clear e0 e1 e2 e3
      go_wp2_with fail
      clear c0 c1 c2 c3 c4 c5 c6 c7 c8 c9 hfz HA HAF HPL hgr
      have HB0 := HB1
      have HT0 := HT1
      go_loopw [59] (fun idx wr => ∃ (n : Nat) (v2 : Nat → Value), n ≤ 2 ∧ idx = .int .i64 (n : Int) ∧ wr.heap[g]? = some (.cells (boxOf s v2 pc kp) 95 (0, 0)) ∧ Core wr g v2 (ctN s ks n) pc qs kp s.keep ∧ Turn w wr g v pc v2 pc ∧ v2 1 = v1 1 ∧ v2 3 = v1 3) (fun idx _ => 2 - (intOf idx).toNat)
      case atStart => exact ⟨0, v1, by omega, rfl, HB1.out, HC2.out, HT1.out, rfl, rfl⟩
      case round =>
        clear HC2 HB1 HT1 HB0 HT0
        obtain ⟨n, v2, hn, rfl, hbox2, hcore2, ht2, hv1, hv3⟩ := hrel
        have HB2 := Lib.hid hbox2
        have HC2 := Lib.hid hcore2
        have HT2 := Lib.hid ht2
        have HV1 := Lib.hid hv1
        have HV3 := Lib.hid hv3
        have hgr2 : g < wr.heap.size := (Array.getElem?_eq_some_iff.1 hbox2).1
        have HLB : Hid (∀ n i, (ctN s ks n i).length ≤ maxFile) := by
          intro n i
          unfold ctN
          split
          · exact HD.out.ok.now _
          · exact foldF_len (kept_ok HD.out.ok.pcs) (HD.out.ok.sure _)
        have HNE1 : Hid (∀ {w0 : World} {l : List UInt8}, OwnB w0 0 (.slice a1 n1 k1) l → n1 = l.length) := fun h => by obtain ⟨a, k, e, -, -⟩ := h.slice; simp at e; exact e.2.1
        have HNE3 : Hid (∀ {w0 : World} {l : List UInt8}, OwnB w0 0 (.slice a3 n3 k3) l → n3 = l.length) := fun h => by obtain ⟨a, k, e, -, -⟩ := h.slice; simp at e; exact e.2.1
        obtain ⟨⟨d0, d1, d2, d3, d4, d5, d6, d7, d8, d9⟩, hfz⟩ := box10 hbox2
        clear hbox2 hcore2 ht2
        rcases (by omega : n = 0 ∨ n = 1 ∨ n = 2) with rfl | rfl | rfl
        · clear hn
          have hcs := HC2.out.own 1 (by omega)
          rw [hv1, E1.out] at hcs
          have HAP := Lib.hid (fun W hW => clone_at (w := wr) (W := W) (A := a1) (c := k1) (n := n1) (hcs.brd' (HNE1.out hcs)) (HLB.out 0 1) (HNE1.out hcs) (v2 0) hW)
          clear hcs hv1 hv3
          have hix := fun a b c d w => (index_file a b c d w).1
          go_wp2_with fail
          go_region_with (go_at_call 16; refine (HAP.out _ (by first | exact alloc_below wr _ | exact (alloc_below wr _).drew)).mono ?_; rintro e w4 ⟨a4, n4, k4, rfl, hx4, hg4⟩; have hbx4 := Lib.hid (grw_box hg4 (Below.refl _ _) HB2.out (HC2.out.dgv 0 (by omega))); obtain ⟨⟨c40, c41, c42, c43, c44, c45, c46, c47, c48, c49⟩, hfz4⟩ := box10 hbx4.out; have HX4 := Lib.hid hx4; have HG4 := Lib.hid hg4; clear hx4 hg4)
          all_goals
            have hcc := HC2.out.upd hgr2 (by omega) HX4.out HG4.out
            have hst : ctN s ks (0 + 1) = upd (ctN s ks 0) 0 (ctN s ks 0 1) := ctN_step s ks 0
            rw [← hst] at hcc
            have HEND : Hid (∃ v3, (w4.setCell ⟨g, 5, none⟩ (.slice a4 n4 k4)).heap[g]? = some (.cells (boxOf s v3 pc kp) 95 (0, 0)) ∧ Core (w4.setCell ⟨g, 5, none⟩ (.slice a4 n4 k4)) g v3 (ctN s ks (0 + 1)) pc qs kp s.keep ∧ Turn w (w4.setCell ⟨g, 5, none⟩ (.slice a4 n4 k4)) g v pc v3 pc ∧ v3 1 = v1 1 ∧ v3 3 = v1 3) :=
              ⟨upd v2 0 (.slice a4 n4 k4), set10 hbx4.out 5 _, hcc.set 5 _, (HT2.out.trans (Turn.upd (by omega) HG4.out)).trans (Turn.set _ _ _ _ _ _), by rw [upd_ne _ _ (by omega)]; exact HV1.out, by rw [upd_ne _ _ (by omega)]; exact HV3.out⟩
            clear hst hcc c40 c41 c42 c43 c44 c45 c46 c47 c48 c49 hfz4 hbx4 HX4 HG4 d0 d1 d2 d3 d4 d5 d6 d7 d8 d9 hfz
            generalize w4.setCell ⟨g, 5, none⟩ (.slice a4 n4 k4) = w5 at *
          all_goals go_wp2_with fail
          all_goals go_roundw
          all_goals first
            | (simp only [intOf]; omega)
            | (obtain ⟨v3, h1, h2, h3, h4⟩ := HEND.out
               exact ⟨0 + 1, v3, by omega, rfl, h1, h2, h3, h4⟩)
        · clear hn
          have hcs := HC2.out.own 3 (by omega)
          rw [hv3, E3.out] at hcs
          have HAP := Lib.hid (fun W hW => clone_at (w := wr) (W := W) (A := a3) (c := k3) (n := n3) (hcs.brd' (HNE3.out hcs)) (HLB.out 1 3) (HNE3.out hcs) (v2 2) hW)
          clear hcs hv1 hv3
          have hix := fun a b c d w => (index_file a b c d w).2
          go_wp2_with fail
          go_region_with (go_at_call 16; refine (HAP.out _ (by first | exact alloc_below wr _ | exact (alloc_below wr _).drew)).mono ?_; rintro e w4 ⟨a4, n4, k4, rfl, hx4, hg4⟩; have hbx4 := Lib.hid (grw_box hg4 (Below.refl _ _) HB2.out (HC2.out.dgv 2 (by omega))); obtain ⟨⟨c40, c41, c42, c43, c44, c45, c46, c47, c48, c49⟩, hfz4⟩ := box10 hbx4.out; have HX4 := Lib.hid hx4; have HG4 := Lib.hid hg4; clear hx4 hg4)
          all_goals
            have hcc := HC2.out.upd hgr2 (by omega) HX4.out HG4.out
            have hst : ctN s ks (1 + 1) = upd (ctN s ks 1) 2 (ctN s ks 1 3) := ctN_step s ks 1
            rw [← hst] at hcc
            have HEND : Hid (∃ v3, (w4.setCell ⟨g, 7, none⟩ (.slice a4 n4 k4)).heap[g]? = some (.cells (boxOf s v3 pc kp) 95 (0, 0)) ∧ Core (w4.setCell ⟨g, 7, none⟩ (.slice a4 n4 k4)) g v3 (ctN s ks (1 + 1)) pc qs kp s.keep ∧ Turn w (w4.setCell ⟨g, 7, none⟩ (.slice a4 n4 k4)) g v pc v3 pc ∧ v3 1 = v1 1 ∧ v3 3 = v1 3) :=
              ⟨upd v2 2 (.slice a4 n4 k4), set10 hbx4.out 7 _, hcc.set 7 _, (HT2.out.trans (Turn.upd (by omega) HG4.out)).trans (Turn.set _ _ _ _ _ _), by rw [upd_ne _ _ (by omega)]; exact HV1.out, by rw [upd_ne _ _ (by omega)]; exact HV3.out⟩
            clear hst hcc c40 c41 c42 c43 c44 c45 c46 c47 c48 c49 hfz4 hbx4 HX4 HG4 d0 d1 d2 d3 d4 d5 d6 d7 d8 d9 hfz
            generalize w4.setCell ⟨g, 7, none⟩ (.slice a4 n4 k4) = w5 at *
          all_goals go_wp2_with fail
          all_goals go_roundw
          all_goals first
            | (simp only [intOf]; omega)
            | (obtain ⟨v3, h1, h2, h3, h4⟩ := HEND.out
               exact ⟨1 + 1, v3, by omega, rfl, h1, h2, h3, h4⟩)
        · have hcr : Core wr g v2 (s.crash ks).ct (.slice none 0 0) [] (.slice none 0 0) [] := (HC2.out.congr (ctN_two s ks)).bare
          have HEND : Hid (∃ v', DSt ((((wr.setCell ⟨g, 9, none⟩ (.slice none 0 0)).setCell ⟨g, 3, none⟩ (.int .i64 0)).setCell ⟨g, 4, none⟩ (.slice none 0 0)).setCell ⟨g, 1, none⟩ (.bool true)) g v' (.slice none 0 0) [] (.slice none 0 0) (s.crash ks) ∧ Turn w ((((wr.setCell ⟨g, 9, none⟩ (.slice none 0 0)).setCell ⟨g, 3, none⟩ (.int .i64 0)).setCell ⟨g, 4, none⟩ (.slice none 0 0)).setCell ⟨g, 1, none⟩ (.bool true)) g v pc v' (.slice none 0 0)) :=
            ⟨v2, ⟨set10 (set10 (set10 (set10 HB2.out 9 _) 3 _) 4 _) 1 _, (((hcr.set 9 _).set 3 _).set 4 _).set 1 _, rfl, HD.out.ok.crash ks⟩, (((HT2.out.newrow fun k _ e => by simp [Value.ownBlock] at e).trans (Turn.set _ _ _ _ _ _)).trans (Turn.set _ _ _ _ _ _)).trans (Turn.set _ _ _ _ _ _) |>.trans (Turn.set _ _ _ _ _ _)⟩
          clear hcr HC2 HB2 HT2 HLB HNE1 HNE3 hv1 hv3 HV1 HV3
          go_wp2_with fail
          go_ret
          exact ⟨rfl, HEND.out⟩
end Go.Proofs.Ytellmmgiabfacaa
