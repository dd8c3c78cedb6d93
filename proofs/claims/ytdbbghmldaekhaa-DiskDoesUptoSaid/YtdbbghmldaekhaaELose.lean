/-
  The document's disk: lose, ends, Crash.
-/
import Derived.Test.YtdbbghmldaekhaaEOps2
namespace Go.Proofs.Ytdbbghmldaekhaa
open Go.ChangeShapes Go.WideShapes Go.ChangeAt Go.RowKit
set_option linter.unusedVariables false

/-- What is sure once some pieces are kept. -/
def suK (s : St) (l : List Bool) (ps : List Pc) (i : Nat) : List UInt8 := foldF i (kept l ps) (s.sure i)
theorem suK_nil (s : St) (l : List Bool) : suK s l [] = s.sure := by
  funext i
  unfold suK
  have : kept l [] = [] := by cases l <;> rfl
  rw [this]
  rfl
theorem suK_skip (s : St) (l : List Bool) (ps : List Pc) (j : Nat) (h : j < ps.length) (hk : l[j]?.getD false = false) : suK s l (ps.take (j + 1)) = suK s l (ps.take j) := by
  unfold suK
  rw [kept_take l ps j h, hk]
  rfl
theorem suK_step (s : St) (l : List Bool) (ps : List Pc) (j f : Nat) (p : Pc) (hp : ps[j]? = some p) (hk : l[j]?.getD false = true) (hf : p.file = f) : suK s l (ps.take (j + 1)) = upd (suK s l (ps.take j)) f (p.ap (suK s l (ps.take j) f)) := by
  obtain ⟨h, rfl⟩ := List.getElem?_eq_some_iff.1 hp
  have hkk : kept l (ps.take (j + 1)) = kept l (ps.take j) ++ [ps[j]] := by rw [kept_take l ps j h, hk]; rfl
  funext i
  unfold suK
  rw [hkk, foldF_app, foldF_one]
  by_cases hi : i = f
  · subst hi
    rw [upd_same, if_pos hf]
  · rw [upd_ne _ _ hi, if_neg (fun e => hi (e.symm.trans hf))]
theorem suK_ok {s : St} (hs : s.Ok) (l : List Bool) (j i : Nat) : (suK s l (s.pcs.take j) i).length ≤ maxFile := foldF_len (kept_ok fun p hp => hs.pcs p (List.mem_of_mem_take hp)) (hs.sure _)
theorem RCore.none {w : World} {B g : Nat} {a : Nat → Option Addr} {k : Nat → Nat} {pc : Value} {qs : List PV} {ka : Option Addr} {ks : List Bool} {R : Nat → Prop} {su : Nat → List UInt8} (h : RCore w B g a k pc qs ka ks R su) : RCore w B g a k (.slice none 0 0) [] ka ks R su :=
  ⟨h.base, h.glt, World.ownsRow_nil _ _ _ _, h.sure, fun q hq => by simp at hq, h.keep, h.nog, fun j hj => by simp [Value.ownBlock] at hj, by simp [Value.ownBlock], h.lt⟩
theorem RTurn.none {w w' : World} {g : Nat} {pc pc' : Value} {R R' : Nat → Prop} (h : RTurn w w' g pc R pc' R') : RTurn w w' g pc R (.slice none 0 0) R' := ⟨h.fr, fun j _ hj => by simp [Value.ownBlock] at hj, h.newR⟩
set_option maxHeartbeats 6400000 in
set_option maxRecDepth 100000 in
theorem rlose_any (A : Option Addr) (c : Nat) (l : List Bool) (w : World) (B g : Nat) (a : Nat → Option Addr) (k : Nat → Nat) (pc : Value) (qs : List PV) (ka : Option Addr) (kc : Nat) (ks : List Bool) (R : Nat → Prop) (s : St) (hd : RSt w B g a k pc qs ka kc ks R s) (hA : KRd w A l) (hAF : 0 < l.length → ∀ x, A = some x → ¬ RF g pc x.block) (hlim : qs.length ≤ 8000000000000) :
    Calls Try.prog 104 #[.pointer (some ⟨g, 0, none⟩), .slice A l.length c] w fun e w' => e = .returned (.tuple #[]) ∧ ∃ R', RDisk w' B g (.slice none 0 0) R' (s.crash l) ∧ RTurn w w' g pc R (.slice none 0 0) R' := by
  have HD := Lib.hid hd
  have HA := Lib.hid hA
  have HAF := Lib.hid hAF
  have hgl := hd.g_lt
  obtain ⟨⟨c0, c1, c2, c3, c4, c5, c6⟩, hfz⟩ := box7 hd.box
  obtain ⟨pa, pk, hpc⟩ := row_sliceV hd.core.row
  rw [hpc] at c2
  have HPC := Lib.hid hpc
  have hlimI : (qs.length : Int) ≤ 8000000000000 := by omega
  clear hd hpc hA hAF
  go_enter Try.func104, Try.ntmps104
  go_wp2_with fail
  clear c0 c1 c2 c3 c4 c5 c6 hfz
  go_loopw [4] (fun idx wr => ∃ (j : Nat) (a1 : Nat → Option Addr) (k1 : Nat → Nat) (R1 : Nat → Prop), j ≤ qs.length ∧ idx = .int .i64 (j : Int) ∧ wr.heap[g]? = some (.cells (rbox { s with sure := suK s l (s.pcs.take j) } a1 k1 pc ka kc ks) 100 (0, 0)) ∧ RCore wr B g a1 k1 pc qs ka ks R1 (suK s l (s.pcs.take j)) ∧ RTurn w wr g pc R pc R1) (fun idx _ => qs.length - (intOf idx).toNat)
  case atStart => exact ⟨0, a, k, R, by omega, rfl, by rw [List.take_zero, suK_nil]; exact HD.out.box, by rw [List.take_zero, suK_nil]; exact HD.out.core, RTurn.refl _ _ _ _⟩
  case round =>
    obtain ⟨j, a1, k1, R1, hj, rfl, hbox1, hcore1, ht1⟩ := hrel
    have HB1 := Lib.hid hbox1
    have HC1 := Lib.hid hcore1
    have HT1 := Lib.hid ht1
    have hgr := hcore1.glt
    have hpl : s.pcs.length = qs.length := by rw [HD.out.names, List.length_map]
    have HPL := Lib.hid hpl
    obtain ⟨⟨c0, c1, c2, c3, c4, c5, c6⟩, hfz⟩ := box7 hbox1
    rw [HPC.out] at c2
    by_cases hjn : j < qs.length
    · obtain ⟨pb, cap', hx, -, hxl⟩ := World.ownsRow.form hcore1.row (by omega)
      have hx2 := HPC.out.symm.trans hx
      obtain ⟨rfl, rfl⟩ : pa = some ⟨pb, 0, none⟩ ∧ pk = cap' := by simpa using hx2
      have hpb : pc.ownBlock = some pb := by rw [hx]; rfl
      obtain ⟨q, hqq⟩ : ∃ q, q = qs[j] := ⟨_, rfl⟩
      have hr := row4_at qs j hjn
      rw [← hqq] at hr
      have g0 := World.ownsRow.cells hcore1.row hpb (j * 4) _ hr.1
      have g1 := World.ownsRow.cells hcore1.row hpb (j * 4 + 1) _ hr.2.1
      have g2 := World.ownsRow.cells hcore1.row hpb (j * 4 + 2) _ hr.2.2.1
      have g3 := World.ownsRow.cells hcore1.row hpb (j * 4 + 3) _ hr.2.2.2
      rw [Go.WideShapes.add_plain, Nat.zero_add] at g0 g1 g2 g3
      have hqm : q ∈ qs := by rw [hqq]; exact List.getElem_mem _
      have HQM := Lib.hid hqm
      have hqp : s.pcs[j]? = some q.p := by rw [HD.out.names, hqq, List.getElem?_map, List.getElem?_eq_getElem hjn]; rfl
      have HQP := Lib.hid hqp
      have HPO := Lib.hid (HD.out.ok.pcs q.p (by rw [HD.out.names]; exact List.mem_map_of_mem hqm))
      have HKR := Lib.hid (HA.out.fr HT1.out.fr HAF.out)
      have hjnI : (j : Int) < (qs.length : Int) := by omega
      clear hbox1 hcore1 ht1 hx hx2 hpb hr hqq hqm hqp hpl
      by_cases hkj : l[j]?.getD false = true
      · have hjk : j < l.length := by
          rcases Nat.lt_or_ge j l.length with h | h
          · exact h
          · rw [List.getElem?_eq_none h] at hkj
            simp at hkj
        have hkv : l[j] = true := by rw [List.getElem?_eq_getElem hjk] at hkj; simpa using hkj
        obtain ⟨kb, ko, rfl, hkb, hkcs⟩ := HKR.out (by omega)
        have hkcell := hkcs j hjk
        rw [hkv] at hkcell
        have HKJ := Lib.hid hkj
        have hjkI : (j : Int) < l.length := by omega
        clear hkcs hkv hkj
        rcases (show q.p.file = 0 ∨ q.p.file = 1 by have := HPO.out.file; omega) with hqf | hqf
        · skip
          rw [hqf] at g0
          have HQF := Lib.hid hqf
          obtain ⟨M, hM⟩ : ∃ M, M = q.p.ap (suK s l (s.pcs.take j) 0) := ⟨_, rfl⟩
          have HDN := Lib.hid (fun W (hW : Below wr.heap.size wr W) => done_any (a1 0) (k1 0) _ q W ((HC1.out.sure 0 (by omega)).1.below hW) ((HC1.out.reads q HQM.out).1.below hW) (suK_ok HD.out.ok l j 0) HPO.out)
          rw [← hM] at HDN
          unfold PV.agg at HDN
          rw [hqf] at HDN
          have hstep : suK s l (s.pcs.take (j + 1)) = upd (suK s l (s.pcs.take j)) 0 M := by rw [hM]; exact suK_step s l s.pcs j 0 q.p HQP.out HKJ.out hqf
          have HSTEP := Lib.hid hstep
          obtain ⟨N0, hN0⟩ : ∃ N0, N0 = (suK s l (s.pcs.take j) 0).length := ⟨_, rfl⟩
          obtain ⟨N1, hN1⟩ : ∃ N1, N1 = (suK s l (s.pcs.take j) 1).length := ⟨_, rfl⟩
          rw [← hN0] at c0
          rw [← hN1] at c1
          rw [← hN0] at HDN
          clear hM hqf hstep hN0 hN1
          go_wp2_with fail
          have hz0 := hfz 0
          clear c2 c3 c4 c5 c6 hfz g0 g1 g2 g3 hkcell hjkI
          go_region_with (go_at_call 106; refine (HDN.out _ (by first | exact alloc_below wr _ | exact (alloc_below wr _).drew)).mono ?_; rintro e w4 ⟨a4, k4, rfl, ho4, hk4, hb4⟩; have hbw := (show Below wr.heap.size wr w4 from (by first | exact b1 hb4 | exact bt (alloc_below wr _).drew hb4)); have hbx4 := Lib.hid ((hbw.block g hgr).trans HB1.out); obtain ⟨⟨c40, c41, c42, c43, c44, c45, c46⟩, hfz4⟩ := box7 hbx4.out; have HBW := Lib.hid hbw; have HO4 := Lib.hid (ho4.low (B' := wr.heap.size) (by simp)); have HB4 := Lib.hid hb4; have hq4 : w4.cell? ⟨wr.heap.size, 0, none⟩ = some (.int .i64 0) := (by rw [(bcell hb4).1 _ _ (by simp)]; exact World.cell?_alloc_at _ _ _ _ rfl); have hgr4 : g < w4.heap.size := Nat.lt_of_lt_of_le hgr hbw.size; clear ho4 hb4 hbw)
          all_goals
            have HEND : Hid (∃ a2 k2 R2, (w4.setCell ⟨g, 0, none⟩ (.slice a4 M.length k4)).heap[g]? = some (.cells (rbox { s with sure := suK s l (s.pcs.take (j + 1)) } a2 k2 pc ka kc ks) 100 (0, 0)) ∧ RCore (w4.setCell ⟨g, 0, none⟩ (.slice a4 M.length k4)) B g a2 k2 pc qs ka ks R2 (suK s l (s.pcs.take (j + 1))) ∧ RTurn w (w4.setCell ⟨g, 0, none⟩ (.slice a4 M.length k4)) g pc R pc R2) := by
              rw [HSTEP.out]
              exact ⟨upd a1 0 a4, upd k1 0 k4, More R1 wr w4, set10 hbx4.out 0 _, ((HC1.out.more HBW.out).sure_set 0 ⟨HO4.out.brd, fun h0 x hx => .inr (World.ownsRow.lt HO4.out x.block (by rw [hx]; rfl)), hk4⟩).set 0 _, HT1.out.trans ((RTurn.more HBW.out).trans (RTurn.set _ _ _ _ _ _))⟩
            clear c40 c41 c42 c43 c44 c45 c46 hfz4 hbx4 HBW HO4 HB4 c0 c1 hz0 hq4 hgr4 hk4
            generalize w4.setCell ⟨g, 0, none⟩ (.slice a4 M.length k4) = w5 at *
          all_goals go_wp2_with fail
          all_goals go_roundw
          all_goals first
            | (simp only [intOf]; omega)
            | (obtain ⟨a2, k2, R2, h1, h2, h3⟩ := HEND.out
               exact ⟨j + 1, a2, k2, R2, hjn, rfl, h1, h2, h3⟩)
        · skip
          rw [hqf] at g0
          have HQF := Lib.hid hqf
          obtain ⟨M, hM⟩ : ∃ M, M = q.p.ap (suK s l (s.pcs.take j) 1) := ⟨_, rfl⟩
          have HDN := Lib.hid (fun W (hW : Below wr.heap.size wr W) => done_any (a1 1) (k1 1) _ q W ((HC1.out.sure 1 (by omega)).1.below hW) ((HC1.out.reads q HQM.out).1.below hW) (suK_ok HD.out.ok l j 1) HPO.out)
          rw [← hM] at HDN
          unfold PV.agg at HDN
          rw [hqf] at HDN
          have hstep : suK s l (s.pcs.take (j + 1)) = upd (suK s l (s.pcs.take j)) 1 M := by rw [hM]; exact suK_step s l s.pcs j 1 q.p HQP.out HKJ.out hqf
          have HSTEP := Lib.hid hstep
          obtain ⟨N0, hN0⟩ : ∃ N0, N0 = (suK s l (s.pcs.take j) 0).length := ⟨_, rfl⟩
          obtain ⟨N1, hN1⟩ : ∃ N1, N1 = (suK s l (s.pcs.take j) 1).length := ⟨_, rfl⟩
          rw [← hN0] at c0
          rw [← hN1] at c1
          rw [← hN1] at HDN
          clear hM hqf hstep hN0 hN1
          go_wp2_with fail
          have hz1 := hfz 1
          clear c2 c3 c4 c5 c6 hfz g0 g1 g2 g3 hkcell hjkI
          go_region_with (go_at_call 106; refine (HDN.out _ (by first | exact alloc_below wr _ | exact (alloc_below wr _).drew)).mono ?_; rintro e w4 ⟨a4, k4, rfl, ho4, hk4, hb4⟩; have hbw := (show Below wr.heap.size wr w4 from (by first | exact b1 hb4 | exact bt (alloc_below wr _).drew hb4)); have hbx4 := Lib.hid ((hbw.block g hgr).trans HB1.out); obtain ⟨⟨c40, c41, c42, c43, c44, c45, c46⟩, hfz4⟩ := box7 hbx4.out; have HBW := Lib.hid hbw; have HO4 := Lib.hid (ho4.low (B' := wr.heap.size) (by simp)); have HB4 := Lib.hid hb4; have hq4 : w4.cell? ⟨wr.heap.size, 0, none⟩ = some (.int .i64 1) := (by rw [(bcell hb4).1 _ _ (by simp)]; exact World.cell?_alloc_at _ _ _ _ rfl); have hgr4 : g < w4.heap.size := Nat.lt_of_lt_of_le hgr hbw.size; clear ho4 hb4 hbw)
          all_goals
            have HEND : Hid (∃ a2 k2 R2, (w4.setCell ⟨g, 1, none⟩ (.slice a4 M.length k4)).heap[g]? = some (.cells (rbox { s with sure := suK s l (s.pcs.take (j + 1)) } a2 k2 pc ka kc ks) 100 (0, 0)) ∧ RCore (w4.setCell ⟨g, 1, none⟩ (.slice a4 M.length k4)) B g a2 k2 pc qs ka ks R2 (suK s l (s.pcs.take (j + 1))) ∧ RTurn w (w4.setCell ⟨g, 1, none⟩ (.slice a4 M.length k4)) g pc R pc R2) := by
              rw [HSTEP.out]
              exact ⟨upd a1 1 a4, upd k1 1 k4, More R1 wr w4, set10 hbx4.out 1 _, ((HC1.out.more HBW.out).sure_set 1 ⟨HO4.out.brd, fun h0 x hx => .inr (World.ownsRow.lt HO4.out x.block (by rw [hx]; rfl)), hk4⟩).set 1 _, HT1.out.trans ((RTurn.more HBW.out).trans (RTurn.set _ _ _ _ _ _))⟩
            clear c40 c41 c42 c43 c44 c45 c46 hfz4 hbx4 HBW HO4 HB4 c0 c1 hz1 hq4 hgr4 hk4
            generalize w4.setCell ⟨g, 1, none⟩ (.slice a4 M.length k4) = w5 at *
          all_goals go_wp2_with fail
          all_goals go_roundw
          all_goals first
            | (simp only [intOf]; omega)
            | (obtain ⟨a2, k2, R2, h1, h2, h3⟩ := HEND.out
               exact ⟨j + 1, a2, k2, R2, hjn, rfl, h1, h2, h3⟩)
      · have hkf : l[j]?.getD false = false := by simpa using hkj
        have HSTEP := Lib.hid (suK_skip s l s.pcs j (by rw [HPL.out]; exact hjn) hkf)
        have HEND : Hid (∀ o : Obj, (wr.alloc o).heap[g]? = some (.cells (rbox { s with sure := suK s l (s.pcs.take (j + 1)) } a1 k1 pc ka kc ks) 100 (0, 0)) ∧ RCore (wr.alloc o) B g a1 k1 pc qs ka ks R1 (suK s l (s.pcs.take (j + 1))) ∧ RTurn w (wr.alloc o) g pc R pc R1) := fun o => by
          rw [HSTEP.out]
          exact ⟨((alloc_below wr o).block g hgr).trans HB1.out, HC1.out.below (alloc_below wr o), HT1.out.trans (RTurn.below (alloc_below wr o))⟩
        clear hkf
        by_cases hjk : j < l.length
        · have hkv : l[j] = false := by rw [List.getElem?_eq_getElem hjk] at hkj; simpa using hkj
          obtain ⟨kb, ko, rfl, hkb, hkcs⟩ := HKR.out (by omega)
          have hkcell := hkcs j hjk
          rw [hkv] at hkcell
          have hjkI : (j : Int) < l.length := by omega
          clear hkcs hkv hkj
          go_wp2_with fail
          obtain ⟨h1, h2, h3⟩ := HEND.out _
          exact ⟨⟨j + 1, a1, k1, R1, hjn, rfl, h1, h2, h3⟩, by simp only [intOf]; omega⟩
        · have hjkI : ¬ (j : Int) < l.length := by omega
          clear hkj
          go_wp2_with fail
          obtain ⟨h1, h2, h3⟩ := HEND.out _
          exact ⟨⟨j + 1, a1, k1, R1, hjn, rfl, h1, h2, h3⟩, by simp only [intOf]; omega⟩
    · obtain rfl : j = qs.length := by omega
      have HTK := Lib.hid (show s.pcs.take qs.length = s.pcs by rw [← HPL.out, List.take_length])
      clear hbox1 hcore1 ht1
      go_wp2_with fail
      first | go_end0 | skip
      have hc := (((HC1.out.set 2 (.slice none 0 0)).set 3 (.int .i64 0)).set 6 (.bool true)).none
      have hb := set10 (set10 (set10 HB1.out 2 (.slice none 0 0)) 3 (.int .i64 0)) 6 (.bool true)
      rw [HTK.out] at hc hb
      refine ⟨rfl, R1, ⟨a1, k1, [], ka, kc, ks, hb, hc, fun h => absurd rfl h, rfl, HD.out.ok.crash l⟩, ?_⟩
      exact (HT1.out.trans (((RTurn.set _ _ _ _ _ _).trans (RTurn.set _ _ _ _ _ _)).trans (RTurn.set _ _ _ _ _ _))).none
end Go.Proofs.Ytdbbghmldaekhaa
