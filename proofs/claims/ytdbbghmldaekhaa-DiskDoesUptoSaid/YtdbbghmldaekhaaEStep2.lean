/-
  The law's step at both disks: Restart, and what only reads; every step but Clone.
-/
import Derived.Test.YtdbbghmldaekhaaEStep
namespace Go.Proofs.Ytdbbghmldaekhaa
open Go.ChangeShapes Go.WideShapes Go.ChangeAt Go.RowKit
set_option linter.unusedVariables false

set_option maxHeartbeats 3200000 in
set_option maxRecDepth 100000 in
theorem step_6 (o : OpV) {w0 w : World} {gd gr : Nat} {s : St} {Z : Nat → Prop} (h : Duo w0 w gd gr s s Z) (hd : o.d = 6) : Calls Try.prog 20 #[.pointer (some ⟨gd, 0, none⟩), .pointer (some ⟨gr, 0, none⟩), .agg #[.int .i64 o.d, .int .i64 o.f, .int .i64 o.k, .int .i64 o.n, .slice o.A o.b.length o.ac, .slice o.K o.ks.length o.kc]] w (StepPost w0 w gd gr (stepS s o) Z) := by
  have hx0 : stepS s o = s.restart := by unfold stepS; rw [hd]; rfl
  rw [hx0]
  have HZL : Hid (∀ k, Z k → k < w.heap.size) := by obtain ⟨_, _, _, _, _, h4⟩ := h; exact h4
  have HD0 := Lib.hid (restartD (h.below (alloc_below w (.cells #[.int .i64 o.d, .int .i64 o.f, .int .i64 o.k, .int .i64 o.n, .slice o.A o.b.length o.ac, .slice o.K o.ks.length o.kc] 42))))
  have HZ0 : Hid (Kept Z w (w.alloc (.cells #[.int .i64 o.d, .int .i64 o.f, .int .i64 o.k, .int .i64 o.n, .slice o.A o.b.length o.ac, .slice o.K o.ks.length o.kc] 42))) := Kept.below (alloc_below _ _) HZL.out
  rw [hd] at HD0 HZ0 ⊢
  clear h hx0 hd
  go_enter Try.func20, Try.ntmps20
  go_wp2_with fail
  refine HD0.out.mono ?_
  rintro e w1 ⟨rfl, hp1, hx1⟩
  have HC1 := Lib.hid (restartR hp1)
  have HX1 := Lib.hid hx1
  clear hp1 hx1 HD0
  go_wp2_with fail
  refine HC1.out.mono ?_
  rintro e w2 ⟨rfl, hp2, hx2⟩
  have HP2 := Lib.hid hp2
  have HX2 := Lib.hid hx2
  clear hp2 hx2 HC1
  go_wp2_with fail
  go_ret2
  exact ⟨rfl, HP2.out, (HZ0.out.trans HX1.out).trans HX2.out⟩
/-- What Read answers, wherever it lies. -/
theorem Duo.readD {w0 w : World} {gd gr : Nat} {s t : St} {Z : Nat → Prop} (f k n : Int) (h : Duo w0 w gd gr s t Z) : Calls Try.prog 18 #[.pointer (some ⟨gd, 0, none⟩), .int .i64 f, .int .i64 k, .int .i64 n] w (RRead (s.read f k n) w) := by
  obtain ⟨F, R, hd⟩ := h.disk
  refine (read_any gd f k n hd).mono ?_
  rintro e w' ⟨v, rfl, ho, hb⟩
  obtain ⟨a, c, rfl, -, -⟩ := ho.slice
  exact ⟨a, _, c, rfl, rfl, ho.brd, hb⟩
theorem Duo.readR {w0 w : World} {gd gr : Nat} {s t : St} {Z : Nat → Prop} (f k n : Int) (h : Duo w0 w gd gr s t Z) (hlim : t.pcs.length ≤ 8000000000000) : Calls Try.prog 64 #[.pointer (some ⟨gr, 0, none⟩), .int .i64 f, .int .i64 k, .int .i64 n] w (RRead (t.read f k n) w) := by
  obtain ⟨a, kk, pc, qs, ka, kc, ks, R, hr⟩ := h.ref
  have hq : t.pcs.length = qs.length := by rw [hr.names, List.length_map]
  exact rread_any f k n w _ gr a kk pc qs ka kc ks R t hr (by omega)
theorem Duo.sizeD {w0 w : World} {gd gr : Nat} {s t : St} {Z : Nat → Prop} (f : Int) (h : Duo w0 w gd gr s t Z) : Calls Try.prog 47 #[.pointer (some ⟨gd, 0, none⟩), .int .i64 f] w fun e w' => e = .returned (.tuple #[.int .i64 (if s.may f = 0 then ((s.now f.toNat).length : Int) else 0), .int .i64 (s.may f)]) ∧ Below w.heap.size w w' := by
  obtain ⟨F, R, hd⟩ := h.disk
  refine (size_any gd f hd).mono ?_
  rintro e w' ⟨rfl, rfl⟩
  exact ⟨rfl, Below.refl _ _⟩
theorem Duo.sizeR {w0 w : World} {gd gr : Nat} {s t : St} {Z : Nat → Prop} (f : Int) (h : Duo w0 w gd gr s t Z) (hlim : t.pcs.length ≤ 8000000000000) : Calls Try.prog 65 #[.pointer (some ⟨gr, 0, none⟩), .int .i64 f] w fun e w' => e = .returned (.tuple #[.int .i64 (if t.may f = 0 then ((t.now f.toNat).length : Int) else 0), .int .i64 (t.may f)]) ∧ Below w.heap.size w w' := by
  obtain ⟨a, kk, pc, qs, ka, kc, ks, R, hr⟩ := h.ref
  have hq : t.pcs.length = qs.length := by rw [hr.names, List.length_map]
  exact rsize_any f w _ gr a kk pc qs ka kc ks R t hr (by omega)
set_option maxHeartbeats 6400000 in
set_option maxRecDepth 100000 in
theorem step_else (o : OpV) {w0 w : World} {gd gr : Nat} {s : St} {Z : Nat → Prop} (h : Duo w0 w gd gr s s Z) (hlim : s.pcs.length ≤ 8000000000000) (hd : ¬ o.d = 0 ∧ ¬ o.d = 1 ∧ ¬ o.d = 2 ∧ ¬ o.d = 4 ∧ ¬ o.d = 5 ∧ ¬ o.d = 6 ∧ ¬ o.d = 7) : Calls Try.prog 20 #[.pointer (some ⟨gd, 0, none⟩), .pointer (some ⟨gr, 0, none⟩), .agg #[.int .i64 o.d, .int .i64 o.f, .int .i64 o.k, .int .i64 o.n, .slice o.A o.b.length o.ac, .slice o.K o.ks.length o.kc]] w (StepPost w0 w gd gr (stepS s o) Z) := by
  obtain ⟨n0, n1, n2, n4, n5, n6, n7⟩ := hd
  have hx0 : stepS s o = s := by unfold stepS; rw [if_neg n0, if_neg n1, if_neg n2, if_neg n4, if_neg n5, if_neg n6]
  rw [hx0]
  have HZL : Hid (∀ k, Z k → k < w.heap.size) := by obtain ⟨_, _, _, _, _, h4⟩ := h; exact h4
  have HH := Lib.hid (fun W hW => h.below (w' := W) hW)
  have H1 := Lib.hid (fun W hW => (h.below (w' := W) hW).readD o.f o.k o.n)
  have H2 := Lib.hid (fun W hW => (h.below (w' := W) hW).readR o.f o.k o.n hlim)
  have H3 := Lib.hid (fun W hW => (h.below (w' := W) hW).sizeD o.f)
  have H4 := Lib.hid (fun W hW => (h.below (w' := W) hW).sizeR o.f hlim)
  have HA0 := Lib.hid (alloc_below w (.cells #[.int .i64 o.d, .int .i64 o.f, .int .i64 o.k, .int .i64 o.n, .slice o.A o.b.length o.ac, .slice o.K o.ks.length o.kc] 42))
  have hbx0 := heap_alloc_new w (.cells #[.int .i64 o.d, .int .i64 o.f, .int .i64 o.k, .int .i64 o.n, .slice o.A o.b.length o.ac, .slice o.K o.ks.length o.kc] 42)
  obtain ⟨b0, b1, b2, b3, b4, b5⟩ := box6 hbx0
  have hbl : w.heap.size < (w.alloc (.cells #[.int .i64 o.d, .int .i64 o.f, .int .i64 o.k, .int .i64 o.n, .slice o.A o.b.length o.ac, .slice o.K o.ks.length o.kc] 42)).heap.size := by simp
  obtain ⟨N, hN⟩ : ∃ N : Int, N = if s.may o.f = 0 then ((s.now o.f.toNat).length : Int) else 0 := ⟨_, rfl⟩
  rw [← hN] at H3 H4
  generalize s.may o.f = M at *
  generalize s.read o.f o.k o.n = x at *
  obtain ⟨L, x2⟩ := x
  clear h hx0 hN hbx0 hlim b4 b5
  go_enter Try.func20, Try.ntmps20
  go_wp2_with fail
  refine (H1.out _ HA0.out).mono ?_
  rintro e w1 ⟨a1, m1, k1, rfl, rfl, hr1, hb1⟩
  have B1 := Lib.hid (bt HA0.out hb1)
  have R1 := Lib.hid hr1
  have c1 := ((bcell hb1).1 _ _ hbl).trans b1
  have c2 := ((bcell hb1).1 _ _ hbl).trans b2
  have c3 := ((bcell hb1).1 _ _ hbl).trans b3
  have hl1 : w.heap.size < w1.heap.size := Nat.lt_of_lt_of_le hbl hb1.size
  clear hr1 hb1 b0 b1 b2 b3 H1
  go_wp2_with fail
  refine (H2.out _ B1.out).mono ?_
  rintro e w2 ⟨a2, m2, k2, rfl, rfl, hr2, hb2⟩
  have B2 := Lib.hid (bt B1.out hb2)
  have R1' := Lib.hid (R1.out.below hb2)
  have R2 := Lib.hid hr2
  have d1 := ((bcell hb2).1 _ _ hl1).trans c1
  have hl2 : w.heap.size < w2.heap.size := Nat.lt_of_lt_of_le hl1 hb2.size
  clear hr2 hb2 c1 c2 c3 H2 R1
  go_wp2_with fail
  refine (H3.out _ B2.out).mono ?_
  rintro e w3 ⟨rfl, hb3⟩
  have B3 := Lib.hid (bt B2.out hb3)
  have R13 := Lib.hid (R1'.out.below hb3)
  have R23 := Lib.hid (R2.out.below hb3)
  have f1 := ((bcell hb3).1 _ _ hl2).trans d1
  clear hb3 d1 H3 R1' R2
  go_wp2_with fail
  refine (H4.out _ B3.out).mono ?_
  rintro e w4 ⟨rfl, hb4⟩
  have B4 := Lib.hid (bt B3.out hb4)
  have HE := Lib.hid (equal_at (w := w4) (W := w4) (c1 := k1) (c2 := k2) (R13.out.below hb4) (R23.out.below hb4) rfl rfl (Below.refl _ _))
  rw [beq_self_eq_true] at HE
  clear hb4 f1 H4 R13 R23
  go_wp2_with fail
  refine HE.out.mono ?_
  rintro e w' ⟨rfl, rfl⟩
  go_wp2_with fail
  go_ret2
  exact ⟨by simp, HH.out _ B4.out, Kept.below B4.out HZL.out⟩
theorem step_any (o : OpV) {w0 w : World} {gd gr : Nat} {s : St} {Z : Nat → Prop} (h : Duo w0 w gd gr s s Z) (hr : o.Reads w0) (hbl : o.b.length ≤ 140737488351232) (hkl : o.ks.length ≤ 140737488351232) (hkn : o.K = none → o.ks.length = 0) (hlim : s.pcs.length + 8388608 ≤ 1000000000000) (hd : ¬ o.d = 7) :
    Calls Try.prog 20 #[.pointer (some ⟨gd, 0, none⟩), .pointer (some ⟨gr, 0, none⟩), .agg #[.int .i64 o.d, .int .i64 o.f, .int .i64 o.k, .int .i64 o.n, .slice o.A o.b.length o.ac, .slice o.K o.ks.length o.kc]] w (StepPost w0 w gd gr (stepS s o) Z) := by
  by_cases h0 : o.d = 0
  · exact step_0 o h hr hbl hkl hkn hlim h0
  by_cases h1 : o.d = 1
  · exact step_1 o h hr hbl hkl hkn hlim h1
  by_cases h2 : o.d = 2
  · exact step_2 o h hr hbl hkl hkn hlim h2
  by_cases h4 : o.d = 4
  · exact step_4 o h hr hbl hkl hkn hlim h4
  by_cases h5 : o.d = 5
  · exact step_5 o h hr hbl hkl hkn hlim h5
  by_cases h6 : o.d = 6
  · exact step_6 o h h6
  exact step_else o h (by omega) ⟨h0, h1, h2, h4, h5, h6, hd⟩
/-- How many pieces a step may add. -/
theorem stepS_len (s : St) (o : OpV) : (stepS s o).pcs.length ≤ s.pcs.length + o.b.length + 1 := by
  have hc : ∀ t : St, t.count.1.pcs.length ≤ t.pcs.length := fun t => by
    unfold St.count
    split
    · simp [St.crash]
    · exact Nat.le_refl _
  unfold stepS
  split
  · unfold St.write
    split
    · show s.pcs.length ≤ _; omega
    · split
      · show s.pcs.length ≤ _; omega
      · split
        · show s.pcs.length ≤ _; omega
        · refine Nat.le_trans (hc _) ?_
          show (s.pcs ++ _).length ≤ _
          have := parts_le o.f.toNat o.k.toNat o.b
          rw [List.length_append]; omega
  · split
    · unfold St.truncate
      split
      · show s.pcs.length ≤ _; omega
      · split
        · show s.pcs.length ≤ _; omega
        · refine Nat.le_trans (hc _) ?_
          show (s.pcs ++ _).length ≤ _
          rw [List.length_append]; simp
    · split
      · unfold St.sync
        split
        · show s.pcs.length ≤ _; omega
        · split
          · have := hc s; omega
          · refine Nat.le_trans (hc _) ?_
            show (others _ s.pcs).length ≤ _
            have := List.length_filter_le (fun p : Pc => p.file != o.f.toNat) s.pcs
            unfold others
            omega
      · split
        · unfold St.crashed
          split
          · show s.pcs.length ≤ _; omega
          · simp [St.crash]
        · split
          · unfold St.lit
            split
            · show s.pcs.length ≤ _; omega
            · show s.pcs.length ≤ _; omega
          · split
            · show s.pcs.length ≤ _; omega
            · omega
end Go.Proofs.Ytdbbghmldaekhaa
