/-
  Of disk: contract of Clone.
-/
import Derived.Test.YtdbbghmldaekhaaDSame
import Derived.Test.YtdbbghmldaekhaaEDone
import Derived.Test.YtdbbghmldaekhaaDKeep
import Derived.Test.YtdbbghmldaekhaaDSync
import Derived.Test.YtdbbghmldaekhaaDBegun
import Derived.Test.YtdbbghmldaekhaaDFuse
namespace Go.Proofs.Ytdbbghmldaekhaa
open Go.ChangeShapes Go.WideShapes Go.ChangeAt Go.RowKit
set_option linter.unusedVariables false

theorem row_reads {w : World} {B n c sz : Nat} {e : TypeId} {A : Option Addr} {xs : List Value} (h : w.ownsRow B e sz (.slice A n c) n xs) : (A = none → n = 0) ∧ ∀ a, A = some a → ∀ j u, xs[j]? = some u → w.cell? (a.add j) = some u := by
  have h1 := h.1
  rcases h.2 with ⟨hv, h0⟩ | ⟨g, cap, cur, hv, hb, hg, hz⟩
  · refine ⟨fun _ => h0, fun a _ j u hj => ?_⟩
    have : xs = [] := List.length_eq_zero_iff.1 (by rw [h1, h0, Nat.zero_mul])
    subst this
    simp at hj
  · have hA : A = some ⟨g, 0, none⟩ := by
      simp only [Value.slice.injEq] at hv
      exact hv.1
    subst hA
    refine ⟨fun e => (by cases e), fun a ha j u hj => ?_⟩
    obtain rfl := Option.some.inj ha
    exact World.ownsRow.cells h (g := g) rfl j u hj
theorem clone_round (w wr W0 w1 w2 : World) (v' v : Nat → Value) (ct : Nat → List UInt8) (n : Nat) (V1 V2 : Value) (HOW : ∀ i, i < 2 * n → OwnB wr (w.heap.size + 1) (v' i) (ct i)) (HDJ : ∀ i j, i < 2 * n → j < 2 * n → i ≠ j → Dj (v' i) (v' j)) (HOL : ∀ i, 2 * n ≤ i → v' i = v i)
    (HB : Below w.heap.size w wr) (hbl : w.heap.size < wr.heap.size) (h0 : Below wr.heap.size wr W0) (hs0 : wr.heap.size < W0.heap.size) (ho1 : OwnB w1 W0.heap.size V1 (ct (2 * n))) (hb1 : Below W0.heap.size W0 w1) (ho2 : OwnB w2 w1.heap.size V2 (ct (2 * n + 1))) (hb2 : Below w1.heap.size w1 w2) (o1 o2 : Nat) :
    (∀ i, i < 2 * (n + 1) → OwnB ((w2.setCell ⟨w.heap.size, o1, none⟩ V1).setCell ⟨w.heap.size, o2, none⟩ V2) (w.heap.size + 1) (upd (upd v' (2 * n) V1) (2 * n + 1) V2 i) (ct i)) ∧ (∀ i j, i < 2 * (n + 1) → j < 2 * (n + 1) → i ≠ j → Dj (upd (upd v' (2 * n) V1) (2 * n + 1) V2 i) (upd (upd v' (2 * n) V1) (2 * n + 1) V2 j)) ∧
      (∀ i, 2 * (n + 1) ≤ i → upd (upd v' (2 * n) V1) (2 * n + 1) V2 i = v i) ∧ Below w.heap.size w ((w2.setCell ⟨w.heap.size, o1, none⟩ V1).setCell ⟨w.heap.size, o2, none⟩ V2) ∧ w.heap.size < ((w2.setCell ⟨w.heap.size, o1, none⟩ V1).setCell ⟨w.heap.size, o2, none⟩ V2).heap.size := by
  have hw2 : Below wr.heap.size wr w2 := bt (bt h0 hb1) hb2
  have s1 := hb1.size
  have s2 := hb2.size
  have hset : ∀ {v : Value} {l : List UInt8}, OwnB w2 (w.heap.size + 1) v l → OwnB ((w2.setCell ⟨w.heap.size, o1, none⟩ V1).setCell ⟨w.heap.size, o2, none⟩ V2) (w.heap.size + 1) v l := fun {v l} h => by
    refine (h.same (w' := w2.setCell ⟨w.heap.size, o1, none⟩ V1) fun k hk e => Below.heap_setCell _ _ _ _ ?_).same fun k hk e => Below.heap_setCell _ _ _ _ ?_
    · have := (World.ownsRow.lt h k e).1
      intro e'
      simp only at e'
      omega
    · have := (World.ownsRow.lt h k e).1
      intro e'
      simp only at e'
      omega
  have hv1 : OwnB w2 (w.heap.size + 1) V1 (ct (2 * n)) := (ho1.below hb2).low (by omega)
  have hv2 : OwnB w2 (w.heap.size + 1) V2 (ct (2 * n + 1)) := ho2.low (by omega)
  have b1 : ∀ k, V1.ownBlock = some k → wr.heap.size ≤ k ∧ k < w1.heap.size := fun k hk => by have := World.ownsRow.lt ho1 k hk; omega
  have b2 : ∀ k, V2.ownBlock = some k → w1.heap.size ≤ k := fun k hk => (World.ownsRow.lt ho2 k hk).1
  have b0 : ∀ i, i < 2 * n → ∀ k, (v' i).ownBlock = some k → k < wr.heap.size := fun i hi k hk => (World.ownsRow.lt (HOW i hi) k hk).2
  have ha : ∀ i, i < 2 * n → upd (upd v' (2 * n) V1) (2 * n + 1) V2 i = v' i := fun i hi => by rw [upd_ne _ _ (by omega), upd_ne _ _ (by omega)]
  have hb : upd (upd v' (2 * n) V1) (2 * n + 1) V2 (2 * n) = V1 := by rw [upd_ne _ _ (by omega), upd_same]
  have hc : upd (upd v' (2 * n) V1) (2 * n + 1) V2 (2 * n + 1) = V2 := by rw [upd_same]
  refine ⟨fun i hi => ?_, fun i j hi hj hne k h1 h2 => ?_, fun i hi => by rw [upd_ne _ _ (by omega), upd_ne _ _ (by omega)]; exact HOL i (by omega), ?_, ?_⟩
  · rcases (by omega : i < 2 * n ∨ i = 2 * n ∨ i = 2 * n + 1) with h | rfl | rfl
    · rw [ha i h]; exact hset ((HOW i h).below hw2)
    · rw [hb]; exact hset hv1
    · rw [hc]; exact hset hv2
  · have hlo : ∀ i, i < 2 * (n + 1) → ∀ k, (upd (upd v' (2 * n) V1) (2 * n + 1) V2 i).ownBlock = some k → (i < 2 * n ∧ (v' i).ownBlock = some k ∧ k < wr.heap.size) ∨ (i = 2 * n ∧ wr.heap.size ≤ k ∧ k < w1.heap.size) ∨ (i = 2 * n + 1 ∧ w1.heap.size ≤ k) := fun i hi k hk => by
      rcases (by omega : i < 2 * n ∨ i = 2 * n ∨ i = 2 * n + 1) with h | rfl | rfl
      · rw [ha i h] at hk; exact .inl ⟨h, hk, b0 i h k hk⟩
      · rw [hb] at hk; exact .inr (.inl ⟨rfl, b1 k hk⟩)
      · rw [hc] at hk; exact .inr (.inr ⟨rfl, b2 k hk⟩)
    have s0 := h0.size
    rcases hlo i hi k h1 with ⟨p1, p2, p3⟩ | ⟨p1, p2, p3⟩ | ⟨p1, p2⟩ <;> rcases hlo j hj k h2 with ⟨q1, q2, q3⟩ | ⟨q1, q2, q3⟩ | ⟨q1, q2⟩
    · exact HDJ i j p1 q1 hne k p2 q2
    all_goals omega
  · have hfr : Fr (fun k => k = w.heap.size) w2 ((w2.setCell ⟨w.heap.size, o1, none⟩ V1).setCell ⟨w.heap.size, o2, none⟩ V2) := (Fr.set (F := fun k => k = w.heap.size) w2 w.heap.size o1 V1 rfl).trans' (Fr.set (F := fun k => k = w.heap.size) _ w.heap.size o2 V2 rfl) fun _ _ h => h
    exact below_tr (bt HB hw2) (hfr.below (fun k hk => by omega) (by have := hw2.size; omega))
  · have h := hw2.size
    simp [World.setCell]
    omega
set_option maxHeartbeats 6400000 in
set_option maxRecDepth 100000 in
theorem clone_st (g : Nat) (w : World) (v : Nat → Value) (pc : Value) (qs : List PV) (kp : Value) (s : St) (hd : DSt w g v pc qs kp s) (hlim : qs.length ≤ 8000000000000) (hkl : s.keep.length ≤ 140737488355328) :
    Calls Try.prog 63 #[.pointer (some ⟨g, 0, none⟩)] w fun e w' => ∃ c v' pc' kp', e = .returned (.pointer (some ⟨c, 0, none⟩)) ∧ DSt w' c v' pc' qs kp' s ∧ Below w.heap.size w w' ∧ (∀ k, DF c v' pc' k → w.heap.size ≤ k) ∧ ∀ k, kp'.ownBlock = some k → w.heap.size ≤ k := by
  have HC := Lib.hid (isMade_any hd.disk.mk)
  have HD := Lib.hid hd
  have hgl : g < w.heap.size := (Array.getElem?_eq_some_iff.1 hd.box).1
  obtain ⟨⟨c0, c1, c2, c3, c4, c5, c6, c7, c8, c9⟩, hfz⟩ := box10 hd.box
  obtain ⟨a0, n0, k0, e0, l0, r0⟩ := now_form hd 0 (by omega)
  obtain ⟨a1, n1, k1, e1, l1, r1⟩ := now_form hd 1 (by omega)
  obtain ⟨a2, n2, k2, e2, l2, r2⟩ := now_form hd 2 (by omega)
  obtain ⟨a3, n3, k3, e3, l3, r3⟩ := now_form hd 3 (by omega)
  obtain ⟨pa, pk, hpc, -⟩ := row_slice hd.core.row
  obtain ⟨ka, kk, hkp, -⟩ := row_slice hd.core.keep
  rw [e0] at c5
  rw [e1] at c6
  rw [e2] at c7
  rw [e3] at c8
  rw [hpc] at c9
  rw [hkp] at c4
  have m0 : (s.ct 0).length ≤ 140737488355328 := by have := hd.ok.now 0; unfold maxFile at this; show (s.now 0).length ≤ _; omega
  have m1 : (s.ct 1).length ≤ 140737488355328 := by have := hd.ok.sure 0; unfold maxFile at this; show (s.sure 0).length ≤ _; omega
  have m2 : (s.ct 2).length ≤ 140737488355328 := by have := hd.ok.now 1; unfold maxFile at this; show (s.now 1).length ≤ _; omega
  have m3 : (s.ct 3).length ≤ 140737488355328 := by have := hd.ok.sure 1; unfold maxFile at this; show (s.sure 1).length ≤ _; omega
  have C0 := Lib.hid (fun (W : World) (hW : Below w.heap.size w W) => by have h := clone_any a0 k0 (s.ct 0) W (r0.below hW) m0; rw [← l0] at h; exact h)
  have C1 := Lib.hid (fun (W : World) (hW : Below w.heap.size w W) => by have h := clone_any a1 k1 (s.ct 1) W (r1.below hW) m1; rw [← l1] at h; exact h)
  have C2 := Lib.hid (fun (W : World) (hW : Below w.heap.size w W) => by have h := clone_any a2 k2 (s.ct 2) W (r2.below hW) m2; rw [← l2] at h; exact h)
  have C3 := Lib.hid (fun (W : World) (hW : Below w.heap.size w W) => by have h := clone_any a3 k3 (s.ct 3) W (r3.below hW) m3; rw [← l3] at h; exact h)
  have HBE : Hid (boxOf s v pc kp = #[.bool true, .bool s.down, .int .i64 s.calls, .int .i64 s.fuse, .slice ka s.keep.length kk, .slice a0 n0 k0, .slice a1 n1 k1, .slice a2 n2 k2, .slice a3 n3 k3, .slice pa qs.length pk]) := by show _ = _; unfold boxOf; rw [e0, e1, e2, e3, hpc, hkp]
  have L0 := Lib.hid l0
  have L1 := Lib.hid l1
  have L2 := Lib.hid l2
  have L3 := Lib.hid l3
  have HKL := Lib.hid hkl
  have HLM := Lib.hid hlim
  clear hd r0 r1 r2 r3 m0 m1 m2 m3 l0 l1 l2 l3 hlim hkl
  have hix := index_file
  go_enter Try.func63, Try.ntmps63
  go_wp2_with fail
  refine HC.out.mono ?_
  rintro e w' ⟨rfl, rfl⟩
  go_wp2_with fail
  obtain ⟨bc, hbc⟩ : ∃ bc, bc = w.heap.size := ⟨_, rfl⟩
  go_loopw [16] (fun idx wr => ∃ (n : Nat) (v' : Nat → Value), n ≤ 2 ∧ idx = .int .i64 (n : Int) ∧ wr.heap[w.heap.size]? = some (.cells (boxOf s v' pc kp) 85 (0, 0)) ∧ (∀ i, i < 2 * n → OwnB wr (w.heap.size + 1) (v' i) (s.ct i)) ∧ (∀ i j, i < 2 * n → j < 2 * n → i ≠ j → Dj (v' i) (v' j)) ∧ (∀ i, 2 * n ≤ i → v' i = v i) ∧ Below w.heap.size w wr ∧ w.heap.size < wr.heap.size) (fun idx _ => 2 - (intOf idx).toNat)
  case atStart => exact ⟨0, v, by omega, rfl, by rw [HBE.out]; exact heap_alloc_new w _, fun i hi => by omega, fun i j hi => by omega, fun i hi => rfl, alloc_below _ _, by simp⟩
  case round =>
    obtain ⟨n, v', hn, rfl, hbx, how, hdj, hol, hb, hbl⟩ := hrel
    have HBX := Lib.hid hbx
    have HOW := Lib.hid how
    have HDJ := Lib.hid hdj
    have HOL := Lib.hid hol
    have HB := Lib.hid hb
    obtain ⟨⟨x0, x1, x2, x3, x4, x5, x6, x7, x8, x9⟩, hfx⟩ := box10 hbx
    clear hbx how hdj hol hb
    rcases (by omega : n = 0 ∨ n = 1 ∨ n = 2) with rfl | rfl | rfl
    · have H0 := Lib.hid (fun W hW => C0.out W (bt HB.out hW))
      have H1 := Lib.hid (fun W hW => C1.out W (bt HB.out hW))
      have hix := fun a b c d w => (index_file a b c d w).1
      go_wp2_with fail
      have hfl : wr.heap.size < (wr.alloc (.cells #[.slice a0 n0 k0, .slice a1 n1 k1] 81)).heap.size := by simp
      have hw0 : Below wr.heap.size wr (wr.alloc (.cells #[.slice a0 n0 k0, .slice a1 n1 k1] 81)) := alloc_below _ _
      have q0 : (wr.alloc (.cells #[.slice a0 n0 k0, .slice a1 n1 k1] 81)).cell? ⟨wr.heap.size, 0, none⟩ = some (.slice a0 n0 k0) := World.cell?_alloc_at _ _ _ _ rfl
      have q1 : (wr.alloc (.cells #[.slice a0 n0 k0, .slice a1 n1 k1] 81)).cell? ⟨wr.heap.size, 1, none⟩ = some (.slice a1 n1 k1) := World.cell?_alloc_at _ _ _ _ rfl
      generalize wr.alloc (.cells #[.slice a0 n0 k0, .slice a1 n1 k1] 81) = W0 at *
      have hpd : Below wr.heap.size wr W0.drew := hw0.drew
      have hne : ¬ w.heap.size = wr.heap.size := by omega
      have q0' : W0.drew.cell? ⟨wr.heap.size, 0, none⟩ = some (.slice a0 n0 k0) := q0
      have q1' : W0.drew.cell? ⟨wr.heap.size, 1, none⟩ = some (.slice a1 n1 k1) := q1
      have hfl' : wr.heap.size < W0.drew.heap.size := hfl
      clear x0 x1 x2 x3 x4 x5 x6 x7 x8 x9 hfx q0 q1 hfl c0 c1 c2 c3 c4 c5 c6 c7 c8 c9 hfz
      go_region_held3 (fun w' => w'.cell? ⟨wr.heap.size, 0, none⟩ = some (.slice a0 n0 k0) ∧ w'.cell? ⟨wr.heap.size, 1, none⟩ = some (.slice a1 n1 k1))
        (((try go_split_ands); first | (refine ⟨?_, ?_⟩ <;> first | assumption | go_keep) | assumption | go_keep))
        (first | (go_at_call 30; with_reducible refine (H0.out _ hpd).mono ?_; rintro e w1 ⟨v1, rfl, ho1, hb1⟩; obtain ⟨p1, j1, rfl, -, -⟩ := ho1.slice; have z0 := ((bcell hb1).1 _ _ hfl').trans q0'; have z1 := ((bcell hb1).1 _ _ hfl').trans q1'; have hfl1 := Nat.lt_of_lt_of_le hfl' hb1.size) | (go_at_call 30; with_reducible refine (H1.out _ (bt hpd hb1)).mono ?_; rintro e w2 ⟨v2, rfl, ho2, hb2⟩; obtain ⟨p2, j2, rfl, -, -⟩ := ho2.slice; have y0 := ((bcell hb2).1 _ _ hfl1).trans z0; have y1 := ((bcell hb2).1 _ _ hfl1).trans z1; have hbw := bt (bt hpd hb1) hb2; have hbx2 := Lib.hid ((hbw.block _ hbl).trans HBX.out); obtain ⟨⟨x0, x1, x2, x3, x4, x5, x6, x7, x8, x9⟩, hfx⟩ := box10 hbx2.out; have hbl2 := Nat.lt_of_lt_of_le hbl hbw.size))
      have HR := Lib.hid (clone_round w wr W0.drew w1 w2 v' v s.ct 0 (.slice p1 (s.ct 0).length j1) (.slice p2 (s.ct 1).length j2) HOW.out HDJ.out HOL.out HB.out hbl hpd hfl' ho1 hb1 ho2 hb2 5 6)
      have HX3 := Lib.hid (set10 (set10 hbx2.out 5 (.slice p1 (s.ct 0).length j1)) 6 (.slice p2 (s.ct 1).length j2))
      clear ho1 hb1 ho2 hb2 z0 z1 y0 y1 hbw hbx2 x0 x1 x2 x3 x4 x5 x6 x7 x8 x9 hfx
      go_wp2_with fail
      obtain ⟨r1, r2, r3, r4, r5⟩ := HR.out
      exact ⟨⟨1, upd (upd v' (2 * 0) (.slice p1 (s.ct 0).length j1)) (2 * 0 + 1) (.slice p2 (s.ct 1).length j2), by omega, rfl, HX3.out, r1, r2, r3, r4, r5⟩, by simp [intOf]⟩
    · have H0 := Lib.hid (fun W hW => C2.out W (bt HB.out hW))
      have H1 := Lib.hid (fun W hW => C3.out W (bt HB.out hW))
      have hix := fun a b c d w => (index_file a b c d w).2
      go_wp2_with fail
      have hfl : wr.heap.size < (wr.alloc (.cells #[.slice a2 n2 k2, .slice a3 n3 k3] 81)).heap.size := by simp
      have hw0 : Below wr.heap.size wr (wr.alloc (.cells #[.slice a2 n2 k2, .slice a3 n3 k3] 81)) := alloc_below _ _
      have q0 : (wr.alloc (.cells #[.slice a2 n2 k2, .slice a3 n3 k3] 81)).cell? ⟨wr.heap.size, 0, none⟩ = some (.slice a2 n2 k2) := World.cell?_alloc_at _ _ _ _ rfl
      have q1 : (wr.alloc (.cells #[.slice a2 n2 k2, .slice a3 n3 k3] 81)).cell? ⟨wr.heap.size, 1, none⟩ = some (.slice a3 n3 k3) := World.cell?_alloc_at _ _ _ _ rfl
      generalize wr.alloc (.cells #[.slice a2 n2 k2, .slice a3 n3 k3] 81) = W0 at *
      have hpd : Below wr.heap.size wr W0.drew := hw0.drew
      have hne : ¬ w.heap.size = wr.heap.size := by omega
      have q0' : W0.drew.cell? ⟨wr.heap.size, 0, none⟩ = some (.slice a2 n2 k2) := q0
      have q1' : W0.drew.cell? ⟨wr.heap.size, 1, none⟩ = some (.slice a3 n3 k3) := q1
      have hfl' : wr.heap.size < W0.drew.heap.size := hfl
      clear x0 x1 x2 x3 x4 x5 x6 x7 x8 x9 hfx q0 q1 hfl c0 c1 c2 c3 c4 c5 c6 c7 c8 c9 hfz
      go_region_held3 (fun w' => w'.cell? ⟨wr.heap.size, 0, none⟩ = some (.slice a2 n2 k2) ∧ w'.cell? ⟨wr.heap.size, 1, none⟩ = some (.slice a3 n3 k3))
        (((try go_split_ands); first | (refine ⟨?_, ?_⟩ <;> first | assumption | go_keep) | assumption | go_keep))
        (first | (go_at_call 30; with_reducible refine (H0.out _ hpd).mono ?_; rintro e w1 ⟨v1, rfl, ho1, hb1⟩; obtain ⟨p1, j1, rfl, -, -⟩ := ho1.slice; have z0 := ((bcell hb1).1 _ _ hfl').trans q0'; have z1 := ((bcell hb1).1 _ _ hfl').trans q1'; have hfl1 := Nat.lt_of_lt_of_le hfl' hb1.size) | (go_at_call 30; with_reducible refine (H1.out _ (bt hpd hb1)).mono ?_; rintro e w2 ⟨v2, rfl, ho2, hb2⟩; obtain ⟨p2, j2, rfl, -, -⟩ := ho2.slice; have y0 := ((bcell hb2).1 _ _ hfl1).trans z0; have y1 := ((bcell hb2).1 _ _ hfl1).trans z1; have hbw := bt (bt hpd hb1) hb2; have hbx2 := Lib.hid ((hbw.block _ hbl).trans HBX.out); obtain ⟨⟨x0, x1, x2, x3, x4, x5, x6, x7, x8, x9⟩, hfx⟩ := box10 hbx2.out; have hbl2 := Nat.lt_of_lt_of_le hbl hbw.size))
      have HR := Lib.hid (clone_round w wr W0.drew w1 w2 v' v s.ct 1 (.slice p1 (s.ct 2).length j1) (.slice p2 (s.ct 3).length j2) HOW.out HDJ.out HOL.out HB.out hbl hpd hfl' ho1 hb1 ho2 hb2 7 8)
      have HX3 := Lib.hid (set10 (set10 hbx2.out 7 (.slice p1 (s.ct 2).length j1)) 8 (.slice p2 (s.ct 3).length j2))
      clear ho1 hb1 ho2 hb2 z0 z1 y0 y1 hbw hbx2 x0 x1 x2 x3 x4 x5 x6 x7 x8 x9 hfx
      go_wp2_with fail
      obtain ⟨r1, r2, r3, r4, r5⟩ := HR.out
      exact ⟨⟨2, upd (upd v' (2 * 1) (.slice p1 (s.ct 2).length j1)) (2 * 1 + 1) (.slice p2 (s.ct 3).length j2), by omega, rfl, HX3.out, r1, r2, r3, r4, r5⟩, by simp [intOf]⟩
    · have HK : Hid (∀ W, Below wr.heap.size wr W → Calls Try.prog 98 #[.slice ka s.keep.length kk] W fun e w' => ∃ a m k, e = .returned (.slice a m k) ∧ w'.ownsRow W.heap.size 4 1 (.slice a m k) s.keep.length (s.keep.map Value.bool) ∧ Below W.heap.size W w') := fun W hW => by
        have hrow := HD.out.core.keep
        rw [hkp] at hrow
        obtain ⟨q1, q2⟩ := row_reads (ownsRow_same hrow (w' := W) fun k hk _ => (bt HB.out hW).block k hk)
        exact cloneBools ka s.keep.length kk (s.keep.map Value.bool) W q1 q2 (fun u hu => by simp at hu; rcases hu with ⟨_, rfl⟩ | ⟨_, rfl⟩ <;> rfl) (by simp) HKL.out
      have HP : Hid (∀ W, Below w.heap.size w W → Calls Try.prog 105 #[.slice pa qs.length pk] W fun e w' => ∃ a m k, e = .returned (.slice a m k) ∧ w'.ownsRow W.heap.size 96 2 (.slice a m k) qs.length (rowOf qs) ∧ Below W.heap.size W w') := fun W hW => by
        have hrow := HD.out.core.row
        rw [hpc] at hrow
        obtain ⟨q1, q2⟩ := row_reads (ownsRow_same hrow (w' := W) fun k hk _ => hW.block k hk)
        exact clonePends pa qs.length pk (rowOf qs) W q1 q2 (fun u hu => by
          unfold rowOf at hu
          obtain ⟨q, _, hq⟩ := List.mem_flatMap.1 hu
          simp [PV.cells, PV.func] at hq
          rcases hq with rfl | rfl <;> rfl) (rowOf_len qs) HLM.out
      have hgr : g < wr.heap.size := Nat.lt_of_lt_of_le hgl HB.out.size
      have d4 : wr.cell? ⟨g, 4, none⟩ = some (.slice ka s.keep.length kk) := by rw [(bcell HB.out).1 _ _ hgl]; exact c4
      have d9 : wr.cell? ⟨g, 9, none⟩ = some (.slice pa qs.length pk) := by rw [(bcell HB.out).1 _ _ hgl]; exact c9
      have HGB := Lib.hid ((HB.out.block g hgl).trans HD.out.box)
      have HKP := Lib.hid hkp
      have HPC := Lib.hid hpc
      clear c0 c1 c2 c3 c4 c5 c6 c7 c8 c9 hfz e0 e1 e2 e3 hkp hpc C0 C1 C2 C3 hix
      go_wp2_with fail
      refine (HK.out _ (Below.refl _ _)).mono ?_
      rintro e w4 ⟨p4, m4, j4, rfl, hr4, hb4⟩
      have hgr4 : w.heap.size < w4.heap.size := Nat.lt_of_lt_of_le hbl hb4.size
      have HX4 := Lib.hid ((hb4.block _ hbl).trans HBX.out)
      obtain ⟨⟨y0, y1, y2, y3, y4, y5, y6, y7, y8, y9⟩, hfy⟩ := box10 HX4.out
      obtain ⟨q4, z4, ep4, -⟩ := row_slice hr4
      obtain rfl : m4 = s.keep.length := by simp only [Value.slice.injEq] at ep4; exact ep4.2.1
      have d9' : w4.cell? ⟨g, 9, none⟩ = some (.slice pa qs.length pk) := by rw [(bcell hb4).1 _ _ hgr]; exact d9
      have hne : ¬ g = w.heap.size := by omega
      have hgw4 : g < w4.heap.size := by omega
      have HR4 := Lib.hid hr4
      have HB4 := Lib.hid hb4
      have HW5 : Hid (Below wr.heap.size wr (w4.setCell ⟨w.heap.size, 4, none⟩ (.slice p4 s.keep.length j4)) → True) := fun _ => trivial
      have d9'' : (w4.setCell ⟨w.heap.size, 4, none⟩ (.slice p4 s.keep.length j4)).cell? ⟨g, 9, none⟩ = some (.slice pa qs.length pk) := by
        rw [World.cell?_of_block (w := w4) (w' := w4.setCell ⟨w.heap.size, 4, none⟩ (.slice p4 s.keep.length j4)) (a := ⟨g, 9, none⟩) (Below.heap_setCell _ _ _ _ hne)]
        exact d9'
      have HX5 := Lib.hid (set10 HX4.out 4 (.slice p4 s.keep.length j4))
      clear hr4 hb4 ep4 x0 x1 x2 x3 x4 x5 x6 x7 x8 x9 hfx d4 d9 HK y0 y1 y2 y3 y5 y6 y7 y8 y9 HW5
      go_wp2_with fail
      obtain ⟨w5, hw5⟩ : ∃ w5, w5 = w4.setCell ⟨w.heap.size, 4, none⟩ (.slice p4 s.keep.length j4) := ⟨_, rfl⟩
      have HF5 : Hid (Fr (fun k => k = w.heap.size) w4 w5) := by rw [hw5]; exact Fr.set (F := fun k => k = w.heap.size) _ _ _ _ rfl
      have hs4 := HB4.out.size
      have HB5 : Hid (Below w.heap.size w w5) := below_tr (bt HB.out HB4.out) (HF5.out.below (fun k hk => by omega) (by omega))
      rw [← hw5] at HX5 ⊢
      have HWF := Lib.hid hw5
      clear hw5
      refine (HP.out _ HB5.out).mono ?_
      rintro e w6 ⟨p6, m6, j6, rfl, hr6, hb6⟩
      obtain ⟨q6, z6, ep6, -⟩ := row_slice hr6
      obtain rfl : m6 = qs.length := by simp only [Value.slice.injEq] at ep6; exact ep6.2.1
      have hl5 : w.heap.size < w5.heap.size := by have := HF5.out.size; omega
      have HX6 := Lib.hid ((hb6.block _ hl5).trans HX5.out)
      obtain ⟨⟨y0, y1, y2, y3, y4, y5, y6, y7, y8, y9⟩, hfy6⟩ := box10 HX6.out
      have hl6 : w.heap.size < w6.heap.size := Nat.lt_of_lt_of_le hl5 hb6.size
      have HX7 := Lib.hid (set10 HX6.out 9 (.slice p6 qs.length j6))
      have HR6 := Lib.hid hr6
      have HB6 := Lib.hid hb6
      clear hr6 hb6 ep6 HP HC
      go_wp2_with fail
      go_ret
      obtain ⟨w7, hw7⟩ : ∃ w7, w7 = w6.setCell ⟨w.heap.size, 9, none⟩ (.slice p6 qs.length j6) := ⟨_, rfl⟩
      have HF7 : Fr (fun k => k = w.heap.size) w6 w7 := by rw [hw7]; exact Fr.set (F := fun k => k = w.heap.size) _ _ _ _ rfl
      have hX7 := HX7.out
      rw [← hw7] at hX7 ⊢
      have s4 := HB4.out.size
      have s5 := HF5.out.size
      have s6 := HB6.out.size
      have s7 := HF7.size
      have HB7 : Below w.heap.size w w7 := below_tr (below_tr HB5.out (HB6.out.mono (by omega))) (HF7.below (fun k hk => by omega) (by omega))
      -- what was made stays
      have keepW : ∀ k, k < wr.heap.size → k ≠ w.heap.size → w7.heap[k]? = wr.heap[k]? := fun k hk hn =>
        (HF7.block k (by omega) hn).trans ((HB6.out.block k (by omega)).trans ((HF5.out.block k (by omega) hn).trans (HB4.out.block k hk)))
      have keep4 : ∀ k, k < w4.heap.size → k ≠ w.heap.size → w7.heap[k]? = w4.heap[k]? := fun k hk hn =>
        (HF7.block k (by omega) hn).trans ((HB6.out.block k (by omega)).trans (HF5.out.block k hk hn))
      have vlt : ∀ i, i < 4 → ∀ k, (v' i).ownBlock = some k → w.heap.size < k ∧ k < wr.heap.size := fun i hi k hk => by
        have := World.ownsRow.lt (HOW.out i (by omega)) k hk
        omega
      have klt : ∀ k, (Value.slice p4 s.keep.length j4).ownBlock = some k → wr.heap.size ≤ k ∧ k < w4.heap.size := fun k hk => HR4.out.lt k hk
      have plt : ∀ k, (Value.slice p6 qs.length j6).ownBlock = some k → w5.heap.size ≤ k ∧ k < w6.heap.size := fun k hk => HR6.out.lt k hk
      have hown : ∀ i, i < 4 → OwnB w7 0 (v' i) (s.ct i) := fun i hi => ((HOW.out i (by omega)).low (Nat.zero_le _)).same fun k hk e => keepW k hk (by have := vlt i hi k e; omega)
      have hrowK : w7.ownsRow 0 4 1 (.slice p4 s.keep.length j4) s.keep.length (s.keep.map Value.bool) := ownsRow_same (row_low HR4.out (Nat.zero_le _)) fun k hk e => keep4 k hk (by have := klt k e; omega)
      have hrowP : w7.ownsRow 0 96 2 (.slice p6 qs.length j6) qs.length (rowOf qs) := ownsRow_same (row_low HR6.out (Nat.zero_le _)) fun k hk e => HF7.block k hk (by have := plt k e; omega)
      refine ⟨w.heap.size, v', _, _, rfl, ⟨hX7, ⟨hown, fun i j hi hj => HDJ.out i j (by omega) (by omega), hrowP, fun q hq => ?_, hrowK, fun i hi e => ?_, fun e => ?_, fun e => ?_, fun i hi k h1 h2 => ?_, fun k h1 h2 => ?_, fun i hi k h1 h2 => ?_⟩, HD.out.names, HD.out.ok⟩, HB7, fun k hk => ?_, fun k hk => ?_⟩
      · obtain ⟨h1, h2⟩ := HD.out.core.reads q hq
        refine ⟨h1.below HB7, fun a ha => ?_⟩
        have h3 := (h2 a ha).1
        refine ⟨by have := HB7.size; omega, by omega, fun e => ?_, fun i hi e => ?_⟩
        · have := plt _ e; omega
        · have := vlt i hi _ e; omega
      · have := vlt i hi _ e; omega
      · have := plt _ e; omega
      · have := klt _ e; omega
      · have := plt k h1; have := vlt i hi k h2; omega
      · have := klt k h1; have := plt k h2; omega
      · have := klt k h1; have := vlt i hi k h2; omega
      · rcases hk with rfl | e | ⟨i, hi, e⟩
        · exact Nat.le_refl _
        · have := plt k e; omega
        · have := vlt i hi k e; omega
      · have := klt k hk; omega
end Go.Proofs.Ytdbbghmldaekhaa
