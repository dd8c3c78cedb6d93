/-
  The law's step at both disks: what it answers, what it leaves.
-/
import Derived.Test.YtdbbghmldaekhaaEDuo
import Derived.Test.YtdbbghmldaekhaaDSureLaw
import Derived.Deep.RegionHeld3
namespace Go.Proofs.Ytdbbghmldaekhaa
open Go.ChangeShapes Go.WideShapes Go.ChangeAt Go.RowKit
set_option linter.unusedVariables false

theorem cellb {w w' : World} {b : Nat} (h : w'.heap[b]? = w.heap[b]?) (i : Nat) : w'.cell? ⟨b, i, none⟩ = w.cell? ⟨b, i, none⟩ := by
  unfold World.cell?
  rw [h]
/-- What an operation makes of a disk. -/
def stepS (s : St) (o : OpV) : St := if o.d = 0 then (s.write o.f o.k o.b).1 else if o.d = 1 then (s.truncate o.f o.k).1 else if o.d = 2 then (s.sync o.f).1 else if o.d = 4 then (s.crashed o.ks).1 else if o.d = 5 then (s.lit o.n o.ks).1 else if o.d = 6 then s.restart else s
def StepPost (w0 w : World) (gd gr : Nat) (s : St) (Z : Nat → Prop) (e : Ending) (w' : World) : Prop := e = .returned (.tuple #[.pointer (some ⟨gd, 0, none⟩), .bool true]) ∧ Duo w0 w' gd gr s s Z ∧ Kept Z w w'
set_option maxHeartbeats 6400000 in
set_option maxRecDepth 100000 in
theorem step_0 (o : OpV) {w0 w : World} {gd gr : Nat} {s : St} {Z : Nat → Prop} (h : Duo w0 w gd gr s s Z) (hr : o.Reads w0) (hbl : o.b.length ≤ 140737488351232) (hkl : o.ks.length ≤ 140737488351232) (hkn : o.K = none → o.ks.length = 0) (hlim : s.pcs.length + 8388608 ≤ 1000000000000) (hd : o.d = 0) : Calls Try.prog 20 #[.pointer (some ⟨gd, 0, none⟩), .pointer (some ⟨gr, 0, none⟩), .agg #[.int .i64 o.d, .int .i64 o.f, .int .i64 o.k, .int .i64 o.n, .slice o.A o.b.length o.ac, .slice o.K o.ks.length o.kc]] w (StepPost w0 w gd gr (stepS s o) Z) := by
  have hin := hr.n
  unfold In64 at hin
  have HA := Lib.hid hr.b
  have HK := Lib.hid hr.ks
  have HAB : Hid (0 < o.b.length → ∀ x, o.A = some x → x.block < w0.heap.size) := fun h0 x hx => by
    obtain ⟨g, off, e, hl, _⟩ := hr.b h0
    rw [e] at hx
    obtain rfl := Option.some.inj hx
    exact hl
  have HKB : Hid (0 < o.ks.length → ∀ x, o.K = some x → x.block < w0.heap.size) := fun h0 x hx => by
    obtain ⟨g, off, e, hl, _⟩ := hr.ks h0
    rw [e] at hx
    obtain rfl := Option.some.inj hx
    exact hl
  have hx0 : stepS s o = (s.write o.f o.k o.b).1 := by unfold stepS; rw [hd]; rfl
  rw [hx0]
  have HD0 := Lib.hid (fun (W : World) (hW : Duo w0 W gd gr s s (fun k => k = w.heap.size ∨ Z k)) => writeD o.f o.k o.A o.ac o.b.length o.b hW (HA.out.below hW.bel) rfl (by omega) (by omega))
  have HC1 := Lib.hid (fun (W : World) (hW : Duo w0 W gd gr (s.write o.f o.k o.b).1 s (fun k => k = w.heap.size ∨ Z k)) => writeR o.f o.k o.A o.ac o.b.length o.b hW (HA.out.below hW.bel) rfl (by omega) HAB.out (by omega))
  have HZL : Hid (∀ k, Z k → k < w.heap.size) := by obtain ⟨_, _, _, _, _, h4⟩ := h; exact h4
  have HP := Lib.hid (h.box (alloc_below w (.cells #[.int .i64 o.d, .int .i64 o.f, .int .i64 o.k, .int .i64 o.n, .slice o.A o.b.length o.ac, .slice o.K o.ks.length o.kc] 42)) (Y := fun k => k = w.heap.size) (fun k hk => by subst hk; simp))
  have hbx0 := heap_alloc_new w (.cells #[.int .i64 o.d, .int .i64 o.f, .int .i64 o.k, .int .i64 o.n, .slice o.A o.b.length o.ac, .slice o.K o.ks.length o.kc] 42)
  have HZ0 : Hid (Kept Z w (w.alloc (.cells #[.int .i64 o.d, .int .i64 o.f, .int .i64 o.k, .int .i64 o.n, .slice o.A o.b.length o.ac, .slice o.K o.ks.length o.kc] 42))) := Kept.below (alloc_below _ _) HZL.out
  generalize s.write o.f o.k o.b = x at *
  obtain ⟨x1, x2⟩ := x
  simp only at HD0 HC1
  rw [hd] at HP hbx0 HZ0 ⊢
  clear h hr hx0 hd hlim
  go_enter Try.func20, Try.ntmps20
  go_wp2_with fail
  generalize w.alloc (.cells #[.int .i64 0, .int .i64 o.f, .int .i64 o.k, .int .i64 o.n, .slice o.A o.b.length o.ac, .slice o.K o.ks.length o.kc] 42) = W0 at *
  obtain ⟨bx, hbx⟩ : ∃ bx, bx = w.heap.size := ⟨_, rfl⟩
  simp only [← hbx] at *
  have hpd : Duo w0 W0.drew gd gr s s (fun k => k = bx ∨ Z k) := HP.out.below (Below.refl _ _).drew
  obtain ⟨b0, b1, b2, b3, b4, b5⟩ := box6 hbx0
  clear hbx0 HP b0 b3 b5
  go_region_held3 (fun w' => w'.cell? ⟨bx, 1, none⟩ = some (.int .i64 o.f) ∧ w'.cell? ⟨bx, 2, none⟩ = some (.int .i64 o.k) ∧ w'.cell? ⟨bx, 4, none⟩ = some (.slice o.A o.b.length o.ac))
    (((try go_split_ands); first | (refine ⟨?_, ?_, ?_⟩ <;> first | assumption | (rw [cellb (hx1.2 _ (.inl rfl))]; assumption) | (rw [cellb (hx2.2 _ (.inl rfl))]; assumption) | go_keep) | assumption | (rw [cellb (hx1.2 _ (.inl rfl))]; assumption) | (rw [cellb (hx2.2 _ (.inl rfl))]; assumption) | go_keep))
    (first | (go_at_call 12; with_reducible refine (HD0.out _ hpd).mono ?_; rintro e w1 ⟨rfl, hp1, hx1⟩) | (go_at_call 57; with_reducible refine (HC1.out _ (by assumption)).mono ?_; rintro e w2 ⟨rfl, hp2, hx2⟩))
  go_wp2_with fail
  go_ret2
  exact ⟨rfl, hp2.sub (fun k hk => .inr hk), HZ0.out.trans (Kept.trans (Kept.trans ⟨Nat.le_refl _, fun _ _ => rfl⟩ (hx1.sub fun k hk => .inr hk)) (hx2.sub fun k hk => .inr hk))⟩
set_option maxHeartbeats 6400000 in
set_option maxRecDepth 100000 in
theorem step_1 (o : OpV) {w0 w : World} {gd gr : Nat} {s : St} {Z : Nat → Prop} (h : Duo w0 w gd gr s s Z) (hr : o.Reads w0) (hbl : o.b.length ≤ 140737488351232) (hkl : o.ks.length ≤ 140737488351232) (hkn : o.K = none → o.ks.length = 0) (hlim : s.pcs.length + 8388608 ≤ 1000000000000) (hd : o.d = 1) : Calls Try.prog 20 #[.pointer (some ⟨gd, 0, none⟩), .pointer (some ⟨gr, 0, none⟩), .agg #[.int .i64 o.d, .int .i64 o.f, .int .i64 o.k, .int .i64 o.n, .slice o.A o.b.length o.ac, .slice o.K o.ks.length o.kc]] w (StepPost w0 w gd gr (stepS s o) Z) := by
  have hin := hr.n
  unfold In64 at hin
  have HA := Lib.hid hr.b
  have HK := Lib.hid hr.ks
  have HAB : Hid (0 < o.b.length → ∀ x, o.A = some x → x.block < w0.heap.size) := fun h0 x hx => by
    obtain ⟨g, off, e, hl, _⟩ := hr.b h0
    rw [e] at hx
    obtain rfl := Option.some.inj hx
    exact hl
  have HKB : Hid (0 < o.ks.length → ∀ x, o.K = some x → x.block < w0.heap.size) := fun h0 x hx => by
    obtain ⟨g, off, e, hl, _⟩ := hr.ks h0
    rw [e] at hx
    obtain rfl := Option.some.inj hx
    exact hl
  have hx0 : stepS s o = (s.truncate o.f o.k).1 := by unfold stepS; rw [hd]; rfl
  rw [hx0]
  have HD0 := Lib.hid (fun (W : World) (hW : Duo w0 W gd gr s s (fun k => k = w.heap.size ∨ Z k)) => truncateD o.f o.k hW (by omega))
  have HC1 := Lib.hid (fun (W : World) (hW : Duo w0 W gd gr (s.truncate o.f o.k).1 s (fun k => k = w.heap.size ∨ Z k)) => truncateR o.f o.k hW (by omega))
  have HZL : Hid (∀ k, Z k → k < w.heap.size) := by obtain ⟨_, _, _, _, _, h4⟩ := h; exact h4
  have HP := Lib.hid (h.box (alloc_below w (.cells #[.int .i64 o.d, .int .i64 o.f, .int .i64 o.k, .int .i64 o.n, .slice o.A o.b.length o.ac, .slice o.K o.ks.length o.kc] 42)) (Y := fun k => k = w.heap.size) (fun k hk => by subst hk; simp))
  have hbx0 := heap_alloc_new w (.cells #[.int .i64 o.d, .int .i64 o.f, .int .i64 o.k, .int .i64 o.n, .slice o.A o.b.length o.ac, .slice o.K o.ks.length o.kc] 42)
  have HZ0 : Hid (Kept Z w (w.alloc (.cells #[.int .i64 o.d, .int .i64 o.f, .int .i64 o.k, .int .i64 o.n, .slice o.A o.b.length o.ac, .slice o.K o.ks.length o.kc] 42))) := Kept.below (alloc_below _ _) HZL.out
  generalize s.truncate o.f o.k = x at *
  obtain ⟨x1, x2⟩ := x
  simp only at HD0 HC1
  rw [hd] at HP hbx0 HZ0 ⊢
  clear h hr hx0 hd hlim
  go_enter Try.func20, Try.ntmps20
  go_wp2_with fail
  generalize w.alloc (.cells #[.int .i64 1, .int .i64 o.f, .int .i64 o.k, .int .i64 o.n, .slice o.A o.b.length o.ac, .slice o.K o.ks.length o.kc] 42) = W0 at *
  obtain ⟨bx, hbx⟩ : ∃ bx, bx = w.heap.size := ⟨_, rfl⟩
  simp only [← hbx] at *
  have hpd : Duo w0 W0.drew gd gr s s (fun k => k = bx ∨ Z k) := HP.out.below (Below.refl _ _).drew
  obtain ⟨b0, b1, b2, b3, b4, b5⟩ := box6 hbx0
  clear hbx0 HP b0 b3 b4 b5
  go_region_held3 (fun w' => w'.cell? ⟨bx, 1, none⟩ = some (.int .i64 o.f) ∧ w'.cell? ⟨bx, 2, none⟩ = some (.int .i64 o.k))
    (((try go_split_ands); first | (refine ⟨?_, ?_⟩ <;> first | assumption | (rw [cellb (hx1.2 _ (.inl rfl))]; assumption) | (rw [cellb (hx2.2 _ (.inl rfl))]; assumption) | go_keep) | assumption | (rw [cellb (hx1.2 _ (.inl rfl))]; assumption) | (rw [cellb (hx2.2 _ (.inl rfl))]; assumption) | go_keep))
    (first | (go_at_call 58; with_reducible refine (HD0.out _ hpd).mono ?_; rintro e w1 ⟨rfl, hp1, hx1⟩) | (go_at_call 59; with_reducible refine (HC1.out _ (by assumption)).mono ?_; rintro e w2 ⟨rfl, hp2, hx2⟩))
  go_wp2_with fail
  go_ret2
  exact ⟨rfl, hp2.sub (fun k hk => .inr hk), HZ0.out.trans (Kept.trans (Kept.trans ⟨Nat.le_refl _, fun _ _ => rfl⟩ (hx1.sub fun k hk => .inr hk)) (hx2.sub fun k hk => .inr hk))⟩
set_option maxHeartbeats 6400000 in
set_option maxRecDepth 100000 in
theorem step_2 (o : OpV) {w0 w : World} {gd gr : Nat} {s : St} {Z : Nat → Prop} (h : Duo w0 w gd gr s s Z) (hr : o.Reads w0) (hbl : o.b.length ≤ 140737488351232) (hkl : o.ks.length ≤ 140737488351232) (hkn : o.K = none → o.ks.length = 0) (hlim : s.pcs.length + 8388608 ≤ 1000000000000) (hd : o.d = 2) : Calls Try.prog 20 #[.pointer (some ⟨gd, 0, none⟩), .pointer (some ⟨gr, 0, none⟩), .agg #[.int .i64 o.d, .int .i64 o.f, .int .i64 o.k, .int .i64 o.n, .slice o.A o.b.length o.ac, .slice o.K o.ks.length o.kc]] w (StepPost w0 w gd gr (stepS s o) Z) := by
  have hin := hr.n
  unfold In64 at hin
  have HA := Lib.hid hr.b
  have HK := Lib.hid hr.ks
  have HAB : Hid (0 < o.b.length → ∀ x, o.A = some x → x.block < w0.heap.size) := fun h0 x hx => by
    obtain ⟨g, off, e, hl, _⟩ := hr.b h0
    rw [e] at hx
    obtain rfl := Option.some.inj hx
    exact hl
  have HKB : Hid (0 < o.ks.length → ∀ x, o.K = some x → x.block < w0.heap.size) := fun h0 x hx => by
    obtain ⟨g, off, e, hl, _⟩ := hr.ks h0
    rw [e] at hx
    obtain rfl := Option.some.inj hx
    exact hl
  have hx0 : stepS s o = (s.sync o.f).1 := by unfold stepS; rw [hd]; rfl
  rw [hx0]
  have HD0 := Lib.hid (fun (W : World) (hW : Duo w0 W gd gr s s (fun k => k = w.heap.size ∨ Z k)) => syncD o.f hW (by omega))
  have HC1 := Lib.hid (fun (W : World) (hW : Duo w0 W gd gr (s.sync o.f).1 s (fun k => k = w.heap.size ∨ Z k)) => syncR o.f hW (by omega))
  have HZL : Hid (∀ k, Z k → k < w.heap.size) := by obtain ⟨_, _, _, _, _, h4⟩ := h; exact h4
  have HP := Lib.hid (h.box (alloc_below w (.cells #[.int .i64 o.d, .int .i64 o.f, .int .i64 o.k, .int .i64 o.n, .slice o.A o.b.length o.ac, .slice o.K o.ks.length o.kc] 42)) (Y := fun k => k = w.heap.size) (fun k hk => by subst hk; simp))
  have hbx0 := heap_alloc_new w (.cells #[.int .i64 o.d, .int .i64 o.f, .int .i64 o.k, .int .i64 o.n, .slice o.A o.b.length o.ac, .slice o.K o.ks.length o.kc] 42)
  have HZ0 : Hid (Kept Z w (w.alloc (.cells #[.int .i64 o.d, .int .i64 o.f, .int .i64 o.k, .int .i64 o.n, .slice o.A o.b.length o.ac, .slice o.K o.ks.length o.kc] 42))) := Kept.below (alloc_below _ _) HZL.out
  generalize s.sync o.f = x at *
  obtain ⟨x1, x2⟩ := x
  simp only at HD0 HC1
  rw [hd] at HP hbx0 HZ0 ⊢
  clear h hr hx0 hd hlim
  go_enter Try.func20, Try.ntmps20
  go_wp2_with fail
  generalize w.alloc (.cells #[.int .i64 2, .int .i64 o.f, .int .i64 o.k, .int .i64 o.n, .slice o.A o.b.length o.ac, .slice o.K o.ks.length o.kc] 42) = W0 at *
  obtain ⟨bx, hbx⟩ : ∃ bx, bx = w.heap.size := ⟨_, rfl⟩
  simp only [← hbx] at *
  have hpd : Duo w0 W0.drew gd gr s s (fun k => k = bx ∨ Z k) := HP.out.below (Below.refl _ _).drew
  obtain ⟨b0, b1, b2, b3, b4, b5⟩ := box6 hbx0
  clear hbx0 HP b0 b2 b3 b4 b5
  go_region_held3 (fun w' => w'.cell? ⟨bx, 1, none⟩ = some (.int .i64 o.f))
    ((first | assumption | (rw [cellb (hx1.2 _ (.inl rfl))]; assumption) | (rw [cellb (hx2.2 _ (.inl rfl))]; assumption) | go_keep))
    (first | (go_at_call 14; with_reducible refine (HD0.out _ hpd).mono ?_; rintro e w1 ⟨rfl, hp1, hx1⟩) | (go_at_call 60; with_reducible refine (HC1.out _ (by assumption)).mono ?_; rintro e w2 ⟨rfl, hp2, hx2⟩))
  go_wp2_with fail
  go_ret2
  exact ⟨rfl, hp2.sub (fun k hk => .inr hk), HZ0.out.trans (Kept.trans (Kept.trans ⟨Nat.le_refl _, fun _ _ => rfl⟩ (hx1.sub fun k hk => .inr hk)) (hx2.sub fun k hk => .inr hk))⟩
set_option maxHeartbeats 6400000 in
set_option maxRecDepth 100000 in
theorem step_4 (o : OpV) {w0 w : World} {gd gr : Nat} {s : St} {Z : Nat → Prop} (h : Duo w0 w gd gr s s Z) (hr : o.Reads w0) (hbl : o.b.length ≤ 140737488351232) (hkl : o.ks.length ≤ 140737488351232) (hkn : o.K = none → o.ks.length = 0) (hlim : s.pcs.length + 8388608 ≤ 1000000000000) (hd : o.d = 4) : Calls Try.prog 20 #[.pointer (some ⟨gd, 0, none⟩), .pointer (some ⟨gr, 0, none⟩), .agg #[.int .i64 o.d, .int .i64 o.f, .int .i64 o.k, .int .i64 o.n, .slice o.A o.b.length o.ac, .slice o.K o.ks.length o.kc]] w (StepPost w0 w gd gr (stepS s o) Z) := by
  have hin := hr.n
  unfold In64 at hin
  have HA := Lib.hid hr.b
  have HK := Lib.hid hr.ks
  have HAB : Hid (0 < o.b.length → ∀ x, o.A = some x → x.block < w0.heap.size) := fun h0 x hx => by
    obtain ⟨g, off, e, hl, _⟩ := hr.b h0
    rw [e] at hx
    obtain rfl := Option.some.inj hx
    exact hl
  have HKB : Hid (0 < o.ks.length → ∀ x, o.K = some x → x.block < w0.heap.size) := fun h0 x hx => by
    obtain ⟨g, off, e, hl, _⟩ := hr.ks h0
    rw [e] at hx
    obtain rfl := Option.some.inj hx
    exact hl
  have hx0 : stepS s o = (s.crashed o.ks).1 := by unfold stepS; rw [hd]; rfl
  rw [hx0]
  have HD0 := Lib.hid (fun (W : World) (hW : Duo w0 W gd gr s s (fun k => k = w.heap.size ∨ Z k)) => crashD o.K o.kc o.ks.length o.ks hW (HK.out.below hW.bel) rfl (fun h0 x hx => HKB.out h0 x hx) (by omega))
  have HC1 := Lib.hid (fun (W : World) (hW : Duo w0 W gd gr (s.crashed o.ks).1 s (fun k => k = w.heap.size ∨ Z k)) => crashR o.K o.kc o.ks.length o.ks hW (HK.out.below hW.bel) rfl (fun h0 x hx => HKB.out h0 x hx) (by omega))
  have HZL : Hid (∀ k, Z k → k < w.heap.size) := by obtain ⟨_, _, _, _, _, h4⟩ := h; exact h4
  have HP := Lib.hid (h.box (alloc_below w (.cells #[.int .i64 o.d, .int .i64 o.f, .int .i64 o.k, .int .i64 o.n, .slice o.A o.b.length o.ac, .slice o.K o.ks.length o.kc] 42)) (Y := fun k => k = w.heap.size) (fun k hk => by subst hk; simp))
  have hbx0 := heap_alloc_new w (.cells #[.int .i64 o.d, .int .i64 o.f, .int .i64 o.k, .int .i64 o.n, .slice o.A o.b.length o.ac, .slice o.K o.ks.length o.kc] 42)
  have HZ0 : Hid (Kept Z w (w.alloc (.cells #[.int .i64 o.d, .int .i64 o.f, .int .i64 o.k, .int .i64 o.n, .slice o.A o.b.length o.ac, .slice o.K o.ks.length o.kc] 42))) := Kept.below (alloc_below _ _) HZL.out
  generalize s.crashed o.ks = x at *
  obtain ⟨x1, x2⟩ := x
  simp only at HD0 HC1
  rw [hd] at HP hbx0 HZ0 ⊢
  clear h hr hx0 hd hlim
  go_enter Try.func20, Try.ntmps20
  go_wp2_with fail
  generalize w.alloc (.cells #[.int .i64 4, .int .i64 o.f, .int .i64 o.k, .int .i64 o.n, .slice o.A o.b.length o.ac, .slice o.K o.ks.length o.kc] 42) = W0 at *
  obtain ⟨bx, hbx⟩ : ∃ bx, bx = w.heap.size := ⟨_, rfl⟩
  simp only [← hbx] at *
  have hpd : Duo w0 W0.drew gd gr s s (fun k => k = bx ∨ Z k) := HP.out.below (Below.refl _ _).drew
  obtain ⟨b0, b1, b2, b3, b4, b5⟩ := box6 hbx0
  clear hbx0 HP b0 b1 b2 b3 b4
  go_region_held3 (fun w' => w'.cell? ⟨bx, 5, none⟩ = some (.slice o.K o.ks.length o.kc))
    ((first | assumption | (rw [cellb (hx1.2 _ (.inl rfl))]; assumption) | (rw [cellb (hx2.2 _ (.inl rfl))]; assumption) | go_keep))
    (first | (go_at_call 16; with_reducible refine (HD0.out _ hpd).mono ?_; rintro e w1 ⟨rfl, hp1, hx1⟩) | (go_at_call 61; with_reducible refine (HC1.out _ (by assumption)).mono ?_; rintro e w2 ⟨rfl, hp2, hx2⟩))
  go_wp2_with fail
  go_ret2
  exact ⟨rfl, hp2.sub (fun k hk => .inr hk), HZ0.out.trans (Kept.trans (Kept.trans ⟨Nat.le_refl _, fun _ _ => rfl⟩ (hx1.sub fun k hk => .inr hk)) (hx2.sub fun k hk => .inr hk))⟩
set_option maxHeartbeats 6400000 in
set_option maxRecDepth 100000 in
theorem step_5 (o : OpV) {w0 w : World} {gd gr : Nat} {s : St} {Z : Nat → Prop} (h : Duo w0 w gd gr s s Z) (hr : o.Reads w0) (hbl : o.b.length ≤ 140737488351232) (hkl : o.ks.length ≤ 140737488351232) (hkn : o.K = none → o.ks.length = 0) (hlim : s.pcs.length + 8388608 ≤ 1000000000000) (hd : o.d = 5) : Calls Try.prog 20 #[.pointer (some ⟨gd, 0, none⟩), .pointer (some ⟨gr, 0, none⟩), .agg #[.int .i64 o.d, .int .i64 o.f, .int .i64 o.k, .int .i64 o.n, .slice o.A o.b.length o.ac, .slice o.K o.ks.length o.kc]] w (StepPost w0 w gd gr (stepS s o) Z) := by
  have hin := hr.n
  unfold In64 at hin
  have HA := Lib.hid hr.b
  have HK := Lib.hid hr.ks
  have HAB : Hid (0 < o.b.length → ∀ x, o.A = some x → x.block < w0.heap.size) := fun h0 x hx => by
    obtain ⟨g, off, e, hl, _⟩ := hr.b h0
    rw [e] at hx
    obtain rfl := Option.some.inj hx
    exact hl
  have HKB : Hid (0 < o.ks.length → ∀ x, o.K = some x → x.block < w0.heap.size) := fun h0 x hx => by
    obtain ⟨g, off, e, hl, _⟩ := hr.ks h0
    rw [e] at hx
    obtain rfl := Option.some.inj hx
    exact hl
  have hx0 : stepS s o = (s.lit o.n o.ks).1 := by unfold stepS; rw [hd]; rfl
  rw [hx0]
  have HD0 := Lib.hid (fun (W : World) (hW : Duo w0 W gd gr s s (fun k => k = w.heap.size ∨ Z k)) => fuseD o.n o.K o.kc o.ks.length o.ks hW hin.2 hkn (by omega) (HK.out.below hW.bel) rfl (fun h0 x hx => HKB.out h0 x hx))
  have HC1 := Lib.hid (fun (W : World) (hW : Duo w0 W gd gr (s.lit o.n o.ks).1 s (fun k => k = w.heap.size ∨ Z k)) => fuseR o.n o.K o.kc o.ks.length o.ks hW hin.2 (by omega) (HK.out.below hW.bel) rfl (fun h0 x hx => HKB.out h0 x hx))
  have HZL : Hid (∀ k, Z k → k < w.heap.size) := by obtain ⟨_, _, _, _, _, h4⟩ := h; exact h4
  have HP := Lib.hid (h.box (alloc_below w (.cells #[.int .i64 o.d, .int .i64 o.f, .int .i64 o.k, .int .i64 o.n, .slice o.A o.b.length o.ac, .slice o.K o.ks.length o.kc] 42)) (Y := fun k => k = w.heap.size) (fun k hk => by subst hk; simp))
  have hbx0 := heap_alloc_new w (.cells #[.int .i64 o.d, .int .i64 o.f, .int .i64 o.k, .int .i64 o.n, .slice o.A o.b.length o.ac, .slice o.K o.ks.length o.kc] 42)
  have HZ0 : Hid (Kept Z w (w.alloc (.cells #[.int .i64 o.d, .int .i64 o.f, .int .i64 o.k, .int .i64 o.n, .slice o.A o.b.length o.ac, .slice o.K o.ks.length o.kc] 42))) := Kept.below (alloc_below _ _) HZL.out
  generalize s.lit o.n o.ks = x at *
  obtain ⟨x1, x2⟩ := x
  simp only at HD0 HC1
  rw [hd] at HP hbx0 HZ0 ⊢
  clear h hr hx0 hd hlim
  go_enter Try.func20, Try.ntmps20
  go_wp2_with fail
  generalize w.alloc (.cells #[.int .i64 5, .int .i64 o.f, .int .i64 o.k, .int .i64 o.n, .slice o.A o.b.length o.ac, .slice o.K o.ks.length o.kc] 42) = W0 at *
  obtain ⟨bx, hbx⟩ : ∃ bx, bx = w.heap.size := ⟨_, rfl⟩
  simp only [← hbx] at *
  have hpd : Duo w0 W0.drew gd gr s s (fun k => k = bx ∨ Z k) := HP.out.below (Below.refl _ _).drew
  obtain ⟨b0, b1, b2, b3, b4, b5⟩ := box6 hbx0
  clear hbx0 HP b0 b1 b2 b4
  go_region_held3 (fun w' => w'.cell? ⟨bx, 3, none⟩ = some (.int .i64 o.n) ∧ w'.cell? ⟨bx, 5, none⟩ = some (.slice o.K o.ks.length o.kc))
    (((try go_split_ands); first | (refine ⟨?_, ?_⟩ <;> first | assumption | (rw [cellb (hx1.2 _ (.inl rfl))]; assumption) | (rw [cellb (hx2.2 _ (.inl rfl))]; assumption) | go_keep) | assumption | (rw [cellb (hx1.2 _ (.inl rfl))]; assumption) | (rw [cellb (hx2.2 _ (.inl rfl))]; assumption) | go_keep))
    (first | (go_at_call 46; with_reducible refine (HD0.out _ hpd).mono ?_; rintro e w1 ⟨rfl, hp1, hx1⟩) | (go_at_call 62; with_reducible refine (HC1.out _ (by assumption)).mono ?_; rintro e w2 ⟨rfl, hp2, hx2⟩))
  go_wp2_with fail
  go_ret2
  exact ⟨rfl, hp2.sub (fun k hk => .inr hk), HZ0.out.trans (Kept.trans (Kept.trans ⟨Nat.le_refl _, fun _ _ => rfl⟩ (hx1.sub fun k hk => .inr hk)) (hx2.sub fun k hk => .inr hk))⟩
end Go.Proofs.Ytdbbghmldaekhaa
