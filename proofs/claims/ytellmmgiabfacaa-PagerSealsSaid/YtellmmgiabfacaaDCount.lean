/-
  Of disk: contract of count; what has been turned, and what is read, from one state of a disk to another.
-/
import Derived.Test.YtellmmgiabfacaaDCrashB
import Derived.Test.YtellmmgiabfacaaDKeep
namespace Go.Proofs.Ytellmmgiabfacaa
open Go.ChangeShapes Go.WideShapes Go.ChangeAt Go.RowKit
set_option linter.unusedVariables false

/-- A state of a disk behind another one: what was written, what is read. -/
structure Run (w w' : World) (g : Nat) (v : Nat → Value) (pc : Value) (qs : List PV) (kp : Value) (v' : Nat → Value) (pc' : Value) (qs' : List PV) (kp' : Value) : Prop where
  turn : Turn w w' g v pc v' pc'
  newR : ∀ k, k < w.heap.size → DR g v' pc' qs' kp' k → DR g v pc qs kp k
theorem Run.refl (w : World) (g : Nat) (v : Nat → Value) (pc : Value) (qs : List PV) (kp : Value) : Run w w g v pc qs kp v pc qs kp := ⟨.refl _ _ _ _, fun _ _ h => h⟩
theorem Run.trans {w w1 w2 : World} {g : Nat} {v v1 v2 : Nat → Value} {pc pc1 pc2 : Value} {qs qs1 qs2 : List PV} {kp kp1 kp2 : Value} (h : Run w w1 g v pc qs kp v1 pc1 qs1 kp1) (k : Run w1 w2 g v1 pc1 qs1 kp1 v2 pc2 qs2 kp2) : Run w w2 g v pc qs kp v2 pc2 qs2 kp2 :=
  ⟨h.turn.trans k.turn, fun j hj hd => h.newR j hj (k.newR j (Nat.lt_of_lt_of_le hj h.turn.fr.size) hd)⟩
theorem Run.of_turn {w w' : World} {g : Nat} {v v' : Nat → Value} {pc pc' : Value} {qs qs' : List PV} {kp kp' : Value} (h : Turn w w' g v pc v' pc') (hq : ∀ q ∈ qs', q ∈ qs ∨ ∀ a, q.A = some a → w.heap.size ≤ a.block) (hk : kp' = kp ∨ kp'.ownBlock = none) : Run w w' g v pc qs kp v' pc' qs' kp' := by
  refine ⟨h, fun k hk' hd => ?_⟩
  rcases hd with e | e | ⟨q, hq', a, ha, rfl⟩
  · exact .inl (h.new k hk' e)
  · rcases hk with rfl | hk
    · exact .inr (.inl e)
    · rw [hk] at e; cases e
  · rcases hq q hq' with h' | h'
    · exact .inr (.inr ⟨q, h', a, ha, rfl⟩)
    · have := h' a ha
      omega
theorem Run.below {w w' : World} {g : Nat} {v : Nat → Value} {pc : Value} {qs : List PV} {kp : Value} (h : Below w.heap.size w w') : Run w w' g v pc qs kp v pc qs kp := ⟨.below h, fun _ _ h => h⟩
theorem DSt.disk {w : World} {g : Nat} {v : Nat → Value} {pc : Value} {qs : List PV} {kp : Value} {s : St} (h : DSt w g v pc qs kp s) : Disk w g (DF g v pc) (DR g v pc qs kp) s :=
  ⟨v, pc, qs, kp, h, fun _ h => h, fun _ h => h, fun _ h => .inl h, h.core.lt (Array.getElem?_eq_some_iff.1 h.box).1⟩
theorem DSt.below {w w' : World} {g : Nat} {v : Nat → Value} {pc : Value} {qs : List PV} {kp : Value} {s : St} (h : DSt w g v pc qs kp s) (hb : Below w.heap.size w w') : DSt w' g v pc qs kp s := h.same hb.size fun k hk _ => hb.block k hk
theorem Run.after {w w' : World} {g : Nat} {F R : Nat → Prop} {s : St} {v v' : Nat → Value} {pc pc' : Value} {qs qs' : List PV} {kp kp' : Value} (h : Run w w' g v pc qs kp v' pc' qs' kp') (hF : ∀ k, DF g v pc k → F k) (hR : ∀ k, DR g v pc qs kp k → R k) (hFR : ∀ k, F k → R k) (hlt : ∀ k, R k → k < w.heap.size) (hd : DSt w' g v' pc' qs' kp' s) : After w w' g F R s :=
  After.mk' hF hR hFR hlt hd h.turn.fr h.turn.new h.newR
theorem next64_wrap {c : Int} (h : -9223372036854775808 ≤ c ∧ c ≤ 9223372036854775807) : IntKind.i64.wrap (c + 1) = next64 c := by
  rw [IntKind.wrap_i64]
  unfold next64
  split <;> omega
theorem ticked {w : World} {g : Nat} {v : Nat → Value} {pc : Value} {qs : List PV} {kp : Value} {s : St} (h : DSt w g v pc qs kp s) : DSt (w.setCell ⟨g, 2, none⟩ (.int .i64 (next64 s.calls))) g v pc qs kp { s with calls := next64 s.calls } :=
  ⟨set10 h.box 2 _, h.core.set 2 _, h.names, h.ok.ticked⟩
set_option maxHeartbeats 2000000 in
set_option maxRecDepth 100000 in
theorem count_any (g : Nat) (w : World) (v : Nat → Value) (pc : Value) (qs : List PV) (kp : Value) (s : St) (hd : DSt w g v pc qs kp s) (hdn : s.down = false) (hlim : qs.length ≤ 8000000000000) :
    Calls Try.prog 85 #[.pointer (some ⟨g, 0, none⟩)] w fun e w' => e = .returned (.int .i64 s.count.2) ∧ ∃ v' pc' qs' kp', DSt w' g v' pc' qs' kp' s.count.1 ∧ Run w w' g v pc qs kp v' pc' qs' kp' := by
  have HT := Lib.hid (ticked hd)
  have hgl : g < w.heap.size := (Array.getElem?_eq_some_iff.1 hd.box).1
  obtain ⟨⟨c0, c1, c2, c3, c4, c5, c6, c7, c8, c9⟩, hfz⟩ := box10 hd.box
  have hwr := next64_wrap hd.ok.calls
  have hwr2 : wrap64 (s.calls + 1) = next64 s.calls := by
    rw [← hwr, IntKind.wrap_i64]
    unfold wrap64
    omega
  clear hd
  obtain ⟨s1, hs1⟩ : ∃ s1 : St, s1 = { s with calls := next64 s.calls } := ⟨_, rfl⟩
  have hfu1 : s1.fuse = s.fuse := by rw [hs1]
  have hke1 : s1.keep = s.keep := by rw [hs1]
  have hdn1 : s1.down = false := by rw [hs1]; exact hdn
  rw [← hs1] at HT
  have HRN := Lib.hid ((Run.of_turn (Turn.set w g 2 (.int .i64 (next64 s.calls)) v pc) (fun q hq => .inl hq) (.inl rfl) : Run w (w.setCell ⟨g, 2, none⟩ (.int .i64 (next64 s.calls))) g v pc qs kp v pc qs kp))
  have hbx := HT.out.box
  have HBU := Lib.hid (burns_any g HT.out.disk)
  obtain ⟨⟨d0, d1, d2, d3, d4, d5, d6, d7, d8, d9⟩, hfz1⟩ := box10 hbx
  have hgl1 : g < (w.setCell ⟨g, 2, none⟩ (.int .i64 (next64 s.calls))).heap.size := (Array.getElem?_eq_some_iff.1 hbx).1
  clear hbx
  rw [hfu1] at HBU d3
  obtain ⟨w1, hw1⟩ : ∃ w1, w1 = w.setCell ⟨g, 2, none⟩ (.int .i64 (next64 s.calls)) := ⟨_, rfl⟩
  by_cases hf : s.fuse = 1
  · have hcnt : s.count = (s1.crash s.keep, 6) := by unfold St.count; rw [if_pos hf, ← hs1]
    rw [hcnt]
    rw [decide_eq_true hf] at HBU
    obtain ⟨a, k, hkp, -⟩ := row_slice HT.out.core.keep
    have hkp2 := hkp
    rw [hke1] at hkp2
    rw [hkp2] at c4
    have hkr : KRd _ a s1.keep := own_krd (by have := HT.out.core.keep; rw [hkp] at this; exact this)
    have HCR := Lib.hid (crash_any g a k s1.keep _ v pc qs kp s1 HT.out hdn1 hkr (fun _ x hx hd => by
      have hb : kp.ownBlock = some x.block := by rw [hkp, hx]; rfl
      rcases hd with e | e | ⟨i, hi, e⟩
      · exact HT.out.core.dgk (e ▸ hb)
      · exact HT.out.core.dkp _ hb e
      · exact HT.out.core.dkv i hi _ hb e) hlim)
    rw [hke1] at HCR
    clear hkr hkp hkp2 hs1 hfu1 hke1 hdn1 hcnt hdn hf d0 d1 d2 d3 d4 d5 d6 d7 d8 d9 hfz1 hw1
    go_enter Try.func85, Try.ntmps85
    go_wp2_with fail
    refine HBU.out.mono ?_
    rintro e w' ⟨rfl, rfl⟩
    go_wp2_with fail
    refine HCR.out.mono ?_
    rintro e w2 ⟨rfl, v2, hd2, ht2⟩
    have HD2 := Lib.hid hd2
    have HT2 := Lib.hid ht2
    clear hd2 ht2
    go_wp2_with fail
    go_ret
    exact ⟨rfl, v2, _, [], _, HD2.out, HRN.out.trans (Run.of_turn HT2.out (fun q hq => by simp at hq) (.inr rfl))⟩
  · have hcnt : s.count = ({ s1 with fuse := s.fuse - 1 }, 0) := by unfold St.count; rw [if_neg hf, hs1]
    rw [hcnt]
    rw [decide_eq_false hf] at HBU
    obtain ⟨m, hm⟩ : ∃ m, m = s.fuse - 1 := ⟨_, rfl⟩
    have hmx : max (0 : Int) ((s.fuse : Int) - 1) = (m : Int) := by omega
    have hfl : (s.fuse : Int) ≤ 9223372036854775807 := by have := HT.out.ok.fuse; rw [hfu1] at this; omega
    rw [← hm]
    have hst : DSt ((w.setCell ⟨g, 2, none⟩ (.int .i64 (next64 s.calls))).setCell ⟨g, 3, none⟩ (.int .i64 m)) g v pc qs kp { s1 with fuse := m } := ⟨set10 HT.out.box 3 _, HT.out.core.set 3 _, HT.out.names, ⟨HT.out.ok.sure, HT.out.ok.pcs, by have := HT.out.ok.fuse; simp only; omega, HT.out.ok.calls⟩⟩
    have HST := Lib.hid hst
    have HRT := Lib.hid (HRN.out.trans (Run.of_turn (Turn.set (w.setCell ⟨g, 2, none⟩ (.int .i64 (next64 s.calls))) g 3 (.int .i64 m) v pc) (fun q hq => .inl hq) (.inl rfl) : Run _ _ g v pc qs kp v pc qs kp))
    clear hst hcnt hm hs1 hfu1 hke1 hdn1 hdn hf d0 d1 d2 d3 d4 d5 d6 d7 d8 d9 hfz1 hw1
    go_enter Try.func85, Try.ntmps85
    go_wp2_with fail
    refine HBU.out.mono ?_
    rintro e w' ⟨rfl, rfl⟩
    go_wp2_with fail
    go_ret
    exact ⟨rfl, v, pc, qs, kp, HST.out, HRT.out⟩
end Go.Proofs.Ytellmmgiabfacaa
