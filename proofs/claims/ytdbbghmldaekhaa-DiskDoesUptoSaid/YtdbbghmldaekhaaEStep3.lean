/-
  The law's step at both disks: Clone.
-/
import Derived.Test.YtdbbghmldaekhaaEStep2
import Derived.Test.YtdbbghmldaekhaaEClone
namespace Go.Proofs.Ytdbbghmldaekhaa
open Go.ChangeShapes Go.WideShapes Go.ChangeAt Go.RowKit
set_option linter.unusedVariables false

theorem brd_three (w : World) (T : TypeId) (c d e : UInt8) : BRd (w.alloc (.cells #[.int .u8 (c.toNat : Int), .int .u8 (d.toNat : Int), .int .u8 (e.toNat : Int)] T)) (some ⟨w.heap.size, 0, none⟩) [c, d, e] := fun _ => by
  refine ⟨_, _, rfl, by simp, fun i hi => ?_⟩
  match i, hi with
  | 0, _ => exact World.cell?_alloc_at _ _ _ _ rfl
  | 1, _ => exact World.cell?_alloc_at _ _ _ _ rfl
  | 2, _ => exact World.cell?_alloc_at _ _ _ _ rfl
theorem krd_one (w : World) (T : TypeId) (z : Bool) : KRd (w.alloc (.cells #[.bool z] T)) (some ⟨w.heap.size, 0, none⟩) [z] := fun _ => by
  refine ⟨_, _, rfl, by simp, fun i hi => ?_⟩
  match i, hi with
  | 0, _ => exact World.cell?_alloc_at _ _ _ _ rfl
/-- What a step leaves, and at which disk it is gone on. -/
def StepAll (w0 w : World) (gr : Nat) (s : St) (Z : Nat → Prop) (e : Ending) (w' : World) : Prop := ∃ c, e = .returned (.tuple #[.pointer (some ⟨c, 0, none⟩), .bool true]) ∧ Duo w0 w' c gr s s Z ∧ Kept Z w w'
/-- The clone, once the disk has been turned. -/
theorem duo_clone {w0 w W1 W3 : World} {gd gr gc : Nat} {s : St} {Z : Nat → Prop} {pc : Value} {R : Nat → Prop} {v v' v3 : Nat → Value} {pcd pcc pc3 : Value} {qs qs3 : List PV} {kp kpc kp3 : Value} (hd : DSt w gd v pcd qs kp s) (hF : ∀ k, DF gd v pcd k → w0.heap.size ≤ k) (h0 : Below w0.heap.size w0 w)
    (hX : ∀ k, (RX gr pc R k ∨ Z k) → ¬ DR gd v pcd qs kp k) (hr : RDisk w w0.heap.size gr pc R s) (hz : ∀ k, RX gr pc R k → ¬ Z k) (hl : ∀ k, Z k → k < w.heap.size) (hW : Below w.heap.size w W1) (hc : DSt W1 gc v' pcc qs kpc s) (hnew : ∀ k, DF gc v' pcc k → w.heap.size ≤ k) (hnewk : ∀ k, kpc.ownBlock = some k → w.heap.size ≤ k)
    (hfc : ∀ k, DF gc v' pcc k → ¬ DF gd v pcd k) (hT : Run W1 W3 gd v pcd qs kp v3 pc3 qs3 kp3) : Duo w0 W3 gc gr s s Z ∧ Kept Z w W3 := by
  obtain ⟨a, k, rs, ka, kc, ks, hr⟩ := hr
  have l1 := hd.core.lt (Array.getElem?_eq_some_iff.1 hd.box).1
  have l2 := hr.x_lt
  have hfr := hT.turn.fr
  have s0 := hW.size
  have s1 := hfr.size
  have hq : ∀ j, (∃ q ∈ qs, ∃ a, q.A = some a ∧ a.block = j) → DR gd v pcd qs kp j ∧ ¬ DF gd v pcd j := by
    rintro j ⟨q, hq, a, ha, rfl⟩
    refine ⟨.inr (.inr ⟨q, hq, a, ha, rfl⟩), ?_⟩
    have h2 := (hd.core.reads q hq).2 a ha
    rintro (e | e | ⟨i, hi, e⟩)
    · exact h2.2.1 e
    · exact h2.2.2.1 e
    · exact h2.2.2.2 i hi e
  have hcd : ∀ j, DR gc v' pcc qs kpc j → (w.heap.size ≤ j ∨ DR gd v pcd qs kp j) ∧ ¬ DF gd v pcd j := by
    intro j hj
    rcases hj with e | e | e
    · exact ⟨.inl (hnew j e), hfc j e⟩
    · exact ⟨.inl (hnewk j e), fun hf => by have := l1 j (.inl hf); have := hnewk j e; omega⟩
    · exact ⟨.inr (hq j e).1, (hq j e).2⟩
  have hbel : Below w0.heap.size w0 W3 := below_tr (bt h0 hW) (hfr.below hF (Nat.le_trans h0.size s0))
  refine ⟨⟨pc, R, ⟨v', pcc, qs, kpc, hc.same s1 fun j hj hdr => hfr.block j hj (hcd j hdr).2, fun j hj => Nat.le_trans h0.size (hnew j hj), hbel, fun j hj hdr => ?_⟩, ⟨a, k, rs, ka, kc, ks, (hr.below hW).fr hfr fun j hj hx => hX j (.inl hx) (.inl hj)⟩, hz, fun j hj => by have := hl j hj; omega⟩, by omega, fun j hj => (hfr.block j (by have := hl j hj; omega) fun hf => hX j (.inr hj) (.inl hf)).trans (hW.block j (hl j hj))⟩
  rcases (hcd j hdr).1 with h | h
  · have := hj.elim (l2 j) (hl j)
    omega
  · exact hX j hj h
set_option maxHeartbeats 6400000 in
set_option maxRecDepth 100000 in
theorem step_7 (o : OpV) {w0 w : World} {gd gr : Nat} {s : St} {Z : Nat → Prop} (h : Duo w0 w gd gr s s Z) (hlim : s.pcs.length + 8388608 ≤ 1000000000000) (hkl : s.keep.length ≤ 140737488355328) (hd : o.d = 7) : Calls Try.prog 20 #[.pointer (some ⟨gd, 0, none⟩), .pointer (some ⟨gr, 0, none⟩), .agg #[.int .i64 o.d, .int .i64 o.f, .int .i64 o.k, .int .i64 o.n, .slice o.A o.b.length o.ac, .slice o.K o.ks.length o.kc]] w (StepAll w0 w gr s Z) := by
  have HB0 := Lib.hid (alloc_below w (.cells #[.int .i64 o.d, .int .i64 o.f, .int .i64 o.k, .int .i64 o.n, .slice o.A o.b.length o.ac, .slice o.K o.ks.length o.kc] 42))
  have hbx0 := heap_alloc_new w (.cells #[.int .i64 o.d, .int .i64 o.f, .int .i64 o.k, .int .i64 o.n, .slice o.A o.b.length o.ac, .slice o.K o.ks.length o.kc] 42)
  obtain ⟨b0, b1, b2, b3, b4, b5⟩ := box6 hbx0
  have hbl : w.heap.size < (w.alloc (.cells #[.int .i64 o.d, .int .i64 o.f, .int .i64 o.k, .int .i64 o.n, .slice o.A o.b.length o.ac, .slice o.K o.ks.length o.kc] 42)).heap.size := by simp
  obtain ⟨pc, R, ⟨v, pcd, qs, kp, i1, i2, i3, i4⟩, h2, h3, h4⟩ := h
  have hq : s.pcs.length = qs.length := by rw [i1.names, List.length_map]
  have hql : qs.length + 4194304 ≤ 8000000000000 := by omega
  have HI1 := Lib.hid i1
  have HI2 := Lib.hid i2
  have HI3 := Lib.hid i3
  have HI4 := Lib.hid i4
  have HR := Lib.hid h2
  have HZ := Lib.hid h3
  have HL := Lib.hid h4
  have HC := Lib.hid (clone_st gd (w.alloc (.cells #[.int .i64 o.d, .int .i64 o.f, .int .i64 o.k, .int .i64 o.n, .slice o.A o.b.length o.ac, .slice o.K o.ks.length o.kc] 42)) v pcd qs kp s (i1.below (alloc_below _ _)) (by omega) hkl)
  have HQL := Lib.hid hql
  rw [hd] at HC b0 HB0 b1 hbl ⊢
  clear i1 i2 i3 i4 h2 h3 h4 hq hql hlim hkl hd hbx0 b2 b3 b4 b5
  go_enter Try.func20, Try.ntmps20
  go_wp2_with fail
  refine HC.out.mono ?_
  rintro e w1 ⟨c, vc, pcc, kpc, rfl, hdc, hb1, hn1, hn2⟩
  have HDC := Lib.hid hdc
  have HB1 := Lib.hid (bt HB0.out hb1)
  have HN1 := Lib.hid hn1
  have HN2 := Lib.hid hn2
  have d1 := ((bcell hb1).1 _ _ hbl).trans b1
  have HW1 := Lib.hid hb1.size
  have hl1 : w.heap.size < w1.heap.size := Nat.lt_of_lt_of_le hbl hb1.size
  have HS : Hid (Calls Try.prog 21 #[.pointer (some ⟨c, 0, none⟩), .pointer (some ⟨gd, 0, none⟩)] w1 fun e w' => e = .returned (.bool true) ∧ Below w1.heap.size w1 w') := by
    have h := same_any c gd hdc.disk (HI1.out.below HB1.out).disk
    rw [beq_self_eq_true, beq_self_eq_true] at h
    exact h
  clear hdc hb1 hn1 hn2 b0 b1 HC HB0 hbl
  go_wp2_with fail
  refine HS.out.mono ?_
  rintro e w2 ⟨rfl, hb2⟩
  have HB2 := Lib.hid (bt HB1.out hb2)
  have f1 := ((bcell hb2).1 _ _ hl1).trans d1
  have HC2 := Lib.hid (HDC.out.below hb2)
  have HW2 := Lib.hid (Nat.le_trans HW1.out hb2.size)
  clear hb2 d1 HS HDC HB1 HW1
  have HWR := Lib.hid (write_any gd o.f 0 (some ⟨w2.heap.size, 0, none⟩) 3 [1, 2, 3] (w2.alloc (.cells #[.int .u8 1, .int .u8 2, .int .u8 3] 5)) v pcd qs kp s ((HI1.out.below HB2.out).below (alloc_below _ _)) (brd_three w2 _ 1 2 3) (by simp) HQL.out)
  go_wp2_with fail
  refine HWR.out.mono ?_
  rintro e w3 ⟨rfl, v3, pc3, qs3, kp3, hd3, hr3⟩
  have HD3 := Lib.hid hd3
  have HR3 := Lib.hid ((Run.below (alloc_below w2 _)).trans hr3)
  have l3 := Lib.hid (hd3.core.lt (Array.getElem?_eq_some_iff.1 hd3.box).1)
  have HQ3 : Hid (qs3.length ≤ 8000000000000) := by
    have e3 : qs3.length = (s.write o.f 0 [1, 2, 3]).1.pcs.length := by rw [hd3.names, List.length_map]
    have h9 := stepS_len s ⟨0, o.f, 0, 0, none, [1, 2, 3], 0, none, [], 0⟩
    unfold stepS at h9
    rw [if_pos rfl] at h9
    have hq : s.pcs.length = qs.length := by rw [HI1.out.names, List.length_map]
    have := HQL.out
    show _ ≤ _
    simp at h9
    omega
  clear hd3 hr3 HWR f1
  have HCR := Lib.hid (crash_turned gd (some ⟨w3.heap.size, 0, none⟩) 1 [true] (w3.alloc (.cells #[.bool true] 4)) v3 pc3 qs3 kp3 _ (HD3.out.below (alloc_below _ _)) (krd_one w3 _ true) (fun _ x hx hf => by
    obtain rfl := Option.some.inj hx
    have := l3.out _ (.inl hf)
    simp at this) HQ3.out)
  generalize (s.write o.f 0 [1, 2, 3]).1 = s3 at *
  go_wp2_with fail
  refine HCR.out.mono ?_
  rintro e w4 ⟨rfl, v4, pc4, qs4, kp4, hd4, hr4⟩
  have HR4 := Lib.hid (HR3.out.trans ((Run.below (alloc_below w3 _)).trans hr4))
  clear hd4 hr4 HCR
  go_wp2_with fail
  go_ret2
  have hlw : w.heap.size ≤ (w.alloc (.cells #[.int .i64 7, .int .i64 o.f, .int .i64 o.k, .int .i64 o.n, .slice o.A o.b.length o.ac, .slice o.K o.ks.length o.kc] 42)).heap.size := by simp
  have l1 := HI1.out.core.lt (Array.getElem?_eq_some_iff.1 HI1.out.box).1
  obtain ⟨r1, r2⟩ := duo_clone HI1.out HI2.out HI3.out HI4.out HR.out HZ.out HL.out HB2.out HC2.out (fun k hk => Nat.le_trans hlw (HN1.out k hk)) (fun k hk => Nat.le_trans hlw (HN2.out k hk)) (fun k hk hf => by have := l1 k (.inl hf); have := HN1.out k hk; omega) HR4.out
  exact ⟨c, rfl, r1, r2⟩
theorem step_all (o : OpV) {w0 w : World} {gd gr : Nat} {s : St} {Z : Nat → Prop} (h : Duo w0 w gd gr s s Z) (hr : o.Reads w0) (hbl : o.b.length ≤ 140737488351232) (hkl : o.ks.length ≤ 140737488351232) (hkn : o.K = none → o.ks.length = 0) (hlim : s.pcs.length + 8388608 ≤ 1000000000000) (hsk : s.keep.length ≤ 140737488355328) :
    Calls Try.prog 20 #[.pointer (some ⟨gd, 0, none⟩), .pointer (some ⟨gr, 0, none⟩), .agg #[.int .i64 o.d, .int .i64 o.f, .int .i64 o.k, .int .i64 o.n, .slice o.A o.b.length o.ac, .slice o.K o.ks.length o.kc]] w (StepAll w0 w gr (stepS s o) Z) := by
  by_cases h7 : o.d = 7
  · have hx : stepS s o = s := by
      unfold stepS
      rw [if_neg (by omega), if_neg (by omega), if_neg (by omega), if_neg (by omega), if_neg (by omega), if_neg (by omega)]
    rw [hx]
    exact step_7 o h hlim hsk h7
  · exact (step_any o h hr hbl hkl hkn hlim h7).mono fun e w' hp => ⟨gd, hp.1, hp.2.1, hp.2.2⟩
theorem stepS_keep (s : St) (o : OpV) : (stepS s o).keep.length ≤ s.keep.length + o.ks.length := by
  have hc : ∀ t : St, t.count.1.keep.length ≤ t.keep.length := fun t => by
    unfold St.count
    split
    · simp [St.crash]
    · exact Nat.le_refl _
  unfold stepS
  split
  · unfold St.write
    split
    · show s.keep.length ≤ _; omega
    · split
      · show s.keep.length ≤ _; omega
      · split
        · show s.keep.length ≤ _; omega
        · exact Nat.le_trans (hc _) (Nat.le_add_right _ _)
  · split
    · unfold St.truncate
      split
      · show s.keep.length ≤ _; omega
      · split
        · show s.keep.length ≤ _; omega
        · exact Nat.le_trans (hc _) (Nat.le_add_right _ _)
    · split
      · unfold St.sync
        split
        · show s.keep.length ≤ _; omega
        · split
          · exact Nat.le_trans (hc _) (Nat.le_add_right _ _)
          · exact Nat.le_trans (hc _) (Nat.le_add_right _ _)
      · split
        · unfold St.crashed
          split
          · show s.keep.length ≤ _; omega
          · simp [St.crash]
        · split
          · unfold St.lit
            split
            · show s.keep.length ≤ _; omega
            · show (if o.n = 0 then [] else o.ks).length ≤ _
              split
              · simp
              · omega
          · split
            · show s.keep.length ≤ _; omega
            · omega
end Go.Proofs.Ytdbbghmldaekhaa
