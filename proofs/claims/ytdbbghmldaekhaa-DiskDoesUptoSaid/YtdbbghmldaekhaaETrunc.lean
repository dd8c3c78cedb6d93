/-
  The document's disk: Truncate.
-/
import Derived.Test.YtdbbghmldaekhaaEWrite
namespace Go.Proofs.Ytdbbghmldaekhaa
open Go.ChangeShapes Go.WideShapes Go.ChangeAt Go.RowKit
set_option linter.unusedVariables false

theorem wpList_piece4 {ops : Array Oper} {rest : List Oper} {o : Oper} {a : Act} {Q : Exit → Act → World → Prop} (hgd : o.guard = none) (s x : Operand)
    (ho : o.op = .call { callee := .builtin .append, args := #[s, x], argTypes := #[98, 98] }) (B : Nat) (v : Value) (y : PV) (n : Nat) (xs : List Value) (w : World) (hs : a.eval s = v) (q : Nat) (hx : a.eval x = .slice (some ⟨q, 0, none⟩) 1 1)
    (hown : w.ownsRow B 150 4 v n xs) (hB : B ≤ w.heap.size) (hc : ∀ j u, y.cells4[j]? = some u → w.cell? ⟨q, j, none⟩ = some u) (hlim : n + 1 ≤ 2000000000000)
    (h : ∀ p k w', w'.ownsRow B 150 4 (.slice p (n + 1) k) (n + 1) (xs ++ y.cells4) → Grw w w' v (.slice p (n + 1) k) → wpList Try.prog ops Q rest (a.put o.dst (.slice p (n + 1) k)) w') : wpList Try.prog ops Q (o :: rest) a w := by
  obtain ⟨i0, hi, hz0, hz1, hz2⟩ := info_parts pieceInfo4
  refine wpList_append_lies _ hgd s x 98 ho B 150 i0 (.agg #[.int .i64 0, .bool false, .int .i64 0, .slice none 0 0]) 4 48 Try.underlying98 hi hz0 hz1 hz2 rfl (by decide) v _ _ hs hown ⟨q, 0, none⟩ 1 1 y.cells4 hx rfl (fun j u hj => by
    rw [Go.WideShapes.add_plain, Nat.zero_add]
    exact hc j u hj) (fun u hu => by simp [PV.cells4] at hu; rcases hu with rfl | rfl | rfl | rfl <;> rfl) (by decide) (by unfold maxLen; omega) (by omega) hB _ rfl ?_
  intro g cap w1 hown1 hgrow hat hlt
  exact h _ _ w1 hown1 (Grw.lies hgrow hat)
set_option maxHeartbeats 6400000 in
set_option maxRecDepth 100000 in
theorem rtrunc_main (F m : Nat) (hF : F < 2) (w : World) (B g : Nat) (a : Nat → Option Addr) (k : Nat → Nat) (pc : Value) (qs : List PV) (ka : Option Addr) (kc : Nat) (ks : List Bool) (R : Nat → Prop) (s : St) (hd : RSt w B g a k pc qs ka kc ks R s) (hm : s.may (F : Int) = 0) (hN : Calls Try.prog 66 #[.pointer (some ⟨g, 0, none⟩), .int .i64 (F : Int)] w (Shown R (s.now F) w)) (hnl : (s.now F).length ≤ 4194304) (hmn : m ≤ (s.now F).length) (hlim : s.pcs.length + 4194304 ≤ 1000000000000) :
    Calls Try.prog 59 #[.pointer (some ⟨g, 0, none⟩), .int .i64 (F : Int), .int .i64 (m : Int)] w (RPost B g pc R ((s.add [⟨F, true, m, []⟩]).count) w) := by
  have HM := Lib.hid (rmay_any (F : Int) w B g a k pc qs ka kc ks R s hd)
  rw [hm] at HM
  have HN := Lib.hid hN
  rw [count_eq s ks hd.lit [⟨F, true, m, []⟩]]
  obtain ⟨s1, hs1⟩ : ∃ s1 : St, s1 = { s with calls := next64 s.calls, fuse := s.fuse - 1 } := ⟨_, rfl⟩
  have hp1 : s1.pcs = s.pcs := by rw [hs1]
  have HME := Lib.hid (fun W hW => rmeets_any W B g a k pc qs ka kc ks R s (hd.below (w' := W) hW))
  rw [← hs1] at HME ⊢
  have HD := Lib.hid hd
  have HQL : Hid (qs.length + 1 ≤ 2000000000000) := by
    have e1 : qs.length = s.pcs.length := by rw [hd.names, List.length_map]
    show _ ≤ _
    omega
  have hgl := hd.g_lt
  obtain ⟨x, hx⟩ : ∃ x : St × Int, x = if decide (s.fuse = 1) = true then ((s1.add [⟨F, true, m, []⟩]).crash ks, 6) else (s1.add [⟨F, true, m, []⟩], 0) := ⟨_, rfl⟩
  rw [← hx]
  have HX := Lib.hid hx
  have hmI : (m : Int) ≤ ((s.now F).length : Int) := by omega
  have hnlI : ((s.now F).length : Int) ≤ 4194304 := by omega
  have hm0 : ¬ (m : Int) < 0 := by omega
  generalize decide (s.fuse = 1) = hit at *
  generalize s.now F = L at *
  clear hd hx hs1 hm hN hlim hmn hnl
  go_enter Try.func59, Try.ntmps59
  go_wp2_with fail
  refine HM.out.mono ?_
  rintro e w' ⟨rfl, rfl⟩
  go_wp2_with fail
  refine HN.out.mono ?_
  rintro e w4 ⟨a4, n4, k4, rfl, rfl, -, -, -, hb4⟩
  have HB4 := Lib.hid hb4
  have HME4 := Lib.hid (HME.out w4 hb4)
  clear hb4 HME HM HN
  go_wp2_with fail
  refine HME4.out.mono ?_
  rintro e wr ⟨rfl, h1, t1⟩
  have H1 := Lib.hid h1
  have T1 := Lib.hid ((RTurn.below HB4.out).trans t1)
  have hgr := h1.g_lt
  obtain ⟨⟨c0, c1, c2, c3, c4, c5, c6⟩, hfz⟩ := box7 h1.box
  obtain ⟨pa1, pk1, hpc1⟩ := row_sliceV h1.core.row
  clear h1 t1 HME4 HD
  subst hpc1
  obtain ⟨q, hq⟩ : ∃ q : PV, q = ⟨⟨F, true, m, []⟩, none, 0⟩ := ⟨_, rfl⟩
  have HQ := Lib.hid hq
  have HQC : Hid (q.cells4 = [.int .i64 (F : Int), .bool true, .int .i64 (m : Int), .slice none 0 0]) := by show _ = _; rw [hq]; rfl
  clear hq c0 c1 c3 c4 c5 c6
  have HCC : Hid (∀ (o : Obj) j u, o = .cells #[.int .i64 (F : Int), .bool true, .int .i64 (m : Int), .slice none 0 0] 150 → q.cells4[j]? = some u → (wr.alloc o).cell? ⟨wr.heap.size, j, none⟩ = some u) := by
    intro o j u ho hj
    subst ho
    rw [HQC.out] at hj
    match j, hj with
    | 0, hj => (obtain rfl := Option.some.inj hj; exact World.cell?_alloc_at _ _ _ _ rfl)
    | 1, hj => (obtain rfl := Option.some.inj hj; exact World.cell?_alloc_at _ _ _ _ rfl)
    | 2, hj => (obtain rfl := Option.some.inj hj; exact World.cell?_alloc_at _ _ _ _ rfl)
    | 3, hj => (obtain rfl := Option.some.inj hj; exact World.cell?_alloc_at _ _ _ _ rfl)
  go_wp2_with (at_builtin; refine wpList_piece4 rfl _ _ rfl B (.slice pa1 qs.length pk1) q qs.length (row4 qs) _ rfl wr.heap.size rfl (H1.out.core.below (alloc_below wr _)).row (by have := H1.out.core.base; simp; omega) (fun j u hj => HCC.out _ j u rfl hj) HQL.out ?_; intro p5 k5 w5 hrow5 hg5; have HC5 := Lib.hid ((H1.out.core.below (alloc_below wr _)).push q hrow5 hg5 ⟨by rw [HQ.out]; exact BRd.nil _ _, fun h0 => by rw [HQ.out] at h0; simp at h0⟩); have HG5 := Lib.hid (Grw.of_below (alloc_below wr _) hg5); have hbx5 := Lib.hid ((hg5.old (Nat.lt_of_lt_of_le hgr (by simp)) H1.out.core.ng).trans (((alloc_below wr _).block g hgr).trans H1.out.box)); obtain ⟨⟨c40, c41, c42, c43, c44, c45, c46⟩, hfz4⟩ := box7 hbx5.out; have hgr5 : g < w5.heap.size := Nat.lt_of_lt_of_le hgr (Nat.le_trans (by simp) hg5.by_.size); clear hrow5 hg5; refine Hid.out ?_)
  refine Lib.hid ?_
  go_wp2_with fail
  have HS : Hid (RSt (w5.setCell ⟨g, 2, none⟩ (.slice p5 (qs.length + 1) k5)) B g a k (.slice p5 (qs.length + 1) k5) (qs ++ [q]) ka kc ks R (s1.add [⟨F, true, m, []⟩])) :=
    ⟨set10 hbx5.out 2 _, HC5.out.set 2 _, H1.out.lit, by rw [List.map_append, ← H1.out.names, HQ.out]; rfl, H1.out.ok.add fun y hy => by
      obtain rfl : y = ⟨F, true, m, []⟩ := by simpa using hy
      exact ⟨hF, by simp; unfold maxFile; omega, fun _ => rfl, fun h => by cases h⟩⟩
  have HT5 := Lib.hid (T1.out.trans ((RTurn.push HG5.out).trans (RTurn.set w5 g 2 (.slice p5 (qs.length + 1) k5) (.slice p5 (qs.length + 1) k5) R)))
  have HE0 := Lib.hid (ends_no _ B g a k _ (qs ++ [q]) ka kc ks R _ HS.out)
  have HE1 := Lib.hid (ends_hit _ B g a k _ (qs ++ [q]) ka kc ks R _ HS.out (by rw [List.length_append]; have := HQL.out; simp; omega))
  clear c40 c41 c42 c43 c44 c45 c46 hfz4 hbx5 HC5 HG5 c2 hfz hgr H1 T1 hgr5 HCC
  generalize w5.setCell ⟨g, 2, none⟩ (.slice p5 (qs.length + 1) k5) = w6 at *
  cases hit with
  | false =>
    refine HE0.out.mono ?_
    rintro e w' ⟨rfl, rfl⟩
    go_wp2_with fail
    go_ret
    rw [HX.out, if_neg (by simp)]
    exact ⟨rfl, _, R, ⟨a, k, _, ka, kc, ks, HS.out⟩, HT5.out⟩
  | true =>
    refine HE1.out.mono ?_
    rintro e w7 ⟨rfl, pc7, R7, h7, t7⟩
    have H7 := Lib.hid h7
    have T7 := Lib.hid t7
    clear h7 t7 HE1
    go_wp2_with fail
    go_ret
    rw [HX.out, if_pos trivial]
    exact ⟨rfl, pc7, R7, H7.out, HT5.out.trans T7.out⟩
set_option maxHeartbeats 1600000 in
theorem rtrunc_any (f n : Int) (w : World) (B g : Nat) (a : Nat → Option Addr) (k : Nat → Nat) (pc : Value) (qs : List PV) (ka : Option Addr) (kc : Nat) (ks : List Bool) (R : Nat → Prop) (s : St) (hd : RSt w B g a k pc qs ka kc ks R s) (hlim : s.pcs.length + 4194304 ≤ 1000000000000) :
    Calls Try.prog 59 #[.pointer (some ⟨g, 0, none⟩), .int .i64 f, .int .i64 n] w (RPost B g pc R (s.truncate f n) w) := by
  have HM := Lib.hid (rmay_any f w B g a k pc qs ka kc ks R s hd)
  have HD := Lib.hid hd
  have hql : qs.length ≤ 8000000000000 := by
    have e1 : qs.length = s.pcs.length := by rw [hd.names, List.length_map]
    omega
  unfold St.truncate
  by_cases hm : s.may f = 0
  · rw [if_neg (by omega)]
    obtain ⟨-, hf⟩ := may_file hm
    rw [hm] at HM
    by_cases hk : n < 0
    · rw [if_pos (.inl hk)]
      clear hd hm
      go_enter Try.func59, Try.ntmps59
      go_wp2_with fail
      refine HM.out.mono ?_
      rintro e w' ⟨rfl, rfl⟩
      go_wp2_with fail
      go_ret
      exact ⟨rfl, pc, R, ⟨a, k, qs, ka, kc, ks, HD.out⟩, RTurn.refl _ _ _ _⟩
    · rcases hf with rfl | rfl
      · have HN := Lib.hid (now_0 w B g a k pc qs ka kc ks R s hd hql)
        have hnl := hd.ok.now 0
        unfold maxFile at hnl
        by_cases hbig : ((s.now (0 : Int).toNat).length : Int) < n
        · rw [if_pos (.inr hbig)]
          have hbig' : ((s.now 0).length : Int) < n := hbig
          have hn0 : ¬ n < 0 := by omega
          clear hd hbig
          generalize s.now 0 = L at *
          go_enter Try.func59, Try.ntmps59
          go_wp2_with fail
          refine HM.out.mono ?_
          rintro e w' ⟨rfl, rfl⟩
          go_wp2_with fail
          refine HN.out.mono ?_
          rintro e w4 ⟨a4, n4, k4, rfl, rfl, -, -, -, hb4⟩
          have HB4 := Lib.hid hb4
          clear hb4
          go_wp2_with fail
          go_ret
          exact ⟨rfl, pc, R, ⟨a, k, qs, ka, kc, ks, HD.out.below HB4.out⟩, RTurn.below HB4.out⟩
        · rw [if_neg (fun h => h.elim (by omega) hbig)]
          obtain ⟨m, rfl⟩ : ∃ m : Nat, n = (m : Int) := ⟨n.toNat, by omega⟩
          rw [show (0 : Int).toNat = 0 from rfl, show (m : Int).toNat = m from rfl] at *
          exact rtrunc_main 0 m (by omega) w B g a k pc qs ka kc ks R s hd hm (now_0 w B g a k pc qs ka kc ks R s hd hql) hnl (by omega) hlim
      · have HN := Lib.hid (now_1 w B g a k pc qs ka kc ks R s hd hql)
        have hnl := hd.ok.now 1
        unfold maxFile at hnl
        by_cases hbig : ((s.now (1 : Int).toNat).length : Int) < n
        · rw [if_pos (.inr hbig)]
          have hbig' : ((s.now 1).length : Int) < n := hbig
          have hn0 : ¬ n < 0 := by omega
          clear hd hbig
          generalize s.now 1 = L at *
          go_enter Try.func59, Try.ntmps59
          go_wp2_with fail
          refine HM.out.mono ?_
          rintro e w' ⟨rfl, rfl⟩
          go_wp2_with fail
          refine HN.out.mono ?_
          rintro e w4 ⟨a4, n4, k4, rfl, rfl, -, -, -, hb4⟩
          have HB4 := Lib.hid hb4
          clear hb4
          go_wp2_with fail
          go_ret
          exact ⟨rfl, pc, R, ⟨a, k, qs, ka, kc, ks, HD.out.below HB4.out⟩, RTurn.below HB4.out⟩
        · rw [if_neg (fun h => h.elim (by omega) hbig)]
          obtain ⟨m, rfl⟩ : ∃ m : Nat, n = (m : Int) := ⟨n.toNat, by omega⟩
          rw [show (1 : Int).toNat = 1 from rfl, show (m : Int).toNat = m from rfl] at *
          exact rtrunc_main 1 m (by omega) w B g a k pc qs ka kc ks R s hd hm (now_1 w B g a k pc qs ka kc ks R s hd hql) hnl (by omega) hlim
  · rw [if_pos hm]
    generalize s.may f = m at *
    clear hd
    go_enter Try.func59, Try.ntmps59
    go_wp2_with fail
    refine HM.out.mono ?_
    rintro e w' ⟨rfl, rfl⟩
    go_wp2_with fail
    go_ret
    exact ⟨rfl, pc, R, ⟨a, k, qs, ka, kc, ks, HD.out⟩, RTurn.refl _ _ _ _⟩
end Go.Proofs.Ytdbbghmldaekhaa
