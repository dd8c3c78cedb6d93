/-
  Of bits: the contract of the document's Of.
-/
import Derived.Test.YtpdffcopigajgaaKOf
namespace Go.Proofs.Ytpdffcopigajgaa
open Go.ChangeShapes Go.WideShapes Go.ChangeAt Go.RowKit Go.Deep
set_option linter.unusedVariables false

theorem bitL_app0 (l : List UInt8) (i : Nat) : bitL (l ++ [0]) i = bitL l i := by
  unfold bitL
  congr 1
  rw [List.getD_eq_getElem?_getD, List.getD_eq_getElem?_getD]
  by_cases h : i / 8 < l.length
  · rw [List.getElem?_append_left h]
  · rw [List.getElem?_append_right (by omega), List.getElem?_eq_none (by omega : l.length ≤ i / 8)]
    by_cases h2 : i / 8 - l.length = 0
    · rw [h2]; rfl
    · rw [List.getElem?_eq_none (by simp; omega)]
/-- The bytes of the first k truths, with room for one more. -/
def roomB (t : List Bool) (k : Nat) : List UInt8 := if k % 8 = 0 then pkB (t.take k) ++ [0] else pkB (t.take k)
theorem take_len {t : List Bool} {k : Nat} (h : k ≤ t.length) : (t.take k).length = k := by rw [List.length_take]; omega
theorem room_len {t : List Bool} {k : Nat} (h : k < t.length) : (roomB t k).length = (k + 8) / 8 := by
  unfold roomB
  split
  · rw [List.length_append, pk_len, take_len (by omega)]; simp; omega
  · rw [pk_len, take_len (by omega)]; omega
theorem room_bit (t : List Bool) (k i : Nat) : bitL (roomB t k) i = (t.take k).getD i false := by
  unfold roomB
  split
  · rw [bitL_app0, bit_pk]
  · rw [bit_pk]
theorem getD_take {t : List Bool} {k i : Nat} : (t.take k).getD i false = if i < k then t.getD i false else false := by
  rw [List.getD_eq_getElem?_getD, List.getD_eq_getElem?_getD, List.getElem?_take]
  split <;> rfl
theorem room_set {t : List Bool} {k : Nat} (h : k < t.length) (hy : t[k] = true) : putB (roomB t k) k true = pkB (t.take (k + 1)) := by
  have hk : k < 8 * (roomB t k).length := by rw [room_len h]; omega
  refine pk_ext (by rw [put_len, room_len h, take_len (by omega)]) fun i _ => ?_
  rw [bit_put hk, room_bit, getD_take, getD_take]
  by_cases e : i = k
  · subst e
    rw [if_pos rfl, if_pos (by omega), getD_lt h, hy]
  · rw [if_neg e]
    by_cases e2 : i < k
    · rw [if_pos e2, if_pos (by omega)]
    · rw [if_neg e2, if_neg (by omega)]
theorem room_keep {t : List Bool} {k : Nat} (h : k < t.length) (hy : t[k] = false) : roomB t k = pkB (t.take (k + 1)) := by
  refine pk_ext (by rw [room_len h, take_len (by omega)]) fun i _ => ?_
  rw [room_bit, getD_take, getD_take]
  by_cases e : i = k
  · subst e
    rw [if_neg (by omega), if_pos (by omega), getD_lt h, hy]
  · by_cases e2 : i < k
    · rw [if_pos e2, if_pos (by omega)]
    · rw [if_neg e2, if_neg (by omega)]

set_option maxHeartbeats 8000000 in
set_option maxRecDepth 100000 in
theorem rof_any (A : Option Addr) (c : Nat) (t : List Bool) (w : World) (hA : KRd w A t) (hl : t.length ≤ 1000000000000000) : Calls Try.prog 15 #[.slice A t.length c] w (BPost t w) := by
  have HA := Lib.hid (fun (W : World) (h : Below w.heap.size w W) => hA.below h)
  obtain ⟨n, hn⟩ : ∃ n, n = t.length := ⟨_, rfl⟩
  rw [← hn] at hl ⊢
  have HN := Lib.hid hn
  have HX2 := Lib.hid (box_next (box_new w (.cells #[.int .i64 0, .slice none 0 0] 25)) (alloc_below _ (.cells #[.int .i64 (n : Int), .slice none 0 0] 25)))
  have hX3 := box_new (w.alloc (.cells #[.int .i64 0, .slice none 0 0] 25)) (.cells #[.int .i64 (n : Int), .slice none 0 0] 25)
  rw [World.size_alloc] at hX3
  have HX3 := Lib.hid hX3
  have HB := Lib.hid (bt (alloc_below w (.cells #[.int .i64 0, .slice none 0 0] 25)) (alloc_below _ (.cells #[.int .i64 (n : Int), .slice none 0 0] 25)))
  clear hA hn hX3
  go_enter Try.func15, Try.ntmps15
  go_wp2_with fail
  go_loopw [4] (fun idx wr => ∃ (k : Nat) (a : Option Addr) (m c2 : Nat), k ≤ n ∧ idx = .int .i64 (k : Int) ∧ m = (pkB (t.take k)).length ∧ OwnB wr (w.heap.size + 2) (.slice a m c2) (pkB (t.take k)) ∧ wr.heap[w.heap.size]? = some (.cells #[.int .i64 0, .slice none 0 0] 25 (0, 0)) ∧ wr.heap[w.heap.size + 1]? = some (.cells #[.int .i64 (n : Int), .slice a m c2] 25 (0, 0)) ∧ Below w.heap.size w wr) (fun idx _ => n - (intOf idx).toNat)
  case atStart => exact ⟨0, none, 0, 0, by omega, rfl, by simp [pkB], by rw [show pkB (t.take 0) = [] by simp [pkB]]; exact OwnB.nil _ _, HX2.out, HX3.out, HB.out⟩
  case round =>
    clear HX2 HX3 HB
    obtain ⟨k, a, m, c2, hk, rfl, hm, hown, x2, x3, hb⟩ := hrel
    have HB := Lib.hid hb
    have HO := Lib.hid hown
    have HM := Lib.hid hm
    by_cases hkn : k < n
    · have hkt : k < t.length := by have := HN.out; omega
      obtain ⟨q, off, rfl, hgl, hc⟩ := (HA.out _ hb) (by omega)
      have HC0 := Lib.hid (hc k hkt)
      have HQ : Hid (q < w.heap.size) := by
        obtain ⟨q', off', e, h', _⟩ := (HA.out w (Below.refl _ _)) (by omega)
        cases e
        exact h'
      have kI : (k : Int) < (n : Int) := by omega
      have kN : k < n := hkn
      have X2 := Lib.hid x2
      have X3 := Lib.hid x3
      have hml : m = (k + 7) / 8 := by rw [hm, pk_len, take_len (by omega)]
      have HRL := Lib.hid (room_len hkt)
      have HML := Lib.hid hml
      have HR : Hid (roomB t k = if k % 8 = 0 then pkB (t.take k) ++ [0] else pkB (t.take k)) := rfl
      have HS : Hid (t[k] = true → putB (roomB t k) k true = pkB (t.take (k + 1))) := room_set hkt
      have HK : Hid (t[k] = false → roomB t k = pkB (t.take (k + 1))) := room_keep hkt
      have HP1 : Hid ((pkB (t.take (k + 1))).length = (k + 8) / 8) := by show _ = _; rw [pk_len, take_len (by omega)]
      have hzz : w.heap.size + 2 ≤ wr.heap.size := by have := box_lt x3; omega
      have kB : (k : Int) ≤ 1000000000000000 := by omega
      have HZZ := Lib.hid hzz
      clear hc hown hml
      generalize t[k] = y at *
      clear hkt x2 x3 hb hm hkn hzz
      by_cases h8 : k % 8 = 0
      · have q0 : (k : Int) % 8 = 0 := by omega
        have hr := HR.out
        rw [if_pos h8] at hr
        obtain ⟨⟨r0, r1⟩, rf⟩ := box_cells2 X3.out
        have H8 := Lib.hid h8
        have HRR := Lib.hid hr
        clear h8 hr
        go_wp2_with (at_builtin; go_loud (refine wpList_byte rfl _ _ rfl (w.heap.size + 2) _ (pkB (t.take k)) 0 rfl rfl rfl HO.out HZZ.out (by rw [← HM.out]; have := HML.out; omega) ?_); intro v2 w2 hown2 hg2; refine Hid.out ?_)
        refine Lib.hid ?_
        rw [← HRR.out] at hown2
        obtain ⟨a2, k2, rfl, hmk, -⟩ := own_slice hown2
        rw [HRL.out] at hown2 hg2 ⊢
        have z2 := (hg2.old (box_lt X2.out) (box_off HO.out X2.out (by decide))).trans X2.out
        have z3 := (hg2.old (box_lt X3.out) (box_off HO.out X3.out (by decide))).trans X3.out
        have hB2 := below_tr HB.out ((hg2.below HO.out HZZ.out).mono (by omega))
        have hf3 : Fr (fun k => k = w.heap.size + 1) w2 (w2.setCell ⟨w.heap.size + 1, 1, none⟩ (.slice a2 ((k + 8) / 8) k2)) := Fr.set (F := fun k => k = w.heap.size + 1) _ _ _ _ rfl
        have HO4 := Lib.hid (hown2.fr hf3 (fun j h e => by subst e; exact box_off hown2 z3 (by decide) h))
        have HX4 := Lib.hid (box_fr z2 hf3 (by omega))
        have HX5 : Hid ((w2.setCell ⟨w.heap.size + 1, 1, none⟩ (.slice a2 ((k + 8) / 8) k2)).heap[w.heap.size + 1]? = some (.cells #[.int .i64 (n : Int), .slice a2 ((k + 8) / 8) k2] 25 (0, 0))) := by
          show _ = _
          simp only [World.setCell, Array.getElem?_modify, if_pos, z3, Option.map_some]
          rfl
        have HB4 := Lib.hid (below_tr hB2 (hf3.below (B := w.heap.size) (fun k e => by omega) hB2.size))
        obtain ⟨⟨t0, t1⟩, tf⟩ := box_cells2 z3
        have HCW : Hid ((w2.setCell ⟨w.heap.size + 1, 1, none⟩ (.slice a2 ((k + 8) / 8) k2)).cell? ⟨q, off + k, none⟩ = some (.bool y)) := by
          show _ = _
          rw [World.cell?_of_block (w := w) (a := ⟨q, off + k, none⟩) (HB4.out.block q HQ.out), ← World.cell?_of_block (w := w) (w' := wr) (a := ⟨q, off + k, none⟩) (HB.out.block q HQ.out)]
          exact HC0.out
        generalize hM8 : (k + 8) / 8 = m8 at *
        have HM8 := Lib.hid hM8
        clear hM8
        clear hown2 hg2 z2 z3 hB2 hf3
        cases y with
        | false =>
          have hke := HK.out rfl
          have HO5 := Lib.hid (show OwnB (w2.setCell ⟨w.heap.size + 1, 1, none⟩ (.slice a2 m8 k2)) (w.heap.size + 2) (.slice a2 m8 k2) (pkB (t.take (k + 1))) by rw [← hke]; exact HO4.out)
          have c0 := HCW.out
          clear HS HK hke
          go_wp2_with fail
          go_roundw
          case rel => exact ⟨k + 1, a2, m8, k2, by omega, by go_num, HP1.out.symm, HO5.out, HX4.out, HX5.out, HB4.out⟩
          case measure => simp [intOf]; omega
        | true =>
          have hke := HS.out rfl
          obtain ⟨j, hj⟩ : ∃ j, j = k / 8 := ⟨_, rfl⟩
          obtain ⟨u, hu⟩ : ∃ u, u = k % 8 := ⟨_, rfl⟩
          obtain ⟨g, e2, hgB, hg1, hfz, hcc, hput⟩ := OwnB.put HO4.out HRL.out.symm j (by have := HM8.out; omega)
          subst e2
          have HPU := Lib.hid (hput (setB ((roomB t k).getD j 0) u true))
          have e3 : (roomB t k).set j (setB ((roomB t k).getD j 0) u true) = pkB (t.take (k + 1)) := by rw [← hke, hj, hu]; rfl
          rw [e3] at HPU
          have HMM := Lib.hid (or_set ((roomB t k).getD j 0) u (by omega))
          have y2 := Lib.hid (box_fr HX4.out HPU.out.2 (fun e => by subst e; exact box_off HO4.out HX4.out (by decide) rfl))
          have y3 := Lib.hid (box_fr HX5.out HPU.out.2 (fun e => by subst e; exact box_off HO4.out HX5.out (by decide) rfl))
          have B5 := Lib.hid (below_tr HB4.out (HPU.out.2.below (B := w.heap.size) (fun k e => by omega) HB4.out.size))
          have c0 := HCW.out
          obtain ⟨⟨r0, r1⟩, rf⟩ := box_cells2 HX5.out
          have q1 : (k : Int) / 8 = (j : Int) := by omega
          have q2 : (k : Int) % 8 = (u : Int) := by omega
          have q3 : (0 : Int) ≤ (k : Int) := by omega
          have q4 : (j : Int) < (m8 : Int) := by have := HM8.out; omega
          have q5 : (u : Int) < 8 := by omega
          clear HS HK hke hput hj hu e3 q0
          generalize (roomB t k).getD j 0 = ch at *
          go_wp2_with fail
          go_region
          rw [HMM.out]
          go_wp2_with fail
          go_roundw
          case rel => exact ⟨k + 1, _, m8, k2, by omega, by go_num, HP1.out.symm, HPU.out.1.below (Below.refl _ _).drew, box_next y2.out (Below.refl _ _).drew, box_next y3.out (Below.refl _ _).drew, B5.out.drew⟩
          case measure => simp [intOf]; omega
      · have q0 : ((k : Int) % 8 == 0) = false := by simp; omega
        have hr := HR.out
        rw [if_neg h8] at hr
        have hmm : m = (k + 8) / 8 := by rw [HML.out]; omega
        generalize hM8 : (k + 8) / 8 = m8 at *
        subst hmm
        have HM8 := Lib.hid hM8
        have HO4 := HO
        rw [← hr] at HO4
        have HCW := HC0
        clear h8 hr hM8
        cases y with
        | false =>
          have hke := HK.out rfl
          have HO5 := Lib.hid (show OwnB wr (w.heap.size + 2) (.slice a m c2) (pkB (t.take (k + 1))) by rw [← hke]; exact HO4.out)
          have c0 := HCW.out
          clear HS HK hke
          go_wp2_with fail
          go_roundw
          case rel => exact ⟨k + 1, a, m, c2, by omega, by go_num, HP1.out.symm, HO5.out, X2.out, X3.out, HB.out⟩
          case measure => simp [intOf]; omega
        | true =>
          have hke := HS.out rfl
          obtain ⟨j, hj⟩ : ∃ j, j = k / 8 := ⟨_, rfl⟩
          obtain ⟨u, hu⟩ : ∃ u, u = k % 8 := ⟨_, rfl⟩
          obtain ⟨g, e2, hgB, hg1, hfz, hcc, hput⟩ := OwnB.put HO4.out HRL.out.symm j (by have := HM8.out; omega)
          subst e2
          have HPU := Lib.hid (hput (setB ((roomB t k).getD j 0) u true))
          have e3 : (roomB t k).set j (setB ((roomB t k).getD j 0) u true) = pkB (t.take (k + 1)) := by rw [← hke, hj, hu]; rfl
          rw [e3] at HPU
          have HMM := Lib.hid (or_set ((roomB t k).getD j 0) u (by omega))
          have y2 := Lib.hid (box_fr X2.out HPU.out.2 (fun e => by subst e; exact box_off HO4.out X2.out (by decide) rfl))
          have y3 := Lib.hid (box_fr X3.out HPU.out.2 (fun e => by subst e; exact box_off HO4.out X3.out (by decide) rfl))
          have B5 := Lib.hid (below_tr HB.out (HPU.out.2.below (B := w.heap.size) (fun k e => by omega) HB.out.size))
          have c0 := HCW.out
          obtain ⟨⟨r0, r1⟩, rf⟩ := box_cells2 X3.out
          have q1 : (k : Int) / 8 = (j : Int) := by omega
          have q2 : (k : Int) % 8 = (u : Int) := by omega
          have q3 : (0 : Int) ≤ (k : Int) := by omega
          have q4 : (j : Int) < (m : Int) := by have := HM8.out; omega
          have q5 : (u : Int) < 8 := by omega
          clear HS HK hke hput hj hu e3
          generalize (roomB t k).getD j 0 = ch at *
          go_wp2_with fail
          go_region
          rw [HMM.out]
          go_wp2_with fail
          go_roundw
          case rel => exact ⟨k + 1, _, m, c2, by omega, by go_num, HP1.out.symm, HPU.out.1.below (Below.refl _ _).drew, box_next y2.out (Below.refl _ _).drew, box_next y3.out (Below.refl _ _).drew, B5.out.drew⟩
          case measure => simp [intOf]; omega
    · obtain rfl : k = n := by omega
      have kI : ¬ ((k : Int) < (k : Int)) := by omega
      obtain ⟨⟨r0, r1⟩, rf⟩ := box_cells2 x3
      obtain ⟨⟨s0, s1⟩, sf⟩ := box_cells2 x2
      have hz := box_lt x3
      have hmc : m ≤ c2 ∧ (a = none → c2 = 0) := by
        obtain ⟨a', c', e, h1, h2⟩ := own_slice hown
        cases e
        rw [← hm] at h1
        exact ⟨h1, h2⟩
      have HMC := Lib.hid hmc
      clear hown x2 x3 hb hkn hm hmc
      go_wp2_with fail
      refine bodyPost_ret (v := .agg #[.int .i64 k, .slice a m c2]) (by simp [results, Try.results15, go_sem, s0, s1]) rfl ?_
      have h := HO.out
      have hn := HN.out
      have hm := HM.out
      subst hn
      rw [List.take_length] at h hm
      exact BPost.box h hm HMC.out.2 HMC.out.1 (by omega) HB.out w.heap.size (Nat.le_refl _) (by omega) _ _
end Go.Proofs.Ytpdffcopigajgaa
