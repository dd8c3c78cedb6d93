/-
  Of bits: the contract of normal.
-/
import Derived.Test.YtpdffcopigajgaaKGet
namespace Go.Proofs.Ytpdffcopigajgaa
open Go.ChangeShapes Go.WideShapes Go.ChangeAt Go.RowKit Go.Deep
set_option linter.unusedVariables false

theorem copy_to_none (w : World) (ty : TypeId) (a A : Option Addr) (c n k : Nat) : (Builtin.copy_ #[23, 23] ty #[.slice a 0 c, .slice A n k]).run Try.prog w = .ok (goInt 0) w := by
  obtain ⟨i, hi, hz, hs, hbb⟩ := info_parts byteInfo
  have ht := Try.underlying23
  cases A <;> cases a <;> simp [Builtin.copy_, run_underlying ht, sizeOf, typeInfo, hi, Builtin.lenOf, Builtin.firstCells, loadCells, loadCellsFrom, storeCells]
set_option maxHeartbeats 4000000 in
set_option maxRecDepth 100000 in
theorem normal_any (N : Int) (A : Option Addr) (c : Nat) (l : List UInt8) (w : World) (hA : BRd w A l) (hl : l.length ≤ 140737488355328) : Calls Try.prog 53 #[.agg #[.int .i64 N, .slice A l.length c]] w (BPost (trB N l) w) := by
  have HS := Lib.hid (fun W => size_any N A c l W (by omega))
  have hsl := sz_le N l
  have HL : Hid ((trB N l).length = szB N l) := tr_len N l
  have HN : Hid (normB (szB N l) l = pkB (trB N l)) := norm_pk N l
  have HPL : Hid ((pkB (trB N l)).length = (szB N l + 7) / 8) := by show _ = _; rw [pk_len, tr_len]
  generalize trB N l = t at *
  generalize szB N l = z at *
  have HC := Lib.hid (fun W => cleared_any z W (by omega))
  unfold BPost at HC
  rw [pk_none] at HC
  simp only [List.length_replicate] at HC
  obtain ⟨p, hp⟩ : ∃ p, p = (z + 7) / 8 := ⟨_, rfl⟩
  rw [← hp] at HC HPL
  have HA := Lib.hid (fun (W : World) (h : Below w.heap.size w W) => hA.below h)
  have HP := Lib.hid hp
  have hpl : p ≤ l.length := by omega
  have HPLL := Lib.hid hpl
  have hzb : (z : Int) ≤ 8000000000000000 := by omega
  clear hA hsl hp hpl
  go_enter Try.func53, Try.ntmps53
  go_wp2_with fail
  refine (HS.out _).mono ?_
  rintro e w1 ⟨rfl, hb1⟩
  have HB1 := Lib.hid hb1
  have x1 := box_next (box_next (box_new w (.cells #[.int .i64 N, .slice A l.length c] 25)) (alloc_below _ (.cells #[.int .i64 0, .slice none 0 0] 25))) hb1
  have x2 := box_next (box_new (w.alloc (.cells #[.int .i64 N, .slice A l.length c] 25)) (.cells #[.int .i64 0, .slice none 0 0] 25)) hb1
  rw [World.size_alloc] at x2
  have X1 := Lib.hid x1
  have X2 := Lib.hid x2
  have hz1 : w.heap.size + 2 ≤ w1.heap.size := by have := hb1.size; simp at this; omega
  clear hb1 x1 x2
  go_wp2_with fail
  refine (HC.out _).mono ?_
  rintro e w2 ⟨a, c2, rfl, ho, hac, hnc, hb2⟩
  have B2 := Lib.hid (bt (bt (bt (alloc_below w _) (alloc_below _ _)) HB1.out) hb2)
  have x1 := box_next X1.out hb2
  have x2 := box_next X2.out hb2
  have hz2 : w.heap.size + 2 ≤ w2.heap.size := Nat.le_trans hz1 hb2.size
  have ho3 := ho.alloc (.cells #[.int .i64 (z : Int), .slice a p c2] 25)
  have x1' := box_next x1 (alloc_below w2 (.cells #[.int .i64 (z : Int), .slice a p c2] 25))
  have x2' := box_next x2 (alloc_below w2 (.cells #[.int .i64 (z : Int), .slice a p c2] 25))
  have x3' := box_new w2 (.cells #[.int .i64 (z : Int), .slice a p c2] 25)
  have B3 := Lib.hid (bt B2.out (alloc_below w2 (.cells #[.int .i64 (z : Int), .slice a p c2] 25)))
  have ha3 := HA.out _ B3.out
  have HZ3 := Lib.hid hz1
  have HZ4 := Lib.hid hz2
  have HAC := Lib.hid hac
  have HNC := Lib.hid hnc
  by_cases h0 : p = 0
  · subst h0
    have hz : z = 0 := by have := HP.out; omega
    have q1 : (z : Int) % 8 = 0 := by omega
    have HZ := Lib.hid hz
    clear hz
    have hcp := copy_to_none (w2.alloc (.cells #[.int .i64 (z : Int), .slice a 0 c2] 25)) 3 a A c2 l.length c
    obtain ⟨⟨r0, r1⟩, rf⟩ := box_cells2 x1'
    obtain ⟨⟨s0, s1⟩, sf⟩ := box_cells2 x2'
    have HO3 := Lib.hid ho3
    clear ho ho3 x1' x2' x3' x1 x2 hb2 ha3 hac hnc hz1 hz2 hzb
    go_wp2_with fail
    refine bodyPost_ret (v := .agg #[.int .i64 z, .slice a 0 c2]) (by simp [results, Try.results53, go_sem, s0, s1]) rfl ?_
    have ht : t = [] := List.eq_nil_of_length_eq_zero (HL.out.trans HZ.out)
    subst ht
    have hzi : (z : Int) = (([] : List Bool).length : Int) := by rw [HZ.out]; rfl
    rw [hzi]
    rw [hzi] at HO3 B3
    exact BPost.box (t := []) HO3.out rfl HAC.out HNC.out (by have := HZ3.out; omega) B3.out (w.heap.size + 1) (by omega) (by have := HZ3.out; omega) _ _
  · obtain ⟨g, cap', hv, hgB, hgl⟩ := World.ownsRow.form ho3 (by simp; omega)
    obtain ⟨rfl, rfl⟩ : a = some ⟨g, 0, none⟩ ∧ c2 = cap' := by simpa using hv
    obtain ⟨w3, k, hcp0, ho4, hf4⟩ := own_copyT ho3 (by simp) (by omega) ha3
    rw [List.drop_eq_nil_of_le (by simp; exact HPLL.out), List.append_nil] at ho4
    have hcp := hcp0 3 c2 c
    have hng : ∀ {b : Nat} {cs : Array Value}, (w2.alloc (.cells #[.int .i64 (z : Int), .slice (some ⟨g, 0, none⟩) p c2] 25)).heap[b]? = some (.cells cs 25 (0, 0)) → ¬ b = g := fun {b cs} h e => by
      subst e
      exact box_off ho3 h (by decide) rfl
    have y2 := box_fr x2' hf4 (hng x2')
    have y3 := box_fr x3' hf4 (hng x3')
    obtain ⟨⟨r0, r1⟩, rf⟩ := box_cells2 x1'
    obtain ⟨⟨s0, s1⟩, sf⟩ := box_cells2 y2
    obtain ⟨⟨t0, t1⟩, tf⟩ := box_cells2 y3
    have n2 := hng x2'
    have n3 := hng x3'
    have HO4 := Lib.hid ho4
    have HF4 := Lib.hid hf4
    have HSZ := Lib.hid hf4.size
    have hgw : w1.heap.size ≤ g := hgB
    have B4 := Lib.hid (below_tr B3.out (hf4.below (B := w.heap.size) (fun k e => by omega) (by have := B3.out.size; exact this)))
    clear ho ho3 x1' x2' x3' x1 x2 hb2 ha3 hcp0 ho4 hf4 hv hng hac hnc
    by_cases h8 : z % 8 = 0
    · have q1 : (z : Int) % 8 = 0 := by omega
      have HE : Hid (l.take p = pkB t) := by
        show _ = _
        rw [← HN.out]
        unfold normB
        rw [if_pos h8, HP.out]
        congr 1
        omega
      clear h8 y2 y3
      go_wp2_with fail
      refine bodyPost_ret (v := .agg #[.int .i64 z, .slice (some ⟨g, 0, none⟩) p c2]) (by simp [results, Try.results53, go_sem, s0, s1]) rfl ?_
      have h := HO4.out
      rw [HE.out] at h
      have hl2 := HL.out
      subst hl2
      exact BPost.box h HPL.out.symm HAC.out HNC.out (by have := HZ3.out; omega) B4.out (w.heap.size + 1) (by omega) (by have := HZ3.out; omega) _ _
    · obtain ⟨u, hu⟩ : ∃ u, u = z % 8 := ⟨_, rfl⟩
      obtain ⟨j, hj⟩ : ∃ j, j = z / 8 := ⟨_, rfl⟩
      have q1 : (z : Int) % 8 = (u : Int) := by omega
      have q2 : (z : Int) / 8 = (j : Int) := by omega
      have q3 : (0 : Int) < (u : Int) := by omega
      have q4 : (u : Int) < 8 := by omega
      have q5 : (j : Int) < (p : Int) := by have := HP.out; omega
      have hp2 := HP.out
      have hlen4 : (l.take p).length = p := by rw [List.length_take]; have := HPLL.out; omega
      obtain ⟨g', e', _, _, hfz, hcc, hput⟩ := OwnB.put HO4.out hlen4.symm j (by omega)
      cases e'
      have hgd : (l.take p).getD j 0 = l.getD j 0 := by
        rw [List.getD_eq_getElem?_getD, List.getD_eq_getElem?_getD, List.getElem?_take, if_pos (by omega)]
      rw [hgd] at hcc
      have HM := Lib.hid (and_mask (l.getD j 0) u (by omega))
      have HPU := Lib.hid (hput (maskB (l.getD j 0) u))
      have HE : Hid ((l.take p).set j (maskB (l.getD j 0) u) = pkB t) := by
        show _ = _
        rw [← HN.out]
        unfold normB
        rw [if_neg h8, hp2, hu, hj]
      clear hput h8 hlen4 hgd hp2 hu hj
      generalize l.getD j 0 = ch at *
      go_wp2_with fail
      go_region
      rw [HM.out]
      clear HM
      go_wp2_with fail
      refine bodyPost_ret (v := .agg #[.int .i64 z, .slice (some ⟨g, 0, none⟩) p c2]) (by simp [results, Try.results53, go_sem, s0, s1]) rfl ?_
      have h := HPU.out.1
      rw [HE.out] at h
      have hb5 := below_tr B4.out (HPU.out.2.below (B := w.heap.size) (fun k e => by omega) (by have := B4.out.size; exact this))
      have hl2 := HL.out
      subst hl2
      exact (BPost.box h HPL.out.symm HAC.out HNC.out (by have := HZ3.out; omega) hb5 (w.heap.size + 1) (by omega) (by have := HZ3.out; omega) _ _).drew
end Go.Proofs.Ytpdffcopigajgaa
