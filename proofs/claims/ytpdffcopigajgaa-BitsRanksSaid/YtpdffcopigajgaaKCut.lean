/-
  Of bits: the contract of Cut, the program's.
-/
import Derived.Test.YtpdffcopigajgaaKCheck
namespace Go.Proofs.Ytpdffcopigajgaa
open Go.ChangeShapes Go.WideShapes Go.ChangeAt Go.RowKit Go.Deep
set_option linter.unusedVariables false

def cutT (t : List Bool) (f n : Int) : List Bool := (t.drop f.toNat).take n.toNat
/-- The bytes of m bits from the bit f on, those behind them not cleared. -/
def cutB (l : List UInt8) (f i : Nat) : UInt8 := if f / 8 + i + 1 < l.length then joinB (l.getD (f / 8 + i) 0) (l.getD (f / 8 + i + 1) 0) (f % 8) else shrB (l.getD (f / 8 + i) 0) (f % 8)
def cutL (l : List UInt8) (f p : Nat) : List UInt8 := (List.range p).map (cutB l f)
theorem cutB_bit (l : List UInt8) (f i k : Nat) (hk : k < 8) (hi : f / 8 + i < l.length) : bitB (cutB l f i) k = bitL l (f + 8 * i + k) := by
  have h0 : l.getD (f / 8 + i) 0 = l[f / 8 + i] := getD_lt hi
  by_cases hs : k + f % 8 < 8
  · have e : f + 8 * i + k = 8 * (f / 8 + i) + (k + f % 8) := by omega
    rw [e, bitL_at hi hs]
    unfold cutB
    split
    · unfold joinB
      rw [bitB_byB _ _ hk, h0]
      have : ¬ (8 - f % 8 ≤ k) := by omega
      simp [this]
    · unfold shrB
      rw [bitB_byB _ _ hk, h0]
  · have e : f + 8 * i + k = 8 * (f / 8 + i + 1) + (k - (8 - f % 8)) := by omega
    by_cases hn : f / 8 + i + 1 < l.length
    · have h1 : l.getD (f / 8 + i + 1) 0 = l[f / 8 + i + 1] := getD_lt hn
      rw [e, bitL_at hn (by omega)]
      unfold cutB
      rw [if_pos hn]
      unfold joinB
      rw [bitB_byB _ _ hk, h0, h1, bitB_far _ _ (by omega)]
      simp [show 8 - f % 8 ≤ k by omega]
    · rw [e, bitL_far (by omega)]
      unfold cutB
      rw [if_neg hn]
      unfold shrB
      rw [bitB_byB _ _ hk, bitB_far _ _ (by omega)]
theorem cutL_len (l : List UInt8) (f p : Nat) : (cutL l f p).length = p := by simp [cutL]
theorem cut_tr (N : Int) (l : List UInt8) (f m : Nat) (h : f + m ≤ szB N l) : trB (m : Int) (cutL l f ((m + 7) / 8)) = ((trB N l).drop f).take m := by
  have hz := sz_le N l
  have hsz : szB (m : Int) (cutL l f ((m + 7) / 8)) = m := by unfold szB; rw [cutL_len]; omega
  apply List.ext_getElem
  · rw [tr_len, hsz, List.length_take, List.length_drop, tr_len]; omega
  · intro i h1 h2
    have him : i < m := by rw [tr_len, hsz] at h1; exact h1
    rw [tr_get, List.getElem_take, List.getElem_drop, tr_get]
    have hp : i / 8 < (cutL l f ((m + 7) / 8)).length := by rw [cutL_len]; omega
    rw [bitL_in hp]
    have e : (cutL l f ((m + 7) / 8))[i / 8] = cutB l f (i / 8) := by simp [cutL]
    rw [e, cutB_bit _ _ _ _ (by omega) (by omega)]
    congr 1
    omega
theorem cut_eq (t : List Bool) (f n : Int) (g m : Nat) (hg : g = min f.toNat t.length) (hm : m = min n.toNat (t.length - g)) : (t.drop g).take m = cutT t f n := by
  unfold cutT
  have h1 : t.drop g = t.drop f.toNat := by
    by_cases h : f.toNat ≤ t.length
    · rw [hg, Nat.min_eq_left h]
    · rw [List.drop_eq_nil_of_le (by omega), List.drop_eq_nil_of_le (by omega)]
  rw [h1]
  by_cases h : n.toNat ≤ t.length - g
  · rw [hm, Nat.min_eq_left h]
  · rw [List.take_of_length_le (by rw [← h1, List.length_drop]; omega), List.take_of_length_le (by rw [← h1, List.length_drop]; omega)]
/-- After k rounds. -/
def cutU (l : List UInt8) (f p k : Nat) : List UInt8 := cutL l f k ++ List.replicate (p - k) 0
theorem cutU_len (l : List UInt8) (f p k : Nat) (h : k ≤ p) : (cutU l f p k).length = p := by unfold cutU; rw [List.length_append, cutL_len, List.length_replicate]; omega
theorem cutU_set (l : List UInt8) (f p k : Nat) (h : k < p) : (cutU l f p k).set k (cutB l f k) = cutU l f p (k + 1) := by
  unfold cutU
  rw [List.set_append_right _ _ (by rw [cutL_len]; omega), cutL_len, Nat.sub_self, show p - k = (p - (k + 1)) + 1 by omega, List.replicate_succ, List.set_cons_zero]
  unfold cutL
  rw [List.range_succ, List.map_append, List.append_assoc]
  rfl
theorem getD_set {α : Type} {l : List α} {k : Nat} {a d : α} (h : k < l.length) : (l.set k a).getD k d = a := by
  rw [getD_lt (by rw [List.length_set]; exact h), List.getElem_set_self]
theorem set_set {α : Type} (l : List α) (k : Nat) (a b : α) : (l.set k a).set k b = l.set k b := by simp
theorem OwnB.brdn {w : World} {B n cap : Nat} {a : Option Addr} {l : List UInt8} (h : OwnB w B (.slice a n cap) l) (hn : n = l.length) : BRd w a l := by
  subst hn
  exact OwnB.brd h
theorem brd_from {w : World} {g off : Nat} {l : List UInt8} (h : BRd w (some ⟨g, off, none⟩) l) (j : Nat) (hj : j < l.length) : w.cell? ⟨g, off + j, none⟩ = some (.int .u8 ((l.getD j 0).toNat : Int)) := by
  rw [getD_lt hj]
  exact h.at j hj
set_option maxHeartbeats 16000000 in
set_option maxRecDepth 100000 in
theorem cut_some (N : Int) (g off : Nat) (c : Nat) (l : List UInt8) (F n : Int) (w : World) (hA : BRd w (some ⟨g, off, none⟩) l) (hl : l.length ≤ 17592186044416) (hc : l.length ≤ c) (hgl : g < w.heap.size)
    (hlt : min F.toNat (szB N l) / 8 < c) :
    Calls Try.prog 30 #[.agg #[.int .i64 N, .slice (some ⟨g, off, none⟩) l.length c], .int .i64 F, .int .i64 n] w (BPost (cutT (trB N l) F n) w) := by
  have HA := Lib.hid (fun (W : World) (h : Below w.heap.size w W) => hA.below h)
  have HS := Lib.hid (fun W => size_any N (some ⟨g, off, none⟩) c l W (by omega))
  have hsl := sz_le N l
  have hcut := cut_eq (trB N l) F n (min F.toNat (szB N l)) (min n.toNat (szB N l - min F.toNat (szB N l))) (by rw [tr_len]) (by rw [tr_len])
  have htr := cut_tr N l (min F.toNat (szB N l)) (min n.toNat (szB N l - min F.toNat (szB N l))) (by omega)
  rw [hcut] at htr
  generalize cutT (trB N l) F n = T at *
  clear hcut
  have hq1 : min (max F 0) ((szB N l : Nat) : Int) = ((min F.toNat (szB N l) : Nat) : Int) := by omega
  obtain ⟨f, hf⟩ : ∃ f, f = min F.toNat (szB N l) := ⟨_, rfl⟩
  rw [← hf] at hq1 htr hlt
  have hfz : f ≤ szB N l := by omega
  generalize szB N l = z at *
  have hq2 : min (max n 0) ((z : Int) - (f : Int)) = ((min n.toNat (z - f) : Nat) : Int) := by omega
  obtain ⟨m, hm⟩ : ∃ m, m = min n.toNat (z - f) := ⟨_, rfl⟩
  rw [← hm] at hq2 htr
  have hmz : f + m ≤ z := by omega
  have HC := Lib.hid (fun W => cleared_any m W (by omega))
  unfold BPost at HC
  rw [pk_none] at HC
  simp only [List.length_replicate] at HC
  obtain ⟨p, hp⟩ : ∃ p, p = (m + 7) / 8 := ⟨_, rfl⟩
  rw [← hp] at HC htr
  have HNM := Lib.hid (fun (W : World) (a : Option Addr) (c : Nat) (h : BRd W a (cutL l f p)) => normal_any (m : Int) a c (cutL l f p) W h (by rw [cutL_len]; omega))
  rw [htr, cutL_len] at HNM
  obtain ⟨q, hq⟩ : ∃ q, q = f / 8 := ⟨_, rfl⟩
  obtain ⟨s, hs⟩ : ∃ s, s = f % 8 := ⟨_, rfl⟩
  have q3 : (f : Int) / 8 = (q : Int) := by omega
  have q4 : (f : Int) % 8 = (s : Int) := by omega
  have q5 : (s : Int) < 8 := by omega
  have q6 : (q : Int) ≤ (l.length : Int) := by omega
  have q7 : ¬ c = q := by omega
  have q8 : (z : Int) ≤ 200000000000000 := by omega
  have q9 : (f : Int) ≤ (z : Int) := by omega
  have hqp : q + p ≤ l.length + 1 ∧ (0 < p → q + p ≤ l.length) := by omega
  have HQ := Lib.hid (show q = f / 8 ∧ s = f % 8 ∧ p = (m + 7) / 8 ∧ f + m ≤ z ∧ z ≤ 8 * l.length from ⟨hq, hs, hp, hmz, hsl⟩)
  have HCUT : Hid (∀ i, cutB l f i = if q + i + 1 < l.length then joinB (l.getD (q + i) 0) (l.getD (q + i + 1) 0) s else shrB (l.getD (q + i) 0) s) := by
    intro i
    rw [hq, hs]
    rfl
  have HCL := Lib.hid hc
  have HLL := Lib.hid hl
  have HX3 := Lib.hid (box_next (box_new w (.cells #[.int .i64 N, .slice (some ⟨g, off, none⟩) l.length c] 25)) (alloc_below _ (.cells #[.int .i64 0, .slice none 0 0] 25)))
  have hX6 := box_new (w.alloc (.cells #[.int .i64 N, .slice (some ⟨g, off, none⟩) l.length c] 25)) (.cells #[.int .i64 0, .slice none 0 0] 25)
  rw [World.size_alloc] at hX6
  have HX6 := Lib.hid hX6
  have HB := Lib.hid (bt (alloc_below w (.cells #[.int .i64 N, .slice (some ⟨g, off, none⟩) l.length c] 25)) (alloc_below _ (.cells #[.int .i64 0, .slice none 0 0] 25)))
  clear hA hf hm hmz hsl hfz hp hq hs htr hX6
  go_enter Try.func30, Try.ntmps30
  go_wp2_with fail
  refine (HS.out _).mono ?_
  rintro e w1 ⟨rfl, hb⟩
  have X3 := Lib.hid (box_next HX3.out hb)
  have X6 := Lib.hid (box_next HX6.out hb)
  have B1 := Lib.hid (bt HB.out hb)
  obtain ⟨⟨r0, r1⟩, rf⟩ := box_cells2 X3.out
  clear hb HX3 HX6 HB
  go_wp2_with fail
  refine (HS.out _).mono ?_
  rintro e w2 ⟨rfl, hb⟩
  have Y3 := Lib.hid (box_next X3.out hb)
  have Y6 := Lib.hid (box_next X6.out hb)
  have B2 := Lib.hid (bt B1.out hb)
  clear hb X3 X6 B1 r0 r1 rf
  go_wp2_with fail
  refine (HC.out _).mono ?_
  rintro e w3 ⟨a, c3, rfl, ho, hac, hnc, hb⟩
  have x7 := box_new w3 (.cells #[.int .i64 (m : Int), .slice a p c3] 25)
  have hal := alloc_below w3 (.cells #[.int .i64 (m : Int), .slice a p c3] 25)
  have Z3 := Lib.hid (box_next (box_next Y3.out hb) hal)
  have Z6 := Lib.hid (box_next (box_next Y6.out hb) hal)
  have Z7 := Lib.hid x7
  have B3 := Lib.hid (bt (bt B2.out hb) hal)
  have HO := Lib.hid (ho.alloc (.cells #[.int .i64 (m : Int), .slice a p c3] 25))
  have HZ : Hid (w.heap.size + 1 < w2.heap.size ∧ w2.heap.size ≤ w3.heap.size) := ⟨box_lt Y6.out, hb.size⟩
  obtain ⟨⟨r0, r1⟩, rf⟩ := box_cells2 Z3.out
  have HAC := Lib.hid hac
  clear ho hac hnc hb x7 hal Y3 Y6 B2
  go_wp2_with fail
  rw [q4]
  clear q4
  go_loopw [34] (fun idx wr => ∃ k : Nat, k ≤ p ∧ idx = .int .i64 (k : Int) ∧ OwnB wr w2.heap.size (.slice a p c3) (cutU l f p k) ∧ wr.heap[w.heap.size + 1]? = some (.cells #[.int .i64 0, .slice none 0 0] 25 (0, 0)) ∧ wr.heap[w3.heap.size]? = some (.cells #[.int .i64 (m : Int), .slice a p c3] 25 (0, 0)) ∧ Below w.heap.size w wr) (fun idx _ => p - (intOf idx).toNat)
  case atStart => exact ⟨0, by omega, rfl, HO.out, Z6.out, Z7.out, B3.out⟩
  case round =>
    clear HO Z6 Z7 B3 Z3 r0 r1 rf
    obtain ⟨k, hk, rfl, hown, x6, x7, hb⟩ := hrel
    have HB := Lib.hid hb
    have HO := Lib.hid hown
    by_cases hkp : k < p
    · have hul := cutU_len l f p k (by omega)
      obtain ⟨g7, e7, hg7, hg7l, hfz, hcc, hput⟩ := OwnB.put hown hul.symm k hkp
      subst e7
      have X6 := Lib.hid x6
      have X7 := Lib.hid x7
      obtain ⟨⟨r0, r1⟩, rf⟩ := box_cells2 x7
      have n6 : ¬ w.heap.size + 1 = g7 := fun e => by subst e; exact box_off hown x6 (by decide) rfl
      have n7 : ¬ w3.heap.size = g7 := fun e => by subst e; exact box_off hown x7 (by decide) rfl
      have ha := HA.out _ hb
      have hql : q + k < l.length := by omega
      have c0 := brd_from ha (q + k) hql
      rw [← Nat.add_assoc] at c0
      have HCK := Lib.hid (HCUT.out k)
      have HUS := Lib.hid (cutU_set l f p k hkp)
      have HGG : Hid (g < w.heap.size) := hgl
      have HN6 := Lib.hid n6
      have HD := Lib.hid (div_shr (l.getD (q + k) 0) s)
      have kI : (k : Int) < (p : Int) := by omega
      have kN : k < p := hkp
      have kR : k < l.length - q := by omega
      have kRI : (k : Int) < ((l.length - q : Nat) : Int) := by omega
      have HP := Lib.hid (hput (shrB (l.getD (q + k) 0) s))
      have ne7 : ¬ g7 = w3.heap.size := fun e => n7 e.symm
      by_cases hlast : q + k + 1 < l.length
      · have kR1 : (k : Int) + 1 < ((l.length - q : Nat) : Int) := by omega
        have c1 := brd_from ha (q + k + 1) hlast
        rw [show off + (q + k + 1) = off + q + (k + 1) by omega] at c1
        have hcut := HCK.out
        rw [if_pos hlast] at hcut
        have HJ := Lib.hid (or_join (l.getD (q + k) 0) (l.getD (q + k + 1) 0) s (by omega))
        rw [← hcut] at HJ
        obtain ⟨_, e9, _, _, hfz9, hcc9, hput9⟩ := OwnB.put HP.out.1 (by rw [List.length_set]; exact hul.symm) k hkp
        cases e9
        have HP9 := Lib.hid (hput9 (cutB l f k))
        rw [set_set, HUS.out] at HP9
        rw [getD_set (by rw [hul]; exact hkp)] at hcc9
        have hgq : g < (wr.setCell ⟨g7, k, none⟩ (.int .u8 ((shrB (l.getD (q + k) 0) s).toNat : Int))).heap.size := by simp [World.setCell]; have := hb.size; omega
        have hd1 : (wr.setCell ⟨g7, k, none⟩ (.int .u8 ((shrB (l.getD (q + k) 0) s).toNat : Int))).cell? ⟨g, off + q + (k + 1), none⟩ = some (.int .u8 ((l.getD (q + k + 1) 0).toNat : Int)) := by
          have hg7w : ¬ g = g7 := by have := (World.ownsRow.lt hown g7 rfl).1; have := HZ.out.1; omega
          rw [World.cell?_of_block (w := wr) (w' := wr.setCell ⟨g7, k, none⟩ (.int .u8 ((shrB (l.getD (q + k) 0) s).toNat : Int))) (a := ⟨g, off + q + (k + 1), none⟩) (Below.heap_setCell _ _ _ _ hg7w)]
          exact c1
        have y6 := box_fr (box_fr x6 HP.out.2 n6) HP9.out.2 n6
        have y7 := box_fr x7 HP.out.2 n7
        have y7b := box_fr y7 HP9.out.2 n7
        have B9 := below_tr HB.out ((HP.out.2.trans HP9.out.2).below (B := w.heap.size) (fun j e => by have := (World.ownsRow.lt hown g7 rfl).1; have := HZ.out.1; omega) HB.out.size)
        have Y6 := Lib.hid y6
        have Y7 := Lib.hid y7
        have Y7B := Lib.hid y7b
        have BB9 := Lib.hid B9
        have HH := Lib.hid (show _ ∧ _ ∧ _ from ⟨hfz9, hcc9, hd1⟩)
        clear hcut hput hput9 hfz9 hcc9 hd1 y6 y7 y7b B9 c1 ha hown x6 x7 hb hkp hul hlast HCK HUS hg7 hg7l n6 hgq
        generalize l.getD (q + k + 1) 0 = ch2 at *
        generalize l.getD (q + k) 0 = ch at *
        go_wp2_with fail
        go_region
        rw [HD.out]
        clear r0 r1 rf hfz hcc c0
        obtain ⟨⟨r0, r1⟩, rf⟩ := box_cells2 Y7.out
        obtain ⟨hfz9, hcc9, hd1⟩ := HH.out
        go_wp2_with fail
        go_region
        rw [HJ.out]
        go_wp2_with fail
        go_roundw
        case rel => exact ⟨k + 1, by omega, by go_num, HP9.out.1.below (Below.refl _ _).drew.drew, box_next Y6.out (Below.refl _ _).drew.drew, box_next Y7B.out (Below.refl _ _).drew.drew, BB9.out.drew.drew⟩
        case measure => simp [intOf]; omega
      · have kR1 : ¬ (k : Int) + 1 < ((l.length - q : Nat) : Int) := by omega
        have hcut := HCK.out
        rw [if_neg hlast] at hcut
        have HC9 := Lib.hid hcut
        have HP9 := HP
        rw [← hcut, HUS.out] at HP9
        have Y6 := Lib.hid (box_fr x6 HP9.out.2 n6)
        have Y7 := Lib.hid (box_fr x7 HP9.out.2 n7)
        have BB9 := Lib.hid (below_tr HB.out (HP9.out.2.below (B := w.heap.size) (fun j e => by have := (World.ownsRow.lt hown g7 rfl).1; have := HZ.out.1; omega) HB.out.size))
        clear hcut hput ha hown x6 x7 hb hkp hul hlast HCK HUS hg7 hg7l n6
        generalize l.getD (q + k) 0 = ch at *
        go_wp2_with fail
        go_region
        rw [HD.out, ← HC9.out]
        go_wp2_with fail
        go_roundw
        case rel => exact ⟨k + 1, by omega, by go_num, HP9.out.1.below (Below.refl _ _).drew, box_next Y6.out (Below.refl _ _).drew, box_next Y7.out (Below.refl _ _).drew, BB9.out.drew⟩
        case measure => simp [intOf]; omega
    · obtain rfl : k = p := by omega
      have kI : ¬ ((k : Int) < (k : Int)) := by omega
      obtain ⟨⟨r0, r1⟩, rf⟩ := box_cells2 x7
      have hoo := HO.out
      unfold cutU at hoo
      rw [Nat.sub_self, List.replicate_zero, List.append_nil] at hoo
      have hbr := hoo.brdn (cutL_len l f k).symm
      have HN := Lib.hid (HNM.out wr a c3 hbr)
      have X6 := Lib.hid x6
      have HWS := Lib.hid (box_lt x6)
      clear hoo hbr hown x6 x7 hb hkp
      go_wp2_with fail
      refine HN.out.mono ?_
      rintro e w5 ⟨a5, c5, rfl, ho5, hac5, hnc5, hb5⟩
      obtain ⟨⟨s0, s1⟩, sf⟩ := box_cells2 (box_next X6.out hb5)
      have HO5 := Lib.hid ho5
      have HA5 := Lib.hid hac5
      have B5 := Lib.hid (bt HB.out hb5)
      clear ho5 hac5 hb5
      go_wp2_with fail
      refine bodyPost_ret (v := .agg #[.int .i64 T.length, .slice a5 (pkB T).length c5]) (by simp [results, Try.results30, go_sem, s0, s1]) rfl ?_
      exact BPost.box HO5.out rfl HA5.out hnc5 (by have := HWS.out; omega) B5.out (w.heap.size + 1) (by omega) HWS.out _ _
end Go.Proofs.Ytpdffcopigajgaa
