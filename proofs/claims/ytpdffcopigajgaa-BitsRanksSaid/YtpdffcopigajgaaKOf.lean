/-
  Of bits: contracts of Of and List, the program's and the document's.
-/
import Derived.Test.YtpdffcopigajgaaKNorm
namespace Go.Proofs.Ytpdffcopigajgaa
open Go.ChangeShapes Go.WideShapes Go.ChangeAt Go.RowKit Go.Deep
set_option linter.unusedVariables false

/-- The first k truths, the others not set. -/
def upT (t : List Bool) (k : Nat) : List Bool := t.take k ++ List.replicate (t.length - k) false
theorem upT_len (t : List Bool) (k : Nat) : (upT t k).length = t.length := by
  unfold upT
  rw [List.length_append, List.length_take, List.length_replicate]
  omega
theorem upT_zero (t : List Bool) : upT t 0 = List.replicate t.length false := by simp [upT]
theorem upT_all (t : List Bool) : upT t t.length = t := by simp [upT]
theorem upT_set (t : List Bool) (k : Nat) (h : k < t.length) : (upT t k).set k t[k] = upT t (k + 1) := by
  have hl : (t.take k).length = k := by rw [List.length_take]; omega
  unfold upT
  rw [List.set_append_right _ _ (by omega), hl, Nat.sub_self, show t.length - k = (t.length - (k + 1)) + 1 by omega, List.replicate_succ, List.set_cons_zero, List.take_succ_eq_append_getElem h, List.append_assoc]
  rfl
theorem upT_put (t : List Bool) (k : Nat) (h : k < t.length) : putB (pkB (upT t k)) k t[k] = pkB (upT t (k + 1)) := by
  rw [put_pk (by rw [upT_len]; exact h), upT_set t k h]

set_option maxHeartbeats 4000000 in
set_option maxRecDepth 100000 in
theorem of_any (A : Option Addr) (c : Nat) (t : List Bool) (w : World) (hA : KRd w A t) (hl : t.length ≤ 1000000000000000) : Calls Try.prog 14 #[.slice A t.length c] w (BPost t w) := by
  have HA := Lib.hid (fun (W : World) (h : Below w.heap.size w W) => hA.below h)
  have HC := Lib.hid (fun W => cleared_any t.length W (by omega))
  unfold BPost at HC
  rw [← upT_zero] at HC
  rw [upT_len] at HC
  have HPL : Hid (∀ k, (pkB (upT t k)).length = (t.length + 7) / 8) := by intro k; rw [pk_len, upT_len]
  obtain ⟨p, hp⟩ : ∃ p, p = (t.length + 7) / 8 := ⟨_, rfl⟩
  rw [← hp] at HPL
  have HP := Lib.hid hp
  rw [show (pkB (upT t 0)).length = p from HPL.out 0] at HC
  obtain ⟨n, hn⟩ : ∃ n, n = t.length := ⟨_, rfl⟩
  rw [← hn] at HC hl ⊢
  have HN := Lib.hid hn
  clear hA hp hn
  go_enter Try.func14, Try.ntmps14
  go_wp2_with fail
  refine (HC.out _).mono ?_
  rintro e w2 ⟨a, c2, rfl, ho, hac, hnc, hb2⟩
  have x2 := box_next (box_new w (.cells #[.int .i64 0, .slice none 0 0] 25)) hb2
  have HX2 := Lib.hid (box_next x2 (alloc_below w2 (.cells #[.int .i64 (n : Int), .slice a p c2] 25)))
  have HX3 := Lib.hid (box_new w2 (.cells #[.int .i64 (n : Int), .slice a p c2] 25))
  have HO := Lib.hid (ho.alloc (.cells #[.int .i64 (n : Int), .slice a p c2] 25))
  have HB := Lib.hid (bt (bt (alloc_below w _) hb2) (alloc_below w2 (.cells #[.int .i64 (n : Int), .slice a p c2] 25)))
  have HZ2 : Hid (w.heap.size < w2.heap.size) := by show _ < _; have := hb2.size; simp at this; omega
  have HAC := Lib.hid hac
  have HNC := Lib.hid hnc
  clear ho hac hnc hb2 x2
  go_wp2_with fail
  go_loopw [11] (fun idx wr => ∃ k : Nat, k ≤ n ∧ idx = .int .i64 (k : Int) ∧ OwnB wr (w.heap.size + 1) (.slice a p c2) (pkB (upT t k)) ∧ wr.heap[w.heap.size]? = some (.cells #[.int .i64 0, .slice none 0 0] 25 (0, 0)) ∧ wr.heap[w2.heap.size]? = some (.cells #[.int .i64 (n : Int), .slice a p c2] 25 (0, 0)) ∧ Below w.heap.size w wr) (fun idx _ => n - (intOf idx).toNat)
  case atStart => exact ⟨0, by omega, rfl, by have h := HO.out; rw [World.size_alloc] at h; exact h, HX2.out, HX3.out, HB.out⟩
  case round =>
    clear HO HX2 HX3 HB
    obtain ⟨k, hk, rfl, hown, x2, x3, hb⟩ := hrel
    have HB := Lib.hid hb
    have HO := Lib.hid hown
    by_cases hkn : k < n
    · have hkt : k < t.length := by have := HN.out; omega
      obtain ⟨g, off, rfl, hgl, hc⟩ := (HA.out _ hb) (by omega)
      have c0 := hc k hkt
      have kI : (k : Int) < (n : Int) := by omega
      have kN : k < n := hkn
      obtain ⟨⟨r0, r1⟩, rf⟩ := box_cells2 x3
      have X2 := Lib.hid x2
      have X3 := Lib.hid x3
      have HT := Lib.hid (upT_put t k hkt)
      have HPT := Lib.hid (fun W h => put_any n (w.heap.size + 1) p c2 a (pkB (upT t k)) k t[k] W h (HPL.out k).symm (by have := HP.out; have := HN.out; omega) (by have := HP.out; have := HN.out; omega))
      have hoff := box_off hown x2 (by decide)
      have hoff3 := box_off hown x3 (by decide)
      have HF2 : Hid (∀ b, a = some b → b.block ≠ w.heap.size ∧ b.block ≠ w2.heap.size ∧ w.heap.size ≤ b.block) := fun b e => by
        subst e
        have hob : Value.ownBlock (.slice (some b) p c2) = some b.block := rfl
        rw [hob] at hoff hoff3
        refine ⟨fun h => hoff (by rw [h]), fun h => hoff3 (by rw [h]), ?_⟩
        have := (World.ownsRow.lt HO.out b.block hob).1
        omega
      clear hc
      generalize t[k] = y at *
      clear hkt hown x2 x3 hb hkn hoff hoff3
      go_wp2_with fail
      refine (HPT.out _ HO.out).mono ?_
      rintro e w3 ⟨rfl, ho3, hf3⟩
      rw [HT.out] at ho3
      have HO3 := Lib.hid ho3
      have Y2 := Lib.hid (box_fr X2.out hf3 (fun ⟨b, e, h⟩ => (HF2.out b e).1 h.symm))
      have Y3 := Lib.hid (box_fr X3.out hf3 (fun ⟨b, e, h⟩ => (HF2.out b e).2.1 h.symm))
      have B3 := Lib.hid (below_tr HB.out (hf3.below (B := w.heap.size) (fun k ⟨b, e, h⟩ => by have := (HF2.out b e).2.2; omega) HB.out.size))
      clear ho3 hf3
      go_wp2_with fail
      go_roundw
      case rel => exact ⟨k + 1, by omega, by go_num, HO3.out, Y2.out, Y3.out, B3.out⟩
      case measure => simp [intOf]; omega
    · obtain rfl : k = n := by omega
      have kI : ¬ ((k : Int) < (k : Int)) := by omega
      obtain ⟨⟨r0, r1⟩, rf⟩ := box_cells2 x3
      obtain ⟨⟨s0, s1⟩, sf⟩ := box_cells2 x2
      have hz := hb.size
      clear hown x2 x3 hb hkn
      go_wp2_with fail
      refine bodyPost_ret (v := .agg #[.int .i64 k, .slice a p c2]) (by simp [results, Try.results14, go_sem, s0, s1]) rfl ?_
      have h := HO.out
      have hn := HN.out
      subst hn
      rw [upT_all] at h
      have hp2 := HPL.out t.length
      rw [upT_all] at hp2
      exact BPost.box h hp2.symm HAC.out HNC.out (by omega) HB.out w.heap.size (Nat.le_refl _) (by omega) _ _
end Go.Proofs.Ytpdffcopigajgaa
