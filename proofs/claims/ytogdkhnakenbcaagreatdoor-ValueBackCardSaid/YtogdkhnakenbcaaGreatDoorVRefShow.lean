/-
  Contract of the document's Show at a text.
-/
import Derived.Test.YtogdkhnakenbcaaGreatDoorVShow
import Derived.Laws.AppendOwn
import Derived.OwnWalk
namespace Go.Proofs.YtogdkhnakenbcaaGreatDoor
open Go.ChangeShapes Go.WideShapes Go.ChangeAt Go.RowKit
open Cal
set_option linter.unusedVariables false

theorem dbl_snoc (l : List UInt8) (c : UInt8) : dblL (l ++ [c]) = dblL l ++ if c = 39 then [39, 39] else [c] := by
  induction l with
  | nil => simp [dblL]
  | cons x l ih => simp only [List.cons_append, dblL, ih]; split <;> simp
theorem take_byte (t : ByteArray) (k : Nat) (h : k < t.size) : t.data.toList.take (k + 1) = t.data.toList.take k ++ [t[k]] := by
  rw [List.take_succ_eq_append_getElem (by simpa using h)]; rfl
theorem dbl_take (t : ByteArray) (k : Nat) (h : k < t.size) : dblL (t.data.toList.take (k + 1)) = dblL (t.data.toList.take k) ++ if t[k] = 39 then [39, 39] else [t[k]] := by
  rw [take_byte t k h, dbl_snoc]
theorem dbl_mono (t : ByteArray) (k : Nat) : (dblL (t.data.toList.take k)).length ≤ (dblL t.data.toList).length := by
  rw [dbl_len, dbl_len]
  have h1 : (t.data.toList.take k).length ≤ t.data.toList.length := by rw [List.length_take]; omega
  have h2 : (t.data.toList.take k).count 39 ≤ t.data.toList.count 39 := (List.take_sublist k _).count_le 39
  omega
theorem box_keep' {w w' : World} {b o : Nat} {v : Value} (h : w.cell? ⟨b, o, none⟩ = some v) (hb : Below w.heap.size w w') : w'.cell? ⟨b, o, none⟩ = some v := (hb.cell (p := ⟨b, o, none⟩) (World.block_lt_of_cell? _ _ h)).trans h
theorem cells_snoc (l : List UInt8) (c : UInt8) : Lib.byteCells l ++ [Value.int .u8 (c.toNat : Int)] = Lib.byteCells (l ++ [c]) := by simp [Lib.byteCells]

set_option maxHeartbeats 3200000 in
set_option maxRecDepth 100000 in
theorem refShow_text (s n : Int) (t : ByteArray) (w : World) (hn : In64 n) (hlen : (dblL t.data.toList).length + 2 ≤ 140737488355328) :
    Calls Tryz.prog 11 #[.agg #[.int .i64 4, .int .i64 s, .bool false, .int .i64 n, .string t]] w fun e w' => e = .returned (.string ⟨(quoteL t.data.toList).toArray⟩) ∧ Below w.heap.size w w' := by
  obtain ⟨i0, hi, hz0, hz1, hz2⟩ := info_parts (show (Tryz.prog.info? 5).map (fun i => (i.zero, i.size, i.bytes)) = some (some (.int .u8 0), 1, 1) by kernel_rfl)
  have hsz : t.size + 2 ≤ 140737488355328 := by
    have := dbl_len t.data.toList
    have e : t.data.toList.length = t.size := Array.length_toList
    omega
  have HLEN := Lib.hid hlen
  clear hlen
  go_enter Tryz.func11, Tryz.ntmps11
  go_wp2_with fail
  refine (refFormatInt_any n hn _).mono ?_
  rintro e w1 ⟨rfl, hb1⟩
  have hT : w1.cell? ⟨w.heap.size, 4, none⟩ = some (.string t) := by rw [(bcell hb1).1 _ _ (by simp)]; simp
  have hk4 : w1.cell? ⟨w.heap.size, 0, none⟩ = some (.int .i64 4) := by rw [(bcell hb1).1 _ _ (by simp)]; simp
  have hlt : w.heap.size < w1.heap.size := by have := hb1.size; simp at this; omega
  have hB1 := b1 hb1
  clear hb1
  go_wp2
  go_loopw [6, 7] (fun sv i wr => ∃ (k : Nat) (l : List UInt8), k ≤ t.size ∧ i = .int .i64 k ∧ Hid (l = 39 :: dblL (t.data.toList.take k)) ∧ wr.ownsRow w1.heap.size 5 1 sv l.length (Lib.byteCells l) ∧ Below w1.heap.size w1 wr) (fun _ i _ => t.size - (intOf i).toNat)
  case atStart => exact ⟨0, [39], Nat.zero_le _, rfl, Lib.hid rfl, ⟨by simp [Lib.byteCells], .inr ⟨w1.heap.size, 1, #[.int .u8 39], rfl, Nat.le_refl _, heap_alloc_new w1 _, by simp, by unfold maxLen; omega, by simp, by simp [Lib.byteCells]⟩⟩, (Below.refl _ _).alloc (Nat.le_refl _) _⟩
  case round =>
    obtain ⟨k, l, hk, rfl, HL, hown, hnx⟩ := hrel
    have hTr : wr.cell? ⟨w.heap.size, 4, none⟩ = some (.string t) := by rw [(bcell hnx).1 _ _ hlt]; exact hT
    have hll : Hid (l.length ≤ (dblL t.data.toList).length + 1) := by
      show _ ≤ _
      rw [HL.out]
      have := dbl_mono t k
      simp; omega
    by_cases hx : k < t.size
    · have hxI : (k : Int) < (t.size : Int) := by omega
      have hl2 : Hid (39 :: dblL (t.data.toList.take (k + 1)) = l ++ if t[k] = 39 then [39, 39] else [t[k]]) := by show _ = _; rw [HL.out, dbl_take t k hx]; rfl
      have hl3 : Hid ((39 :: dblL (t.data.toList.take (k + 1))).length + 1 ≤ 140737488355328) := by
        show _ ≤ _
        have := dbl_mono t (k + 1)
        have := HLEN.out
        simp; omega
      have hTa : ∀ o, (wr.alloc o).cell? ⟨w.heap.size, 4, none⟩ = some (.string t) := fun o => box_keep' hTr (alloc_below _ _)
      by_cases hq : t[k] = 39
      · have hqI : ((t[k].toNat : Int) == 39) = true := by rw [hq]; rfl
        have hl4 : Hid (39 :: dblL (t.data.toList.take (k + 1)) = l ++ [39] ++ [t[k]]) := by show _ = _; rw [hl2.out, if_pos hq, hq]; simp
        have hl5 : Hid (l.length + 2 ≤ 140737488355328) := by
          show _ ≤ _
          have h1 := hl3.out
          rw [hl4.out] at h1
          simp at h1; omega
        clear hq hl2
        go_wp2_with (at_builtin; refine wpList_append_own _ rfl _ _ 61 rfl w1.heap.size 5 i0 (.int .u8 0) 1 1 Tryz.underlying61 hi hz0 hz1 hz2 rfl (by decide) _ _ _ rfl (hown.alloc _) ⟨wr.heap.size, 0, none⟩ 1 1 [.int .u8 39] rfl rfl (by intro j u' hj; match j, hj with | 0, hj => simp at hj; subst hj; simp [Addr.add]) (by intro u' hu'; simp at hu'; subst hu'; rfl) (by unfold maxLen; have := hl5.out; omega) (by have := hl5.out; omega) (by have := hnx.size; simp; omega) ?_; intro v2 w2 hown2 hgrow2 _; refine Hid.out ?_)
        refine Lib.hid ?_
        have hnx2 := (hnx.alloc (by have := hnx.size; omega) _).grown hgrow2 (by have := hnx.size; simp; omega) (fun k hk => (hown.lt k hk).1)
        have hT2 : w2.cell? ⟨w.heap.size, 4, none⟩ = some (.string t) := by rw [(bcell hnx2).1 _ _ hlt]; exact hT
        rw [show Lib.byteCells l ++ [Value.int .u8 39] = Lib.byteCells (l ++ [39]) from cells_snoc l 39] at hown2
        clear hTa
        go_wp2_with (at_builtin; refine wpList_append_own _ rfl _ _ 61 rfl w1.heap.size 5 i0 (.int .u8 0) 1 1 Tryz.underlying61 hi hz0 hz1 hz2 rfl (by decide) _ _ _ rfl (hown2.alloc _) ⟨w2.heap.size, 0, none⟩ 1 1 [.int .u8 (t[k].toNat : Int)] rfl rfl (by intro j u' hj; match j, hj with | 0, hj => simp at hj; subst hj; simp [Addr.add]) (by intro u' hu'; simp at hu'; subst hu'; rfl) (by unfold maxLen; have := hl5.out; omega) (by have := hl5.out; omega) (by have := hnx2.size; simp; omega) ?_; intro v3 w3 hown3 hgrow3 _; refine Hid.out ?_)
        refine Lib.hid ?_
        have hnx3 := (hnx2.alloc (by have := hnx2.size; omega) _).grown hgrow3 (by have := hnx2.size; simp; omega) (fun k hk => (hown2.lt k hk).1)
        rw [cells_snoc] at hown3
        go_wp2
        go_roundw
        case rel => exact ⟨k + 1, l ++ [39] ++ [t[k]], by omega, by go_num, Lib.hid hl4.out.symm, by simpa [Nat.add_assoc] using hown3, hnx3⟩
        case measure => simp [intOf]; omega
      · have hqI : ((t[k].toNat : Int) == 39) = false := by
          rw [beq_eq_false_iff_ne]
          intro h
          exact hq (UInt8.toNat_inj.1 (by have : (39 : UInt8).toNat = 39 := rfl; omega))
        have hl4 : Hid (39 :: dblL (t.data.toList.take (k + 1)) = l ++ [t[k]]) := by show _ = _; rw [hl2.out, if_neg hq]
        have hl5 : Hid (l.length + 2 ≤ 140737488355328) := by
          show _ ≤ _
          have h1 := hl3.out
          rw [hl4.out] at h1
          simp at h1; omega
        clear hq hl2
        go_wp2_with (at_builtin; refine wpList_append_own _ rfl _ _ 61 rfl w1.heap.size 5 i0 (.int .u8 0) 1 1 Tryz.underlying61 hi hz0 hz1 hz2 rfl (by decide) _ _ _ rfl (hown.alloc _) ⟨wr.heap.size, 0, none⟩ 1 1 [.int .u8 (t[k].toNat : Int)] rfl rfl (by intro j u' hj; match j, hj with | 0, hj => simp at hj; subst hj; simp [Addr.add]) (by intro u' hu'; simp at hu'; subst hu'; rfl) (by unfold maxLen; have := hl5.out; omega) (by have := hl5.out; omega) (by have := hnx.size; simp; omega) ?_; intro v2 w2 hown2 hgrow2 _; refine Hid.out ?_)
        refine Lib.hid ?_
        have hnx2 := (hnx.alloc (by have := hnx.size; omega) _).grown hgrow2 (by have := hnx.size; simp; omega) (fun k hk => (hown.lt k hk).1)
        rw [cells_snoc] at hown2
        clear hTa
        go_wp2
        go_roundw
        case rel => exact ⟨k + 1, l ++ [t[k]], by omega, by go_num, Lib.hid hl4.out.symm, by simpa using hown2, hnx2⟩
        case measure => simp [intOf]; omega
    · have hxI : ¬ (k : Int) < (t.size : Int) := by omega
      have hkk : Hid (l = 39 :: dblL t.data.toList) := by
        show _ = _
        rw [HL.out, List.take_of_length_le (by rw [show t.data.toList.length = t.size from Array.length_toList]; omega)]
      have hl5 : Hid (l.length + 1 ≤ 140737488355328) := by
        show _ ≤ _
        have := HLEN.out
        rw [hkk.out]
        simp; omega
      go_wp2_with (at_builtin; refine wpList_append_own _ rfl _ _ 61 rfl w1.heap.size 5 i0 (.int .u8 0) 1 1 Tryz.underlying61 hi hz0 hz1 hz2 rfl (by decide) _ _ _ rfl (hown.alloc _) ⟨wr.heap.size, 0, none⟩ 1 1 [.int .u8 39] rfl rfl (by intro j u' hj; match j, hj with | 0, hj => simp at hj; subst hj; simp [Addr.add]) (by intro u' hu'; simp at hu'; subst hu'; rfl) (by unfold maxLen; have := hl5.out; omega) (by have := hl5.out; omega) (by have := hnx.size; simp; omega) ?_; intro v2 w2 hown2 hgrow2 _; refine Hid.out ?_)
      refine Lib.hid ?_
      have hnx2 := (hnx.alloc (by have := hnx.size; omega) _).grown hgrow2 (by have := hnx.size; simp; omega) (fun k hk => (hown.lt k hk).1)
      rw [show Lib.byteCells l ++ [Value.int .u8 39] = Lib.byteCells (l ++ [39]) from cells_snoc l 39] at hown2
      obtain ⟨q, hq⟩ : ∃ q, q = l ++ [39] := ⟨_, rfl⟩
      have hq1 : l.length + 1 = q.length := by rw [hq]; simp
      rw [← hq, hq1] at hown2
      have hpos : 0 < q.length := by omega
      have HQ : Hid (quoteL t.data.toList = q) := by show _ = _; rw [hq, hkk.out]; rfl
      clear hq hq1
      rcases hown2.2 with ⟨-, h0⟩ | ⟨g, cap, cur, rfl, -, -, -, -, -, -⟩
      · omega
      · have hcv := run_convert_bytes_back (P := Tryz.prog) w2 61 9 5 ⟨g, 0, none⟩ cap q Tryz.underlying61 Tryz.underlying5 Tryz.underlying9 (fun j hj => hown2.cells (g := g) rfl j _ (by simp [Lib.byteCells, hj]))
        go_wp2
        go_ret
        exact ⟨ret_str HQ.out.symm, bt hB1 (hnx2)⟩
end Go.Proofs.YtogdkhnakenbcaaGreatDoor
