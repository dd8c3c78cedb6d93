/-
  Contract of strings.ReplaceAll at a quotation mark and two of them, for every string: no bound on its length but that of what comes out.
-/
import Derived.Test.YtogdkhnakenbcaaGreatDoorSums
import Derived.Test.YtogdkhnakenbcaaGreatDoorShelf
import Derived.Lib.ReplaceLaws
import Derived.Deep.LoopGhost
namespace Go.Proofs.YtogdkhnakenbcaaGreatDoor
open Go.RowKit Go.Lib
set_option linter.unusedVariables false

/-- Each quotation mark twice. -/
def dblL : List UInt8 → List UInt8
  | [] => []
  | c :: l => if c = 39 then 39 :: 39 :: dblL l else c :: dblL l
theorem dbl_miss : ∀ l : List UInt8, l.count 39 = 0 → dblL l = l
  | [], _ => rfl
  | c :: l, h => by
    rw [List.count_cons] at h
    by_cases hc : c = 39
    · rw [hc] at h; simp at h
    · rw [dblL, if_neg hc, dbl_miss l (by omega)]
theorem dbl_hit : ∀ l : List UInt8, 0 < l.count 39 → ∃ j : Nat, Lib.indexByte l 39 = j ∧ j < l.length ∧ dblL l = l.take j ++ [39, 39] ++ dblL (l.drop (j + 1)) ∧ (l.drop (j + 1)).count 39 + 1 = l.count 39
  | [], h => by simp at h
  | c :: l, h => by
    by_cases hc : c = 39
    · subst hc
      exact ⟨0, by simp [Lib.indexByte], by simp, by simp [dblL], by simp⟩
    · rw [List.count_cons_of_ne (by simpa using hc)] at h
      obtain ⟨j, h1, h2, h3, h4⟩ := dbl_hit l h
      refine ⟨j + 1, ?_, by simp; omega, ?_, ?_⟩
      · have hne : ¬ ((j : Int) == -1) = true := fun h => by have := beq_iff_eq.1 h; omega
        have e : Lib.indexByte (c :: l) 39 = (j : Int) + 1 := by rw [Lib.indexByte, if_neg (by simpa using hc), h1, if_neg hne]
        rw [e]; omega
      · rw [dblL, if_neg hc, h3]; simp
      · rw [List.count_cons_of_ne (by simpa using hc), ← h4]; simp
theorem dbl_len (l : List UInt8) : (dblL l).length = l.length + l.count 39 := by
  induction l with
  | nil => rfl
  | cons c l ih =>
    by_cases hc : c = 39
    · subst hc; simp [dblL, ih]; omega
    · rw [dblL, if_neg hc, List.count_cons_of_ne (by simpa using hc)]; simp [ih]; omega

set_option maxHeartbeats 16000000 in
set_option maxRecDepth 1000000 in
theorem replace_some (s old new : ByteArray) (w : World) (HO : Hid (old = ⟨#[39]⟩)) (HN : Hid (new = ⟨#[39, 39]⟩)) (hc0 : 0 < s.data.toList.count 39) (hlen : (dblL s.data.toList).length ≤ 140737488355328) :
    Calls Tryz.prog 65 #[.string s, .string old, .string new, .int .i64 (-1)] w fun e w' => e = .returned (.string ⟨(dblL s.data.toList).toArray⟩) ∧ Below w.heap.size w w' := by
  have ho1 : old.size = 1 := by rw [HO.out]; rfl
  have hn2 : new.size = 2 := by rw [HN.out]; rfl
  have hbeq : (old.toList == new.toList) = false := by rw [HO.out, HN.out, Lib.toList_data, Lib.toList_data]; rfl
  have hlenL : s.data.toList.length = s.size := (Lib.size_eq s).symm
  have hdl := dbl_len s.data.toList
  rw [hlenL] at hdl
  obtain ⟨K, hK⟩ : ∃ K : Nat, s.data.toList.count 39 = K := ⟨_, rfl⟩
  have HC : Hid (∀ W, Calls Tryz.prog 90 #[.string s, .string old] W fun e w' => e = .returned (.int .i64 (K : Int)) ∧ W = w') := by
    intro W
    rw [HO.out]
    refine (Tryz.strings_Count_one s 39 W).mono fun e w' ⟨he, hw⟩ => ⟨?_, hw.symm⟩
    rw [he, ← hK]; rfl
  have HI : Hid (∀ (t : ByteArray) W, Calls Tryz.prog 92 #[.string t, .string old] W fun e w' => e = .returned (.int .i64 (Lib.indexByte t.data.toList 39)) ∧ W = w') := by
    intro t W
    rw [HO.out]
    exact (Tryz.strings_Index_one t 39 W).mono fun e w' ⟨he, hw⟩ => ⟨he, hw.symm⟩
  rw [hK] at hc0 hdl
  have hKcount : (s.data.toList.drop 0).count 39 = K := by rw [List.drop_zero]; exact hK
  have HKc := Lib.hid hKcount
  have hcz : ((K : Int) == 0) = false := beq_eq_false_iff_ne.2 (by omega)
  have hb : s.size + K ≤ 140737488355328 := by omega
  have HS2 := Lib.hid hn2
  clear hKcount hdl hn2 hlen hK
  go_enter Tryz.func65, Tryz.ntmps65
  go_wp2_with (first | (go_at_call 90; refine (HC.out _).mono ?_; rintro e w' ⟨rfl, rfl⟩))
  have hga : wrap64 ((s.size : Int) + wrap64 ((K : Int) * wrap64 ((new.size : Int) - 1))) = ((s.size + K : Nat) : Int) := by
    rw [HS2.out, show wrap64 (((2 : Nat) : Int) - 1) = 1 by unfold wrap64; omega, Int.mul_one, IntWalk.wrap64_in (K : Int) ⟨by omega, by omega⟩, IntWalk.wrap64_in _ ⟨by omega, by omega⟩]
    omega
  rw [hga]
  refine (Tryz.Builder_Grow_fresh w.heap.size w.heap.size (s.size + K) _ (Nat.le_refl _) (heap_alloc_new w _) (by simp) (by omega)).mono ?_
  rintro e w1 ⟨rfl, hb0, hb1⟩
  have H1 := Lib.hid (Or.inr hb0 : Lib.IsBuilder 103 5 w.heap.size w.heap.size (Lib.byteCells []) w1)
  have Hb1 := Lib.hid (((Below.refl w.heap.size w).alloc (Nat.le_refl _) _).trans hb1)
  clear hb0 hb1 hga
  have hod : decide (0 < old.size) = true := decide_eq_true (by omega)
  go_wp2_with fail
  go_loopg [11, 53] K (fun g s11 s53 wx => ∃ (i start : Nat) (acc : List UInt8), s53 = .int .i64 i ∧ s11 = .int .i64 start ∧ i + g = K ∧ start ≤ s.size ∧
      Hid (Lib.IsBuilder 103 5 w.heap.size w.heap.size (Lib.byteCells acc) wx) ∧ Hid (Below w.heap.size w wx) ∧ Hid (acc ++ dblL (s.data.toList.drop start) = dblL s.data.toList) ∧
      Hid ((s.data.toList.drop start).count 39 = g))
  case atStart => exact ⟨0, 0, [], rfl, rfl, by omega, Nat.zero_le _, H1, Hb1, Lib.hid (by simp), HKc⟩
  case round =>
    obtain ⟨i, start, acc, rfl, rfl, hig, hst, HB, HW, HR, HG⟩ := hrel
    have hBw : w.heap.size ≤ wr.heap.size := HW.out.size
    have c1 : (0 : Int) ≤ (start : Int) := by omega
    have c2 : (start : Int) ≤ (s.size : Int) := by omega
    have hL : acc.length + ((s.size - start) + gk) = s.size + K := by
      have h1 := congrArg List.length HR.out
      rw [List.length_append, dbl_len, dbl_len, HG.out, List.length_drop, hlenL] at h1
      have h2 := HKc.out
      rw [List.drop_zero] at h2
      rw [h2] at h1
      exact h1
    have HL := Lib.hid hL
    clear hL
    cases gk with
    | zero =>
      have hiK : ¬ ((i : Int) < (K : Int)) := by omega
      go_wp2_with fail
      refine (Tryz.Builder_WriteString w.heap.size w.heap.size _ _ wr HB.out (by have := HL.out; rw [Lib.byteCells_length, ByteArray.size_extract]; omega) hBw).mono ?_
      rintro e w3 ⟨rfl, h3, hb3⟩
      rw [Lib.strCells_eq, Lib.extract_to_end, ← Lib.byteCells_append] at h3
      have hfin : acc ++ s.data.toList.drop start = dblL s.data.toList := by rw [← HR.out, dbl_miss _ HG.out]
      rw [hfin] at h3
      have H3 := Lib.hid (Or.inr h3 : Lib.IsBuilder 103 5 w.heap.size w.heap.size _ w3)
      have Hb3 := Lib.hid (HW.out.trans hb3)
      have hBw3 : w.heap.size ≤ w3.heap.size := Hb3.out.size
      clear h3 hb3 hfin
      go_wp2_with fail
      refine (Tryz.Builder_String_any w.heap.size w.heap.size _ w3 H3.out hBw3).mono ?_
      rintro e w5 ⟨rfl, hb5⟩
      have Hb5 := Lib.hid (Hb3.out.trans hb5)
      clear hb5
      go_wp2
      go_ret
      exact ⟨rfl, Hb5.out⟩
    | succ g =>
      have hiK : (i : Int) < (K : Int) := by omega
      obtain ⟨j, hj, hjl, hd, hcnt⟩ := dbl_hit (s.data.toList.drop start) (by rw [HG.out]; omega)
      rw [List.length_drop, hlenL] at hjl
      have c3 : (start : Int) ≤ (start : Int) + (j : Int) := by omega
      have c4 : (start : Int) + (j : Int) ≤ (s.size : Int) := by omega
      have Hn : Hid (Lib.byteCells acc ++ Lib.strCells (s.extract start (start + j)) ++ Lib.strCells new = Lib.byteCells (acc ++ (s.data.toList.drop start).take j ++ [39, 39])) := by
        show _ = _
        rw [Lib.strCells_eq, Lib.strCells_eq, Lib.extract_data, Nat.add_sub_cancel_left, ← Lib.byteCells_append, ← Lib.byteCells_append, HN.out]
      have Hrep : Hid ((acc ++ (s.data.toList.drop start).take j ++ [39, 39]) ++ dblL (s.data.toList.drop (start + j + 1)) = dblL s.data.toList) := by
        show _ = _
        rw [← HR.out, hd, List.drop_drop]
        simp only [List.append_assoc, Nat.add_assoc]
      have Hcnt : Hid ((s.data.toList.drop (start + j + 1)).count 39 = g) := by
        show _ = _
        rw [HG.out, List.drop_drop] at hcnt
        rw [show start + j + 1 = start + (j + 1) by omega]
        omega
      have HJ := Lib.hid hj
      clear hd hcnt hj HR
      go_wp2_with (first | (go_at_call 92; refine (HI.out _ _).mono ?_; rintro e w' ⟨rfl, rfl⟩; rw [Lib.extract_to_end, HJ.out]))
      refine (Tryz.Builder_WriteString w.heap.size w.heap.size _ (s.extract start (start + j)) wr HB.out (by have := HL.out; rw [Lib.byteCells_length, ByteArray.size_extract]; omega) hBw).mono ?_
      rintro e w3 ⟨rfl, h3, hb3⟩
      have hBw3 : w.heap.size ≤ w3.heap.size := Nat.le_trans hBw hb3.size
      have H3 := Lib.hid h3
      have Hb3 := Lib.hid hb3
      clear h3 hb3
      go_wp2_with fail
      refine (Tryz.Builder_WriteString w.heap.size w.heap.size _ new w3 (Or.inr H3.out) (by have := HL.out; have := HS2.out; rw [List.length_append, Lib.byteCells_length, Lib.strCells_length, ByteArray.size_extract]; omega) hBw3).mono ?_
      rintro e w4 ⟨rfl, h4, hb4⟩
      rw [Hn.out] at h4
      have H4 := Lib.hid (Or.inr h4 : Lib.IsBuilder 103 5 w.heap.size w.heap.size _ w4)
      have Hb4 := Lib.hid ((HW.out.trans Hb3.out).trans hb4)
      clear h4 hb4
      go_wp2
      go_roundg g
      case measure => omega
      case rel => exact ⟨i + 1, start + j + 1, _, by first | rfl | (simp; unfold wrap64; omega), by first | rfl | simp | (simp; unfold wrap64; omega), by omega, by omega, H4, Hb4, Hrep, Hcnt⟩

set_option maxHeartbeats 1600000 in
theorem replace_none (s old new : ByteArray) (w : World) (HO : Hid (old = ⟨#[39]⟩)) (HN : Hid (new = ⟨#[39, 39]⟩)) (hc0 : s.data.toList.count 39 = 0) :
    Calls Tryz.prog 65 #[.string s, .string old, .string new, .int .i64 (-1)] w fun e w' => e = .returned (.string s) ∧ w = w' := by
  have hbeq : (old.toList == new.toList) = false := by rw [HO.out, HN.out, Lib.toList_data, Lib.toList_data]; rfl
  have HC : Hid (∀ W, Calls Tryz.prog 90 #[.string s, .string old] W fun e w' => e = .returned (.int .i64 0) ∧ W = w') := by
    intro W
    rw [HO.out]
    refine (Tryz.strings_Count_one s 39 W).mono fun e w' ⟨he, hw⟩ => ⟨?_, hw.symm⟩
    rw [he]
    show Ending.returned (.int .i64 ((s.data.toList.count 39 : Nat) : Int)) = _
    rw [hc0]; rfl
  go_enter Tryz.func65, Tryz.ntmps65
  go_wp2_with (first | (go_at_call 90; refine (HC.out _).mono ?_; rintro e w' ⟨rfl, rfl⟩))
  go_ret
  exact ⟨rfl, rfl⟩

theorem replaceAll_any (s : ByteArray) (w : World) (hlen : (dblL s.data.toList).length ≤ 140737488355328) :
    Calls Tryz.prog 37 #[.string s, .string ⟨#[39]⟩, .string ⟨#[39, 39]⟩] w fun e w' => e = .returned (.string ⟨(dblL s.data.toList).toArray⟩) ∧ Below w.heap.size w w' := by
  have HR : Hid (Calls Tryz.prog 65 #[.string s, .string ⟨#[39]⟩, .string ⟨#[39, 39]⟩, .int .i64 (-1)] w fun e w' => e = .returned (.string ⟨(dblL s.data.toList).toArray⟩) ∧ Below w.heap.size w w') := by
    show Calls _ _ _ _ _
    by_cases h : s.data.toList.count 39 = 0
    · refine (replace_none s _ _ w (Lib.hid rfl) (Lib.hid rfl) h).mono fun e w' ⟨he, hw⟩ => ⟨?_, hw ▸ Below.refl _ _⟩
      rw [he, dbl_miss _ h]
    · exact replace_some s _ _ w (Lib.hid rfl) (Lib.hid rfl) (by omega) hlen
  clear hlen
  go_enter Tryz.func37, Tryz.ntmps37
  go_wp2_with (first | (go_at_call 65; refine HR.out.mono ?_; rintro e w' ⟨rfl, hw⟩))
  go_ret
  exact ⟨rfl, hw⟩
end Go.Proofs.YtogdkhnakenbcaaGreatDoor
