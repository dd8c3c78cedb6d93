/-
  The statements' own first look: a number and a text written, and a checksum.
-/
import Derived.Test.YtdjppchcnbfcoaaCSum
import Derived.Test.YtdjppchcnbfcoaaCWr3
import Derived.Lib.SlBytesConst
namespace Go.Proofs.Ytdjppchcnbfcoaa
open Go.ChangeShapes Go.WideShapes Go.ChangeAt Go.RowKit
set_option linter.unusedVariables false

theorem enc121 : encI (-121) = [7, 255] := by
  have h : leF 0 = [0] := leF_small (by decide)
  unfold encI
  rw [if_pos (by decide), show (-(-121 + 1 : Int)).toNat = 120 from rfl, up_big (by decide), show 120 - 120 = 0 from rfl, h]
  rfl
theorem encABC : encB [97, 0, 98] = [97, 0, 1, 98, 0, 0] := rfl
theorem wrs_new (w : World) : WrS (w.alloc (.cells #[.bool true, .slice none 0 0] 67)) w.heap.size w.heap.size (.slice none 0 0) [] :=
  ⟨Nat.le_refl _, heap_alloc_new w _, OwnB.nil _ _⟩
theorem crc_abc : bits .xor .u32 4294967295 (crcL 4294967295 [49, 50, 51, 52, 53, 54, 55, 56, 57]) = 3808858755 := by decide +kernel

theorem brd_lit (w : World) (T : TypeId) (fz : Nat × Nat) (l : List UInt8) (C : Array Value) (hC : C = (Lib.byteCells l).toArray) : BRd (w.alloc (.cells C T fz)) (some ⟨w.heap.size, 0, none⟩) l := fun _ => by
  subst hC
  refine ⟨_, _, rfl, by simp, fun i hi => ?_⟩
  have hb : (w.alloc (.cells (Lib.byteCells l).toArray T fz)).heap[w.heap.size]? = some (.cells (Lib.byteCells l).toArray T fz) := Array.getElem?_push_size
  rw [cell_of_row _ _ _ _ _ _ hb]
  simp [Lib.byteCells, hi]
theorem sl1 (W : World) (T : TypeId) (a1 : Option Addr) (c1 : Nat) (l1 : List UInt8) (h1 : BRd W a1 l1) (n1 : l1.length ≤ 140737488355328) : SlRd (W.alloc (.cells #[.slice a1 l1.length c1] T)) W.heap.size 0 [⟨a1, c1, l1⟩] := fun i hi => by
  match i, hi with
  | 0, _ => exact ⟨World.cell?_alloc_at _ _ _ _ rfl, h1.alloc _, n1⟩
theorem sl2 (W : World) (T : TypeId) (a1 a2 : Option Addr) (c1 c2 : Nat) (l1 l2 : List UInt8) (h1 : BRd W a1 l1) (h2 : BRd W a2 l2) (n1 : l1.length ≤ 140737488355328) (n2 : l2.length ≤ 140737488355328) : SlRd (W.alloc (.cells #[.slice a1 l1.length c1, .slice a2 l2.length c2] T)) W.heap.size 0 [⟨a1, c1, l1⟩, ⟨a2, c2, l2⟩] := fun i hi => by
  match i, hi with
  | 0, _ => exact ⟨World.cell?_alloc_at _ _ _ _ rfl, h1.alloc _, n1⟩
  | 1, _ => exact ⟨World.cell?_alloc_at _ _ _ _ rfl, h2.alloc _, n2⟩
theorem sum_abc (w : World) (T : TypeId) : Calls Try.prog 30 #[.slice (some ⟨w.heap.size + 1 + 1, 0, none⟩) 2 2] (((w.alloc (.cells #[.int .u8 49, .int .u8 50, .int .u8 51, .int .u8 52, .int .u8 53] 5 (5, 6))).alloc (.cells #[.int .u8 54, .int .u8 55, .int .u8 56, .int .u8 57] 5 (4, 5))).alloc (.cells #[.slice (some ⟨w.heap.size, 0, none⟩) 5 5, .slice (some ⟨w.heap.size + 1, 0, none⟩) 4 4] T)) fun e w' => e = .returned (.int .u32 3808858755) ∧ Below w.heap.size w w' := by
  have e1 : (w.alloc (.cells #[.int .u8 49, .int .u8 50, .int .u8 51, .int .u8 52, .int .u8 53] 5 (5, 6))).heap.size = w.heap.size + 1 := by simp
  have b1 : BRd ((w.alloc (.cells #[.int .u8 49, .int .u8 50, .int .u8 51, .int .u8 52, .int .u8 53] 5 (5, 6))).alloc (.cells #[.int .u8 54, .int .u8 55, .int .u8 56, .int .u8 57] 5 (4, 5))) (some ⟨w.heap.size, 0, none⟩) [49, 50, 51, 52, 53] := (brd_lit w _ _ _ _ rfl).alloc _
  have b2 := brd_lit (w.alloc (.cells #[.int .u8 49, .int .u8 50, .int .u8 51, .int .u8 52, .int .u8 53] 5 (5, 6))) 5 (4, 5) [54, 55, 56, 57] #[.int .u8 54, .int .u8 55, .int .u8 56, .int .u8 57] rfl
  rw [e1] at b2
  have hS := sl2 _ T _ _ 5 4 _ _ b1 b2 (by decide) (by decide)
  have hH : ((w.alloc (.cells #[.int .u8 49, .int .u8 50, .int .u8 51, .int .u8 52, .int .u8 53] 5 (5, 6))).alloc (.cells #[.int .u8 54, .int .u8 55, .int .u8 56, .int .u8 57] 5 (4, 5))).heap.size = w.heap.size + 1 + 1 := by simp
  rw [hH] at hS
  refine (sum_any _ 0 2 _ _ hS (by simp)).mono ?_
  rintro e w' ⟨rfl, rfl⟩
  refine ⟨ret_int crc_abc, ?_⟩
  exact (((Below.refl _ _).alloc (Nat.le_refl _) _).alloc (by simp) _).alloc (by simp; omega) _
theorem WGr.below {w w' : World} {B g : Nat} {v v' : Value} {l : List UInt8} (h : WrS w B g v l) (hg : WGr w w' g v v') (hB : B ≤ w.heap.size) : Below B w w' :=
  ⟨hg.os, hg.tape, hg.output, hg.size, fun k hk => hg.block k (Nat.lt_of_lt_of_le hk hB) (by have := h.low; omega) (fun e => by have := (World.ownsRow.lt h.own k e).1; omega)⟩
theorem conv_at (W : World) (C : Array Value) (n c H : Nat) (hH : W.heap.size = H) : (convert 26 26 (.slice (some ⟨H, 0, none⟩) n c)).run Try.prog (W.alloc (.cells C 5)) = .ok (.slice (some ⟨H, 0, none⟩) n c) (W.alloc (.cells C 5 (C.size, C.size + 1))) := by
  subst hH
  exact Lib.run_convert_bytes_const (P := Try.prog) W 26 5 C n c Try.underlying26 Try.underlying5
set_option maxHeartbeats 3200000 in
set_option maxRecDepth 100000 in
theorem begun_any (w : World) : Calls Try.prog 13 #[] w fun e w' => e = .returned (.bool true) ∧ Below w.heap.size w w' := by
  have HN := Lib.hid (newWriter_any w)
  have HI := Lib.hid (wInt_any _ w.heap.size w.heap.size (.slice none 0 0) [] (-121) (by unfold In8; decide) (wrs_new w) (by decide) (by simp))
  have hA := alloc_below w (.cells #[.bool true, .slice none 0 0] 67)
  rw [enc121] at HI
  go_enter Try.func13, Try.ntmps13
  go_wp2_with fail
  refine HN.out.mono ?_
  rintro e w' ⟨rfl, rfl⟩
  go_wp2_with fail
  refine HI.out.mono ?_
  rintro e w1 ⟨v1, rfl, h1, h2⟩
  rw [show putE [] [7, 255] = 0 from rfl]
  rw [show putL [] [7, 255] = [7, 255] from rfl] at h1
  have hB1 : w.heap.size ≤ w1.heap.size := Nat.le_trans hA.size h2.size
  have HT := Lib.hid (wText_any w1 _ _ v1 _ [97, 0, 98] (by decide) h1 (by decide) hB1)
  rw [encABC] at HT
  have H2 := Lib.hid (below_tr hA (WGr.below (wrs_new w) h2 (by simp)))
  have HS1 := Lib.hid h1
  clear h1 h2
  go_wp2_with fail
  refine HT.out.mono ?_
  rintro e w2 ⟨v2, rfl, h1, h2⟩
  rw [show putE [7, 255] [97, 0, 1, 98, 0, 0] = 0 from rfl]
  rw [show putL [7, 255] [97, 0, 1, 98, 0, 0] = [7, 255, 97, 0, 1, 98, 0, 0] from rfl] at h1
  have HO := Lib.hid (out_any w2 _ _ v2 _ h1 (by decide))
  have H3 := Lib.hid (below_tr H2.out (WGr.below HS1.out h2 hB1))
  have hB2 : w.heap.size ≤ w2.heap.size := Nat.le_trans hB1 h2.size
  clear h1 h2
  go_wp2_with fail
  refine HO.out.mono ?_
  rintro e w3 ⟨v3, rfl, h1, h2⟩
  obtain ⟨a3, cap3, rfl, _, _⟩ := h1.slice
  have H4 := Lib.hid h1
  have H5 := Lib.hid h2
  have HE : Hid (∀ T, Calls Try.prog 17 #[.slice a3 8 cap3, .slice (some ⟨w3.heap.size, 0, none⟩) 8 8] (w3.alloc (.cells #[.int .u8 7, .int .u8 255, .int .u8 97, .int .u8 0, .int .u8 1, .int .u8 98, .int .u8 0, .int .u8 0] T)) fun e w' => e = .returned (.bool true) ∧ Below w3.heap.size w3 w') := by
    show ∀ T, _
    intro T
    exact (equal_any a3 (some ⟨w3.heap.size, 0, none⟩) cap3 8 [7, 255, 97, 0, 1, 98, 0, 0] [7, 255, 97, 0, 1, 98, 0, 0] _ (h1.brd.alloc _) (brd_lit _ _ _ _ _ rfl)).mono fun e w' ⟨he, hw⟩ => ⟨he, hw ▸ alloc_below _ _⟩
  have H4 := Lib.hid h1
  have H5 := Lib.hid h2
  clear h1 h2
  go_wp2_with fail
  refine (HE.out _).mono ?_
  rintro e w4 ⟨rfl, h4⟩
  have H6 := Lib.hid h4
  clear h4
  have k1 := conv_at w4 #[.int .u8 49, .int .u8 50, .int .u8 51, .int .u8 52, .int .u8 53] 5 5 _ rfl
  have k2 := conv_at (w4.alloc (.cells #[.int .u8 49, .int .u8 50, .int .u8 51, .int .u8 52, .int .u8 53] 5 (5, 6))) #[.int .u8 54, .int .u8 55, .int .u8 56, .int .u8 57] 4 4 (w4.heap.size + 1) (by simp)
  go_wp2_with fail
  refine (sum_abc _ _).mono ?_
  rintro e w5 ⟨rfl, h7⟩
  have H7 := Lib.hid h7
  clear h7 k1 k2
  go_wp2_with fail
  go_ret
  refine ⟨rfl, ?_⟩
  exact bt (bt (bt H3.out H5.out) H6.out) H7.out
end Go.Proofs.Ytdjppchcnbfcoaa
