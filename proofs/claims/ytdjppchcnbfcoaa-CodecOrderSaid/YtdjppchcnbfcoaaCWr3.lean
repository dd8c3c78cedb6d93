/-
  Contract of codec.Writer.Text; texts as bytes.
-/
import Derived.Test.YtdjppchcnbfcoaaCWr2
import Derived.Laws.IdiomStrings
namespace Go.Proofs.Ytdjppchcnbfcoaa
open Go.ChangeShapes Go.WideShapes Go.ChangeAt Go.RowKit
set_option linter.unusedVariables false

theorem below_drew {B : Nat} {w w' : World} (h : Below B w w') : Below B w w'.drew := h.drew
theorem bytes_conv (l : List UInt8) (w : World) : ∃ (WA : World) (cap : Nat), (convert 9 26 (.string ⟨l.toArray⟩)).run Try.prog w = .ok (.slice (some ⟨w.heap.size, 0, none⟩) l.length cap) WA ∧ BRd WA (some ⟨w.heap.size, 0, none⟩) l ∧ Below w.heap.size w WA ∧ w.heap.size < WA.heap.size := by
  refine ⟨_, _, run_bytes_of_string (P := Try.prog) w 9 26 5 ⟨l.toArray⟩ Try.underlying9 Try.underlying26 Try.underlying5, fun _ => ⟨_, _, rfl, ?_, fun j h => ?_⟩, ?_, ?_⟩
  · exact Nat.lt_of_lt_of_eq (Nat.lt_succ_self _) (Array.size_push ..).symm
  · have hb : (w.drew.alloc (.cells (bytesRow ⟨l.toArray⟩ (grownCap w (⟨l.toArray⟩ : ByteArray).size 0 5)) 5 ((bytesRow ⟨l.toArray⟩ (grownCap w (⟨l.toArray⟩ : ByteArray).size 0 5)).size, (bytesRow ⟨l.toArray⟩ (grownCap w (⟨l.toArray⟩ : ByteArray).size 0 5)).size + 1))).heap[w.heap.size]? = _ := Array.getElem?_push_size
    unfold World.cell?
    rw [hb]
    simp [bytesRow, Array.getElem?_append, h]
  · exact (below_drew (Below.refl _ _)).alloc (Nat.le_refl _) _
  · exact Nat.lt_of_lt_of_eq (Nat.lt_succ_self _) (Array.size_push ..).symm
set_option maxHeartbeats 1600000 in
theorem wText_any (w : World) (B g : Nat) (v : Value) (l : List UInt8) (s : List UInt8) (hsl : s.length ≤ 140737488355328) (h : WrS w B g v l) (hl : l.length ≤ 1048576) (hB : B ≤ w.heap.size) :
    Calls Try.prog 32 #[.pointer (some ⟨g, 0, none⟩), .string ⟨s.toArray⟩] w (WPost B g v l (encB s) w) := by
  obtain ⟨WA, cap, hconv, hrd, hb, hlt⟩ := bytes_conv s w
  have hd : Apart (some ⟨w.heap.size, 0, none⟩) v := fun a e hv => by
    obtain rfl := Option.some.inj e
    have := (World.ownsRow.lt h.own _ hv).2
    simp at this
  have HW := Lib.hid (wBytes_any WA B g v l _ cap s hrd hd (fun e => by cases e) hsl (h.below hb) hl (Nat.le_trans hB hb.size))
  have HB := Lib.hid hb
  clear h hrd hb hlt hd
  go_enter Try.func32, Try.ntmps32
  go_wp2_with fail
  refine HW.out.mono ?_
  rintro e w1 ⟨v1, rfl, h1, h2⟩
  have H1 := Lib.hid h1
  have H2 := Lib.hid h2
  clear h1 h2 hconv
  go_wp2_with fail
  go_ret
  exact ⟨v1, rfl, H1.out, (WGr.of_below HB.out).trans H2.out⟩
end Go.Proofs.Ytdjppchcnbfcoaa
