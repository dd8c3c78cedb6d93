/-
  Of disk: bytes.Clone and bytes.Equal at slices of bytes wherever they lie.
-/
import Derived.Test.YtpdffcopigajgaaCBase
import Derived.Test.YtpdffcopigajgaaShelf
import Derived.Lib.BytesEntry
namespace Go.Proofs.Ytpdffcopigajgaa
open Go.ChangeShapes Go.WideShapes Go.ChangeAt Go.RowKit
set_option linter.unusedVariables false

def nums (l : List UInt8) : List Int := l.map fun c => (c.toNat : Int)
theorem nums_len (l : List UInt8) : (nums l).length = l.length := by simp [nums]
theorem nums_get (l : List UInt8) (i : Nat) (h : i < l.length) : (nums l).getD i 0 = (l[i].toNat : Int) := by
  rw [List.getD_eq_getElem?_getD, List.getElem?_eq_getElem (by rw [nums_len]; exact h)]
  simp [nums]
theorem nums_bytes (l : List UInt8) : Lib.bytesOf (nums l) = l := by
  unfold Lib.bytesOf nums
  rw [List.map_map]
  conv => rhs; rw [← List.map_id l]
  exact List.map_congr_left fun c _ => by simp
theorem BRd.bytesIn {w : World} {A : Option Addr} {l : List UInt8} (h : BRd w A l) : Lib.BytesIn w A l.length (nums l) := fun hn => by
  obtain ⟨g, off, hA, hg, hc⟩ := h hn
  exact ⟨g, off, hA, fun i hi => by rw [hc i hi, nums_get l i hi]⟩
theorem nums_cells (l : List UInt8) : (nums l).map (Value.int .u8) = Lib.byteCells l := by
  unfold nums Lib.byteCells
  rw [List.map_map]
  rfl
theorem BRd.cells {w : World} {A : Option Addr} {l : List UInt8} (h : BRd w A l) (hn : 0 < l.length) : ∃ a, A = some a ∧ ∀ i, i < l.length → w.cell? (a.add i) = some (.int .u8 ((nums l).getD i 0)) := by
  obtain ⟨g, off, hA, hg, hc⟩ := h hn
  exact ⟨_, hA, fun i hi => by rw [Go.WideShapes.add_plain, hc i hi, nums_get l i hi]⟩

theorem equal_any (A1 A2 : Option Addr) (c1 c2 : Nat) (l1 l2 : List UInt8) (w : World) (h1 : BRd w A1 l1) (h2 : BRd w A2 l2) :
    Calls Try.prog 54 #[.slice A1 l1.length c1, .slice A2 l2.length c2] w fun e w' => e = .returned (.bool (l1 == l2)) ∧ w = w' := by
  have h := Try.bytes_Equal_all A1 A2 l1.length c1 l2.length c2 (nums l1) (nums l2) w (nums_len l1) (nums_len l2) h1.bytesIn h2.bytesIn
  rw [nums_bytes, nums_bytes] at h
  exact h.mono fun e w' ⟨he, hw⟩ => ⟨he, hw.symm⟩
end Go.Proofs.Ytpdffcopigajgaa
