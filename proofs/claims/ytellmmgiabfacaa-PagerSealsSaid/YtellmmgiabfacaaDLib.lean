/-
  Of disk: bytes.Clone and bytes.Equal at slices of bytes wherever they lie.
-/
import Derived.Test.YtellmmgiabfacaaCBase
import Derived.Test.YtellmmgiabfacaaShelf
import Derived.Lib.BytesEntry
namespace Go.Proofs.Ytellmmgiabfacaa
open Go.ChangeShapes Go.WideShapes Go.ChangeAt Go.RowKit
set_option linter.unusedVariables false

def nums (l : List UInt8) : List Int := l.map fun c => (c.toNat : Int)
theorem nums_len (l : List UInt8) : (nums l).length = l.length := by simp [nums]
theorem nums_get (l : List UInt8) (i : Nat) (h : i < l.length) : (nums l).getD i 0 = (l[i].toNat : Int) := by
  rw [List.getD_eq_getElem?_getD, List.getElem?_eq_getElem (by rw [nums_len]; exact h)]
  simp [nums]
theorem nums_bytes (l : List UInt8) : Lib.bytesOf (nums l) = l := by
  unfold Lib.bytesOf nums
  rw [List.map_map]
  conv => rhs; rw [← List.map_id l]
  exact List.map_congr_left fun c _ => by simp
theorem BRd.bytesIn {w : World} {A : Option Addr} {l : List UInt8} (h : BRd w A l) : Lib.BytesIn w A l.length (nums l) := fun hn => by
  obtain ⟨g, off, hA, hg, hc⟩ := h hn
  exact ⟨g, off, hA, fun i hi => by rw [hc i hi, nums_get l i hi]⟩
theorem nums_cells (l : List UInt8) : (nums l).map (Value.int .u8) = Lib.byteCells l := by
  unfold nums Lib.byteCells
  rw [List.map_map]
  rfl
theorem BRd.cells {w : World} {A : Option Addr} {l : List UInt8} (h : BRd w A l) (hn : 0 < l.length) : ∃ a, A = some a ∧ ∀ i, i < l.length → w.cell? (a.add i) = some (.int .u8 ((nums l).getD i 0)) := by
  obtain ⟨g, off, hA, hg, hc⟩ := h hn
  exact ⟨_, hA, fun i hi => by rw [Go.WideShapes.add_plain, hc i hi, nums_get l i hi]⟩

theorem clone_any (A : Option Addr) (c : Nat) (l : List UInt8) (w : World) (hA : BRd w A l) (hl : l.length ≤ 140737488355328) :
    Calls Try.prog 16 #[.slice A l.length c] w fun e w' => ∃ v', e = .returned v' ∧ OwnB w' w.heap.size v' l ∧ Below w.heap.size w w' := by
  cases A with
  | none =>
    have hl0 : l = [] := by
      rcases Nat.eq_zero_or_pos l.length with h | h
      · exact List.length_eq_zero_iff.1 h
      · obtain ⟨g, off, e, _⟩ := hA h
        cases e
    subst hl0
    exact (Try.bytes_Clone_nil 0 c w).mono fun e w' ⟨he, hw⟩ => by subst hw; exact ⟨_, he, OwnB.nil _ _, Below.refl _ _⟩
  | some a =>
    refine (Try.bytes_Clone_at a l.length c (nums l) w (nums_len l) hl ?_).mono ?_
    · intro i hi
      obtain ⟨a', e, h⟩ := hA.cells (by omega)
      obtain rfl : a = a' := Option.some.inj e
      exact h i hi
    · rintro e w' ⟨v', he, hown, _, hb⟩
      rw [nums_cells] at hown
      exact ⟨v', he, hown, hb⟩
theorem equal_any (A1 A2 : Option Addr) (c1 c2 : Nat) (l1 l2 : List UInt8) (w : World) (h1 : BRd w A1 l1) (h2 : BRd w A2 l2) :
    Calls Try.prog 15 #[.slice A1 l1.length c1, .slice A2 l2.length c2] w fun e w' => e = .returned (.bool (l1 == l2)) ∧ w = w' := by
  have h := Try.bytes_Equal_all A1 A2 l1.length c1 l2.length c2 (nums l1) (nums l2) w (nums_len l1) (nums_len l2) h1.bytesIn h2.bytesIn
  rw [nums_bytes, nums_bytes] at h
  exact h.mono fun e w' ⟨he, hw⟩ => ⟨he, hw.symm⟩
end Go.Proofs.Ytellmmgiabfacaa
