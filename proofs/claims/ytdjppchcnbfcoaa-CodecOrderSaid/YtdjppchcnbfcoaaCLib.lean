/-
  Contracts of package bytes at slices of bytes wherever they lie.
-/
import Derived.Test.YtdjppchcnbfcoaaCBase
import Derived.Test.YtdjppchcnbfcoaaShelf
import Derived.Lib.BytesEntry
namespace Go.Proofs.Ytdjppchcnbfcoaa
open Go.ChangeShapes Go.WideShapes Go.ChangeAt Go.RowKit
set_option linter.unusedVariables false

def nums (l : List UInt8) : List Int := l.map fun c => (c.toNat : Int)
theorem nums_len (l : List UInt8) : (nums l).length = l.length := by simp [nums]
theorem nums_get (l : List UInt8) (i : Nat) (h : i < l.length) : (nums l).getD i 0 = (l[i].toNat : Int) := by
  rw [List.getD_eq_getElem?_getD, List.getElem?_eq_getElem (by rw [nums_len]; exact h)]
  simp [nums]
theorem nums_bytes (l : List UInt8) : Lib.bytesOf (nums l) = l := by
  unfold Lib.bytesOf nums
  rw [List.map_map]
  conv => rhs; rw [← List.map_id l]
  exact List.map_congr_left fun c _ => by simp
theorem BRd.bytesIn {w : World} {A : Option Addr} {l : List UInt8} (h : BRd w A l) : Lib.BytesIn w A l.length (nums l) := fun hn => by
  obtain ⟨g, off, hA, hg, hc⟩ := h hn
  exact ⟨g, off, hA, fun i hi => by rw [hc i hi, nums_get l i hi]⟩
theorem nums_cells (l : List UInt8) : (nums l).map (Value.int .u8) = Lib.byteCells l := by
  unfold nums Lib.byteCells
  rw [List.map_map]
  rfl
theorem BRd.cells {w : World} {A : Option Addr} {l : List UInt8} (h : BRd w A l) (hn : 0 < l.length) : ∃ a, A = some a ∧ ∀ i, i < l.length → w.cell? (a.add i) = some (.int .u8 ((nums l).getD i 0)) := by
  obtain ⟨g, off, hA, hg, hc⟩ := h hn
  exact ⟨_, hA, fun i hi => by rw [Go.WideShapes.add_plain, hc i hi, nums_get l i hi]⟩

theorem clone_any (A : Option Addr) (c : Nat) (l : List UInt8) (w : World) (hA : BRd w A l) (hl : l.length ≤ 140737488355328) :
    Calls Try.prog 37 #[.slice A l.length c] w fun e w' => ∃ v', e = .returned v' ∧ OwnB w' w.heap.size v' l ∧ Below w.heap.size w w' := by
  cases A with
  | none =>
    have hl0 : l = [] := by
      rcases Nat.eq_zero_or_pos l.length with h | h
      · exact List.length_eq_zero_iff.1 h
      · obtain ⟨g, off, e, _⟩ := hA h
        cases e
    subst hl0
    exact (Try.bytes_Clone_nil 0 c w).mono fun e w' ⟨he, hw⟩ => by subst hw; exact ⟨_, he, OwnB.nil _ _, Below.refl _ _⟩
  | some a =>
    refine (Try.bytes_Clone_at a l.length c (nums l) w (nums_len l) hl ?_).mono ?_
    · intro i hi
      obtain ⟨a', e, h⟩ := hA.cells (by omega)
      obtain rfl : a = a' := Option.some.inj e
      exact h i hi
    · rintro e w' ⟨v', he, hown, _, hb⟩
      rw [nums_cells] at hown
      exact ⟨v', he, hown, hb⟩
theorem equal_any (A1 A2 : Option Addr) (c1 c2 : Nat) (l1 l2 : List UInt8) (w : World) (h1 : BRd w A1 l1) (h2 : BRd w A2 l2) :
    Calls Try.prog 17 #[.slice A1 l1.length c1, .slice A2 l2.length c2] w fun e w' => e = .returned (.bool (l1 == l2)) ∧ w = w' := by
  have h := Try.bytes_Equal_all A1 A2 l1.length c1 l2.length c2 (nums l1) (nums l2) w (nums_len l1) (nums_len l2) h1.bytesIn h2.bytesIn
  rw [nums_bytes, nums_bytes] at h
  exact h.mono fun e w' ⟨he, hw⟩ => ⟨he, hw.symm⟩
theorem prefix_any (A1 A2 : Option Addr) (c1 c2 : Nat) (l1 l2 : List UInt8) (w : World) (h1 : BRd w A1 l1) (h2 : BRd w A2 l2) (hc : l1.length ≤ c1) :
    Calls Try.prog 36 #[.slice A1 l1.length c1, .slice A2 l2.length c2] w fun e w' => e = .returned (.bool (Lib.hasPrefix l1 l2)) ∧ w = w' := by
  have h := Try.bytes_HasPrefix_all A1 A2 l1.length c1 l2.length c2 (nums l1) (nums l2) w (nums_len l1) (nums_len l2) hc h1.bytesIn h2.bytesIn
  rw [nums_bytes, nums_bytes] at h
  exact h.mono fun e w' ⟨he, hw⟩ => ⟨he, hw.symm⟩
/-- How often the byte 0 stands in a slice. -/
theorem count_any (A : Option Addr) (c : Nat) (l : List UInt8) (b2 d : Nat) (w : World) (hA : BRd w A l) (hN : A = none → c = 0) (hc2 : w.cell? ⟨b2, 0, none⟩ = some (.int .u8 0)) :
    Calls Try.prog 66 #[.slice A l.length c, .slice (some ⟨b2, 0, none⟩) 1 d] w fun e w' => e = .returned (.int .i64 (l.count 0 : Nat)) ∧ w = w' := by
  cases A with
  | none =>
    have hl0 : l = [] := by
      rcases Nat.eq_zero_or_pos l.length with h | h
      · exact List.length_eq_zero_iff.1 h
      · obtain ⟨g, off, e, _⟩ := hA h
        cases e
    subst hl0
    obtain rfl := hN rfl
    exact (Try.bytes_Count_one_nil b2 0 d 0 w hc2).mono fun e w' ⟨he, hw⟩ => ⟨he, hw.symm⟩
  | some a =>
    have h := Try.bytes_Count_one_at a l.length c b2 0 d (nums l) 0 w (nums_len l) (fun i hi => by
      obtain ⟨a', e, h⟩ := hA.cells (by omega)
      obtain rfl : a = a' := Option.some.inj e
      exact h i hi) hc2
    rw [nums_bytes] at h
    exact h.mono fun e w' ⟨he, hw⟩ => ⟨he, hw.symm⟩
theorem run_bytes {P : Program} {w : World} {A : Option Addr} {c : Nat} {l : List UInt8} (hA : BRd w A l) : (Extern.Bytes.bytesOf (.slice A l.length c)).run P w = .ok ⟨l.toArray⟩ w := by
  cases A with
  | none =>
    have hl0 : l = [] := by
      rcases Nat.eq_zero_or_pos l.length with h | h
      · exact List.length_eq_zero_iff.1 h
      · obtain ⟨g, off, e, _⟩ := hA h
        cases e
    subst hl0
    rfl
  | some a =>
    have hl := Lib.run_loadBytesX (P := P) w (nums l) a .empty (fun j x hj => by
      have hj' : j < l.length := by have := (List.getElem?_eq_some_iff.1 hj).1; rwa [nums_len] at this
      obtain ⟨a', e, h⟩ := hA.cells (by omega)
      obtain rfl : a = a' := Option.some.inj e
      rw [h j hj', List.getD_eq_getElem?_getD, hj]
      rfl)
    rw [nums_len, nums_bytes] at hl
    have he : (⟨ByteArray.empty.data ++ l.toArray⟩ : ByteArray) = ⟨l.toArray⟩ := by
      apply ByteArray.ext
      show (#[] : Array UInt8) ++ l.toArray = l.toArray
      simp
    rw [he] at hl
    exact hl
theorem run_compareAt {P : Program} {w : World} {A1 A2 : Option Addr} {c1 c2 : Nat} {l1 l2 : List UInt8} (h1 : BRd w A1 l1) (h2 : BRd w A2 l2) :
    (Extern.BytealgCompare.compare #[.slice A1 l1.length c1, .slice A2 l2.length c2]).run P w = .ok (.int .i64 (Lib.compareBytes l1 l2)) w := by
  change Sem.run P (do pure (goInt (Extern.BytealgCompare.cmp (← Extern.Bytes.bytesOf (.slice A1 l1.length c1)) (← Extern.Bytes.bytesOf (.slice A2 l2.length c2))))) w = _
  simp only [Sem.run_bind, Sem.run_pure, run_bytes h1, run_bytes h2, Result.andThen]
  rw [Lib.cmp_eq]
  rfl
set_option maxHeartbeats 1000000 in
theorem compare_any (A1 A2 : Option Addr) (c1 c2 : Nat) (l1 l2 : List UInt8) (w : World) (h1 : BRd w A1 l1) (h2 : BRd w A2 l2) :
    Calls Try.prog 33 #[.slice A1 l1.length c1, .slice A2 l2.length c2] w fun e w' => e = .returned (.int .i64 (Lib.compareBytes l1 l2)) ∧ w = w' := by
  have H1 := Lib.hid h1
  have H2 := Lib.hid h2
  clear h1 h2
  go_enter Try.func33, Try.ntmps33
  go_wp2
  rw [run_callFunc_extern Try.func56 (by kernel_rfl) (by kernel_rfl) (by kernel_rfl) (e := Extern.BytealgCompare.compare) (by kernel_rfl), run_compareAt H1.out H2.out]
  simp only [Result.andThen]
  rw [Oper.upon_value]
  go_wp2
  go_ret
  exact ⟨rfl, rfl⟩
end Go.Proofs.Ytdjppchcnbfcoaa
