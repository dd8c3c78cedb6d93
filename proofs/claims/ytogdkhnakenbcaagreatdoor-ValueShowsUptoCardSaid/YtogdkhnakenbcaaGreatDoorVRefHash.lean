/-
  Contract of the document's Hash.
-/
import Derived.Test.YtogdkhnakenbcaaGreatDoorVRefKey
namespace Go.Proofs.YtogdkhnakenbcaaGreatDoor
open Go.ChangeShapes Go.WideShapes Go.ChangeAt Go.RowKit Go.Sort
set_option linter.unusedVariables false

set_option maxHeartbeats 1600000 in
set_option maxRecDepth 100000 in
theorem refHash_any (A : Option Addr) (ca : Nat) (xs : List VR) (s0 : Int) (w : World) (hA : VRd w A xs) (ox : ∀ x ∈ xs, x.Ok) (lx : xs.length ≤ maxLen) (hlim : (keyL xs).length + 100 ≤ 140737488355328) :
    Calls Tryz.prog 15 #[.int .u64 s0, .slice A xs.length ca] w fun e w' => e = .returned (.int .u64 (hashL (bits .xor .u64 14695981039346656037 s0) (keyL xs))) ∧ Below w.heap.size w w' := by
  have HK := Lib.hid (fun W h => refKey_any A ca xs W h ox lx hlim)
  generalize keyL xs = L at *
  go_enter Tryz.func15, Tryz.ntmps15
  go_wp2_with fail
  refine (HK.out _ hA).mono ?_
  rintro e w1 ⟨rfl, hb1⟩
  obtain ⟨t, ht⟩ : ∃ t : ByteArray, t = ⟨L.toArray⟩ := ⟨_, rfl⟩
  have hts : t.size = L.length := by rw [ht]; rfl
  have HTK := Lib.hid (fun j (hj : j < t.size) (hj' : j < L.length) => show t[j] = L[j] by subst ht; rfl)
  rw [← ht]
  clear ht
  have hlt : (t.size : Int) ≤ 140737488355328 := by omega
  go_wp2_with fail
  go_loop [5, 7] (fun h i => ∃ j : Nat, j ≤ t.size ∧ i = .int .i64 j ∧ h = .int .u64 (hashL (bits .xor .u64 14695981039346656037 s0) (L.take j))) (fun _ i => t.size - (intOf i).toNat)
  case atStart => exact ⟨0, Nat.zero_le _, rfl, rfl⟩
  case round =>
    obtain ⟨j, kj, rfl, rfl⟩ := hrel
    by_cases hj : j < t.size
    · have HTJ := Lib.hid (hashL_take (bits .xor .u64 14695981039346656037 s0) L j (by omega))
      have hcj := HTK.out j hj (by omega)
      have y0 : (0 : Int) ≤ (j : Int) := by omega
      have y1 : (j : Int) < (t.size : Int) := by omega
      have hwr : IntKind.u64.wrap (t[j].toNat : Int) = (t[j].toNat : Int) := by rw [IntKind.wrap_u64]; have := t[j].toNat_lt; omega
      rw [← hcj] at HTJ
      clear hcj
      generalize hashL (bits .xor .u64 14695981039346656037 s0) (L.take j) = h2 at *
      go_wp2
      go_round
      case rel => exact ⟨j + 1, by omega, by go_num, by rw [HTJ.out]⟩
      case measure => simp [intOf]; omega
    · have hjI : ¬ (j : Int) < (t.size : Int) := by omega
      have hje : j = L.length := by omega
      subst hje
      rw [List.take_length] at *
      go_wp2
      go_ret
      exact ⟨rfl, hb1⟩
end Go.Proofs.YtogdkhnakenbcaaGreatDoor
