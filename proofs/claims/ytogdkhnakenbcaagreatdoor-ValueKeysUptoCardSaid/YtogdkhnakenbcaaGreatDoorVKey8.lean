/-
  Contracts of value.Key.
-/
import Derived.Test.YtogdkhnakenbcaaGreatDoorVKey7
import Derived.Test.YtogdkhnakenbcaaGreatDoorVSlice
import Derived.Lib.BufferRead
namespace Go.Proofs.YtogdkhnakenbcaaGreatDoor
open Go.ChangeShapes Go.WideShapes Go.ChangeAt Go.RowKit Go.Sort
set_option linter.unusedVariables false

theorem text_le (s x : Int) (t : ByteArray) : t.size ≤ (keyV ⟨4, s, false, x, t⟩).length := by
  have el : t.data.toList.length = t.size := Array.length_toList
  simp [keyV, headK, bodyK]
  omega
/-- appendKey, bounded by the key's own length. -/
theorem appendKey_len (B n : Nat) (sv : Value) (xs : List Value) (k s : Int) (nl : Bool) (x : Int) (t : ByteArray) (w : World) (hk : In64 k) (hx : In64 x) (hown : w.ownsRow B 5 1 sv n xs) (hB : B ≤ w.heap.size) (hlim : n + (keyV ⟨k, s, nl, x, t⟩).length + 100 ≤ 140737488355328) (hgB : 1 < B) (htab : PowLaid w) :
    Calls Tryz.prog 42 #[sv, .agg #[.int .i64 k, .int .i64 s, .bool nl, .int .i64 x, .string t]] w (KeyOwn B n xs (keyV ⟨k, s, nl, x, t⟩) w) := by
  cases nl
  · by_cases k3 : k = 3
    · subst k3; exact appendKey_dec B n sv xs s x t w hx hown hB (by omega) hgB htab
    · by_cases k4 : k = 4
      · subst k4; exact appendKey_text B n sv xs s x t w hown hB (by have := text_le s x t; omega) hgB htab
      · exact appendKey_num B n sv xs k s x t w hk hx k3 k4 hown hB (by omega) hgB htab
  · by_cases k3 : k = 3
    · subst k3; exact appendKey_null3 B n sv xs s x t w hown hB (by omega) hgB htab
    · exact appendKey_null B n sv xs k s x t w hk k3 hown hB (by omega) hgB htab
theorem below_tr {B : Nat} {a b c : World} (h1 : Below B a b) (h2 : Below B b c) : Below B a c := ⟨h2.os.trans h1.os, h2.tape.trans h1.tape, h2.output.trans h1.output, Nat.le_trans h1.size h2.size, fun k hk => (h2.block k hk).trans (h1.block k hk)⟩
theorem keyL_take (xs : List VR) (k : Nat) (h : k < xs.length) : keyL (xs.take (k + 1)) = keyL (xs.take k) ++ keyV xs[k] := by
  rw [List.take_succ_eq_append_getElem h, keyL_app]
  simp [keyL]
theorem keyL_take_le (xs : List VR) (k : Nat) : (keyL (xs.take k)).length ≤ (keyL xs).length := by
  conv => rhs; rw [← List.take_append_drop k xs, keyL_app]
  simp

/-- string(b) of a row of the call's own. -/
theorem conv_own {w : World} {B : Nat} {v : Value} {l : List UInt8} (hown : w.ownsRow B 5 1 v l.length (Lib.byteCells l)) : (convert 61 9 v).run Tryz.prog w = .ok (.string ⟨l.toArray⟩) w := by
  rcases hown.2 with ⟨hv, h0⟩ | ⟨g, cap, cur, hv, hb, hg, rest⟩
  · have hl : l = [] := List.length_eq_zero_iff.1 h0
    subst hl hv
    exact Lib.run_convert_nil_bytes w _ _ 5 0 Tryz.underlying61 Tryz.underlying5 Tryz.underlying9
  · have hc := hown.cells (g := g) (by rw [hv]; rfl)
    rw [hv]
    refine run_convert_bytes_back w _ _ 5 ⟨g, 0, none⟩ cap l Tryz.underlying61 Tryz.underlying5 Tryz.underlying9 (fun j hj => ?_)
    refine hc j _ ?_
    rw [Lib.byteCells, List.getElem?_map, List.getElem?_eq_getElem hj]
    rfl

set_option maxHeartbeats 1600000 in
set_option maxRecDepth 100000 in
theorem key_any (A : Option Addr) (ca : Nat) (xs : List VR) (w : World) (hA : VRd w A xs) (ox : ∀ x ∈ xs, x.Ok) (lx : xs.length ≤ maxLen) (hlim : (keyL xs).length + 100 ≤ 140737488355328) (hgB : 1 < w.heap.size) (htab : PowLaid w) :
    Calls Tryz.prog 12 #[.slice A xs.length ca] w fun e w' => e = .returned (.string ⟨(keyL xs).toArray⟩) ∧ Below w.heap.size w w' := by
  unfold maxLen at lx
  go_enter Tryz.func12, Tryz.ntmps12
  go_wp2_with fail
  go_loopw [3, 8] (fun b i wr => ∃ k : Nat, k ≤ xs.length ∧ i = .int .i64 k ∧ Below w.heap.size w wr ∧ wr.ownsRow w.heap.size 5 1 b (keyL (xs.take k)).length (Lib.byteCells (keyL (xs.take k)))) (fun _ i _ => xs.length - (intOf i).toNat)
  case atStart => exact ⟨0, Nat.zero_le _, rfl, Below.refl _ _, ⟨rfl, .inl ⟨rfl, rfl⟩⟩⟩
  case round =>
    obtain ⟨k, kx, rfl, hw, hown⟩ := hrel
    by_cases hx : k < xs.length
    · obtain ⟨g, off, rfl, hg, hW⟩ := (hA.below hw) (by omega)
      obtain ⟨a0, a1, a2, a3, a4⟩ := hW k hx
      have hok := ox _ (List.getElem_mem hx)
      have hle := keyL_take_le xs (k + 1)
      rw [keyL_take xs k hx] at hle
      have HT := Lib.hid (keyL_take xs k hx)
      have x0 : (0 : Int) ≤ (k : Int) := by omega
      have x1 : (k : Int) < (xs.length : Int) := by omega
      have x2 : 0 < xs.length := by omega
      have HA := Lib.hid hA
      have HP := Lib.hid (show PowLaid wr from htab.below hw)
      have hsz : w.heap.size ≤ wr.heap.size := hw.size
      clear hA hW
      generalize xs[k] = vx at *
      obtain ⟨vk, vs, vnl, vn, vt⟩ := vx
      simp only at a0 a1 a2 a3 a4
      have hk := hok.k
      have hn := hok.n
      have HL := Lib.hid hle
      clear hle hok
      go_wp2_with fail
      refine (appendKey_len w.heap.size _ u3 _ vk vs vnl vn vt _ hk hn (hown.alloc _) (by simp; omega) (by have h1 := HL.out; simp only [List.length_append] at h1; omega) hgB (powLaid_alloc _ HP.out)).mono ?_
      rintro e w3 ⟨v3, rfl, hown3, hb3⟩
      have hw3 := Lib.hid (below_tr (hw.alloc hsz _) hb3)
      have hown4 : Hid (w3.ownsRow w.heap.size 5 1 v3 (keyL (xs.take (k + 1))).length (Lib.byteCells (keyL (xs.take (k + 1))))) := Lib.hid (by rw [HT.out]; simpa [Lib.byteCells] using hown3)
      clear hb3 hown3
      go_wp2
      go_roundw
      case rel => exact ⟨k + 1, by omega, by go_num, hw3.out, hown4.out⟩
      case measure => simp [intOf]; omega
    · have hxI : ¬ (k : Int) < (xs.length : Int) := by omega
      have hkx : k = xs.length := by omega
      subst hkx
      rw [List.take_length] at hown
      have hcv := conv_own hown
      go_wp2
      go_ret
      exact ⟨rfl, hw⟩
end Go.Proofs.YtogdkhnakenbcaaGreatDoor
