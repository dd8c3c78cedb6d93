/-
  Contracts of value.Hash.
-/
import Derived.Test.YtogdkhnakenbcaaGreatDoorVKey8
namespace Go.Proofs.YtogdkhnakenbcaaGreatDoor
open Go.ChangeShapes Go.WideShapes Go.ChangeAt Go.RowKit Go.Sort
set_option linter.unusedVariables false

theorem hashL_app : ∀ (a b : List UInt8) (h : Int), hashL h (a ++ b) = hashL (hashL h a) b
  | [], b, h => rfl
  | c :: a, b, h => by simp only [List.cons_append, hashL]; exact hashL_app a b _
theorem hashL_take (h : Int) (l : List UInt8) (j : Nat) (hj : j < l.length) : hashL h (l.take (j + 1)) = IntKind.u64.wrap (bits .xor .u64 (hashL h (l.take j)) (l[j].toNat : Int) * 1099511628211) := by
  rw [List.take_succ_eq_append_getElem hj, hashL_app]; rfl
/-- b[:0] of a row of the call's own is one, and empty. -/
theorem own_zero {w : World} {B n cap : Nat} {a : Option Addr} {xs : List Value} (h : w.ownsRow B 5 1 (.slice a n cap) n xs) : w.ownsRow B 5 1 (.slice a 0 cap) 0 [] := by
  refine ⟨rfl, ?_⟩
  rcases h.2 with ⟨hv, h0⟩ | ⟨g, cap', cur, hv, hb, hg, hn, hm, hs, ht⟩
  · obtain ⟨rfl, -, rfl⟩ : a = none ∧ n = 0 ∧ cap = 0 := by simpa using hv
    exact .inl ⟨rfl, rfl⟩
  · obtain ⟨rfl, rfl⟩ : a = some ⟨g, 0, none⟩ ∧ cap = cap' := by simpa using hv
    exact .inr ⟨g, cap, cur, rfl, hb, hg, Nat.zero_le _, hm, hs, by simp⟩
theorem own_slice {w : World} {B n : Nat} {v : Value} {xs : List Value} (h : w.ownsRow B 5 1 v n xs) : ∃ a cap, v = .slice a n cap ∧ n ≤ cap ∧ (a = none → cap = 0) := by
  rcases h.2 with ⟨rfl, rfl⟩ | ⟨g, cap, cur, rfl, hb, hg, hn, rest⟩
  · exact ⟨none, 0, rfl, Nat.le_refl _, fun _ => rfl⟩
  · exact ⟨_, cap, rfl, hn, fun h => by cases h⟩

theorem own_cells {w : World} {B cap : Nat} {a : Option Addr} {l : List UInt8} (h : w.ownsRow B 5 1 (.slice a l.length cap) l.length (Lib.byteCells l)) (j : Nat) (hj : j < l.length) : ∃ g, a = some ⟨g, 0, none⟩ ∧ w.cell? ⟨g, j, none⟩ = some (.int .u8 (l[j].toNat : Int)) := by
  obtain ⟨g, cap', hv, hb, hg⟩ := h.form (by omega)
  obtain ⟨rfl, rfl⟩ : a = some ⟨g, 0, none⟩ ∧ cap = cap' := by simpa using hv
  refine ⟨g, rfl, ?_⟩
  have hc := h.cells (g := g) rfl j _ (by rw [Lib.byteCells, List.getElem?_map, List.getElem?_eq_getElem hj]; rfl)
  rw [Lib.add_plain] at hc
  simpa using hc

set_option maxHeartbeats 1600000 in
set_option maxRecDepth 100000 in
theorem hash_any (A : Option Addr) (ca : Nat) (xs : List VR) (s0 : Int) (w : World) (hA : VRd w A xs) (ox : ∀ x ∈ xs, x.Ok) (lx : xs.length ≤ maxLen) (hlim : (keyL xs).length + 100 ≤ 140737488355328) (hgB : 1 < w.heap.size) (htab : PowLaid w) :
    Calls Tryz.prog 14 #[.int .u64 s0, .slice A xs.length ca] w fun e w' => e = .returned (.int .u64 (hashL (bits .xor .u64 14695981039346656037 s0) (keyL xs))) ∧ Below w.heap.size w w' := by
  unfold maxLen at lx
  go_enter Tryz.func14, Tryz.ntmps14
  go_wp2_with fail
  go_loopw [5, 6, 15] (fun h b i wr => ∃ (k : Nat) (l : List UInt8), k ≤ xs.length ∧ i = .int .i64 k ∧ Below w.heap.size w wr ∧ wr.ownsRow w.heap.size 5 1 b l.length (Lib.byteCells l) ∧ h = .int .u64 (hashL (bits .xor .u64 14695981039346656037 s0) (keyL (xs.take k)))) (fun _ _ i _ => xs.length - (intOf i).toNat)
  case atStart => exact ⟨0, [], Nat.zero_le _, rfl, Below.refl _ _, ⟨rfl, .inl ⟨rfl, rfl⟩⟩, rfl⟩
  case round =>
    obtain ⟨k, l, kx, rfl, hw, hown, rfl⟩ := hrel
    by_cases hx : k < xs.length
    · obtain ⟨g, off, rfl, hg, hW⟩ := (hA.below hw) (by omega)
      obtain ⟨a0, a1, a2, a3, a4⟩ := hW k hx
      obtain ⟨ab, cb, rfl, hcb, hcn⟩ := own_slice hown
      have hown0 := Lib.hid (own_zero hown)
      have hok := ox _ (List.getElem_mem hx)
      have hle := keyL_take_le xs (k + 1)
      rw [keyL_take xs k hx] at hle
      have HT := Lib.hid (keyL_take xs k hx)
      have x0 : (0 : Int) ≤ (k : Int) := by omega
      have x1 : (k : Int) < (xs.length : Int) := by omega
      have x2 : 0 < xs.length := by omega
      have HA := Lib.hid hA
      have HP := Lib.hid (show PowLaid wr from htab.below hw)
      have hsz : w.heap.size ≤ wr.heap.size := hw.size
      clear hA hW
      generalize xs[k] = vx at *
      obtain ⟨vk, vs, vnl, vn, vt⟩ := vx
      simp only at a0 a1 a2 a3 a4
      have hk := hok.k
      have hn := hok.n
      have HL := Lib.hid hle
      clear hle hok
      generalize HH : hashL (bits .xor .u64 14695981039346656037 s0) (keyL (xs.take k)) = h1 at *
      have HC := Lib.hid (fun sv W h1 h2 h3 => appendKey_len w.heap.size 0 sv [] vk vs vnl vn vt W hk hn h1 h2 (by have h1 := HL.out; simp only [List.length_append] at h1; omega) hgB h3)
      go_wp2_with fail
      go_region_with (go_at_call 42; refine (HC.out _ _ (by exact (hown0.out.alloc _)) (by simp; omega) (by exact powLaid_alloc _ HP.out)).mono ?_; rintro e w3 ⟨v3, rfl, hown3, hb3⟩)
      have hown4 : w3.ownsRow w.heap.size 5 1 v3 (keyV ⟨vk, vs, vnl, vn, vt⟩).length (Lib.byteCells (keyV ⟨vk, vs, vnl, vn, vt⟩)) := by simpa using hown3
      have hw3 := Lib.hid (below_tr (below_drew (hw.alloc hsz _)) hb3)
      clear hown3 hb3 HC hown0
      generalize keyV ⟨vk, vs, vnl, vn, vt⟩ = L at *
      obtain ⟨ab3, cb3, rfl, hcb3, hcn3⟩ := own_slice hown4
      have HCE := Lib.hid (own_cells hown4)
      have HO4 := Lib.hid hown4
      have lL : (L.length : Int) ≤ 140737488355328 := by have h1 := HL.out; simp only [List.length_append] at h1; omega
      clear hown4 hown a0 a1 a2 a3 a4
      go_wp2_with fail
      go_loop [5, 25] (fun h i => ∃ j : Nat, j ≤ L.length ∧ i = .int .i64 j ∧ h = .int .u64 (hashL h1 (L.take j))) (fun _ i => L.length - (intOf i).toNat)
      case atStart => exact ⟨0, Nat.zero_le _, rfl, rfl⟩
      case round =>
        obtain ⟨j, kj, rfl, rfl⟩ := hrel
        by_cases hj : j < L.length
        · obtain ⟨g3, rfl, hc3⟩ := HCE.out j hj
          have HTJ := Lib.hid (hashL_take h1 L j hj)
          have y0 : (0 : Int) ≤ (j : Int) := by omega
          have y1 : (j : Int) < (L.length : Int) := by omega
          have y2 : 0 < L.length := by omega
          have hwr : IntKind.u64.wrap (L[j].toNat : Int) = (L[j].toNat : Int) := by rw [IntKind.wrap_u64]; have := L[j].toNat_lt; omega
          generalize (L[j].toNat : Int) = c at *
          generalize hashL h1 (L.take j) = h2 at *
          go_wp2
          go_round
          case rel => exact ⟨j + 1, by omega, by go_num, by rw [HTJ.out]⟩
          case measure => simp [intOf]; omega
        · have hjI : ¬ (j : Int) < (L.length : Int) := by omega
          have hje : j = L.length := by omega
          subst hje
          rw [List.take_length] at *
          go_wp2
          go_roundw
          case rel => exact ⟨k + 1, L, by omega, by go_num, hw3.out, HO4.out, by rw [HT.out, hashL_app, HH]⟩
          case measure => simp [intOf]; omega
    · have hxI : ¬ (k : Int) < (xs.length : Int) := by omega
      have hkx : k = xs.length := by omega
      subst hkx
      rw [List.take_length]
      go_wp2
      go_ret
      exact ⟨rfl, hw⟩
end Go.Proofs.YtogdkhnakenbcaaGreatDoor
