/-
  Of pager: numbers as bytes, the least significant one first, and back (the program's little and number, the document's little).
-/
import Derived.Test.YtellmmgiabfacaaPSum
import Derived.Test.YtellmmgiabfacaaEDone
import Derived.Deep.OwnRows
namespace Go.Proofs.Ytellmmgiabfacaa
open Go.ChangeShapes Go.WideShapes Go.ChangeAt Go.RowKit Go.Deep
set_option linter.unusedVariables false

/-- The k lowest bytes of a number. -/
def leB (n : Nat) : Nat → List UInt8
  | 0 => []
  | k + 1 => leB n k ++ [UInt8.ofNat (n / 256 ^ k)]
theorem leB_len (n k : Nat) : (leB n k).length = k := by
  induction k with
  | zero => rfl
  | succ k ih => simp [leB, ih]
theorem u8_nat (n : Nat) : ((UInt8.ofNat n).toNat : Int) = (n : Int) % 256 := by
  rw [UInt8.toNat_ofNat']
  omega
theorem OwnB.made (w : World) (n : Nat) (hn : n ≤ 4194304) : OwnB (w.alloc (.cells (madeCells #[.int .u8 0] n) 5)) w.heap.size (.slice (some ⟨w.heap.size, 0, none⟩) n n) (List.replicate n 0) := by
  unfold OwnB
  rw [List.length_replicate]
  refine ⟨by simp [Lib.byteCells], .inr ⟨w.heap.size, n, _, by simp, Nat.le_refl _, heap_alloc_new w _, by simp, by unfold maxLen; omega, ?_, ?_⟩⟩
  · unfold madeCells; simp
  · unfold madeCells
    apply List.ext_getElem?
    intro i
    simp [List.getElem?_take, List.getElem?_replicate, Lib.byteCells]
    split
    · next h => rw [List.getElem?_range h]; simp [Nat.mod_one]
    · rfl
set_option maxHeartbeats 3200000 in
set_option maxRecDepth 100000 in
theorem little_any (m k : Nat) (w : World) (hm : m < 4294967296) (hk : k = 2 ∨ k = 4) : Calls Try.prog 52 #[.int .u32 m, .int .i64 k] w (Made (leB m k) w) := by
  have hm0 : (0 : Int) ≤ (m : Int) := by omega
  have hk4 : k ≤ 4 := by omega
  have hkI : (k : Int) ≤ 4 := by omega
  have hk0 : (0 : Int) ≤ (k : Int) := by omega
  have hmk := run_make_row' (P := Try.prog) 23 5 (.int .u8 0) 1 Try.underlying23 byteInfo rfl .i64 .i64 k (by omega) (by omega)
  have HM := Lib.hid hm
  clear hm
  go_enter Try.func52, Try.ntmps52
  go_wp2_with fail
  have HO := Lib.hid (OwnB.made w k (by omega))
  have HB := Lib.hid (alloc_below w (.cells (madeCells #[.int .u8 0] k) 5))
  clear hmk
  generalize w.alloc (.cells (madeCells #[.int .u8 0] k) 5) = w1 at *
  obtain ⟨q, hq⟩ : ∃ q, q = w.heap.size := ⟨_, rfl⟩
  go_loopw [11] (fun idx wr => ∃ i : Nat, i ≤ k ∧ idx = .int .i64 (i : Int) ∧ OwnB wr w.heap.size (.slice (some ⟨w.heap.size, 0, none⟩) k k) (leB m i ++ List.replicate (k - i) 0) ∧ Below w.heap.size w wr) (fun idx _ => k - (intOf idx).toNat)
  case atStart => exact ⟨0, by omega, rfl, HO.out, HB.out⟩
  case round =>
    clear HO HB
    obtain ⟨i, hi, rfl, hown, hb⟩ := hrel
    have HB := Lib.hid hb
    have hlen : (leB m i ++ List.replicate (k - i) (0 : UInt8)).length = k := by rw [List.length_append, leB_len, List.length_replicate]; omega
    clear hb
    by_cases hik : i < k
    · obtain ⟨g, e, hg1, hg2, hfz, ⟨z, hz⟩, hput, hfr⟩ := hown.put hlen.symm i hik (UInt8.ofNat (m / 256 ^ i))
      obtain rfl : w.heap.size = g := by simpa using e
      have hnew : (leB m i ++ List.replicate (k - i) (0 : UInt8)).set i (UInt8.ofNat (m / 256 ^ i)) = leB m (i + 1) ++ List.replicate (k - (i + 1)) 0 := by
        have h1 : k - i = (k - (i + 1)) + 1 := by omega
        rw [h1, List.replicate_succ, List.set_append_right _ _ (by rw [leB_len]; exact Nat.le_refl _), leB_len, Nat.sub_self]
        simp [leB]
      rw [hnew] at hput
      obtain ⟨V, hV⟩ : ∃ V : Int, V = ((UInt8.ofNat (m / 256 ^ i)).toNat : Int) := ⟨_, rfl⟩
      have hV2 := hV
      rw [u8_nat] at hV2
      rw [← hV] at hput hfr
      have HP := Lib.hid hput
      have HB2 := Lib.hid (below_tr HB.out (hfr.below (B := w.heap.size) (fun k hk => by omega) (by omega)))
      have hikI : (i : Int) < (k : Int) := by omega
      clear hown hput hfr hnew hlen e hV
      rcases (by omega : i = 0 ∨ i = 1 ∨ i = 2 ∨ i = 3) with rfl | rfl | rfl | rfl
      · have he : (m : Int) % 256 = V := by rw [hV2]; simp
        clear hV2
        go_wp2_with fail
        exact ⟨⟨1, hik, rfl, HP.out, HB2.out⟩, by simp only [intOf]; omega⟩
      · have he : (m : Int) / 256 % 256 = V := by rw [hV2]; omega
        clear hV2
        go_wp2_with fail
        exact ⟨⟨2, hik, rfl, HP.out, HB2.out⟩, by simp only [intOf]; omega⟩
      · have he : (m : Int) / 65536 % 256 = V := by rw [hV2]; omega
        clear hV2
        go_wp2_with fail
        exact ⟨⟨3, hik, rfl, HP.out, HB2.out⟩, by simp only [intOf]; omega⟩
      · have he : (m : Int) / 16777216 % 256 = V := by rw [hV2]; omega
        clear hV2
        go_wp2_with fail
        exact ⟨⟨4, hik, rfl, HP.out, HB2.out⟩, by simp only [intOf]; omega⟩
    · obtain rfl : i = k := by omega
      have HO2 := Lib.hid hown
      clear hown hlen
      go_wp2_with fail
      go_ret
      have h := HO2.out
      rw [Nat.sub_self, List.replicate_zero, List.append_nil] at h
      exact Made.mk (leB_len m i).symm h (Nat.le_refl _) HB.out
/-- The number that bytes are, the least significant one first. -/
def leN : List UInt8 → Nat
  | [] => 0
  | c :: l => c.toNat + 256 * leN l
theorem or_sum (a b i : Nat) (h : a < 2 ^ i) : a ||| (b * 2 ^ i) = a + b * 2 ^ i := by
  have := Nat.two_pow_add_eq_or_of_lt h b
  rw [Nat.mul_comm b, Nat.or_comm, ← this, Nat.add_comm]
theorem leN_lt (l : List UInt8) : leN l < 256 ^ l.length := by
  induction l with
  | nil => decide
  | cons c l ih =>
    have := c.toNat_lt
    rw [leN, List.length_cons, Nat.pow_succ]
    omega
theorem leN_app (l m : List UInt8) : leN (l ++ m) = leN l + 256 ^ l.length * leN m := by
  induction l with
  | nil => simp [leN]
  | cons c l ih =>
    rw [List.cons_append, leN, leN, ih, List.length_cons, Nat.pow_succ, Nat.mul_add, Nat.mul_comm (256 ^ l.length) 256, ← Nat.mul_assoc, Nat.add_assoc]
theorem leN_take (l : List UInt8) (i : Nat) (h : i < l.length) : leN (l.take (i + 1)) = leN (l.take i) + l[i].toNat * 256 ^ i := by
  rw [List.take_succ_eq_append_getElem h, leN_app, List.length_take, Nat.min_eq_left (Nat.le_of_lt h)]
  simp [leN, Nat.mul_comm]
theorem or_le (v i p : Nat) (y : UInt8) (hv : v < 256 ^ i) (hi : i < 4) (hp : p = 256 ^ i) : bits .or .u32 (v : Int) ((y.toNat : Int) * (p : Int)) = ((v + y.toNat * 256 ^ i : Nat) : Int) := by
  subst hp
  have hy := y.toNat_lt
  have h1 : 256 ^ i = 2 ^ (8 * i) := by rw [Nat.pow_mul]
  have h3 : 256 ^ i ≤ 256 ^ 3 := Nat.pow_le_pow_right (by decide) (by omega)
  have h4 : y.toNat * 256 ^ i ≤ 255 * 256 ^ 3 := Nat.mul_le_mul (by omega) h3
  have h5 : (256 : Nat) ^ 3 = 16777216 := by decide
  rw [← Int.natCast_mul, u32_or_nat v _ (by omega) (by omega), h1, or_sum _ _ _ (by rw [← h1]; exact hv)]
set_option maxHeartbeats 3200000 in
set_option maxRecDepth 100000 in
theorem number_any (A : Option Addr) (c n : Nat) (l : List UInt8) (w : World) (hA : BRd w A l) (hn : n = l.length) (h4 : n ≤ 4) : Calls Try.prog 57 #[.slice A n c] w fun e w' => e = .returned (.int .u32 (leN l : Nat)) ∧ w = w' := by
  have hnI : (n : Int) ≤ 4 := by omega
  have HN := Lib.hid hn
  have HA := Lib.hid hA
  clear hA hn
  go_enter Try.func57, Try.ntmps57
  go_wp2_with fail
  go_loopw [3, 8] (fun v idx wr => ∃ i : Nat, i ≤ n ∧ idx = .int .i64 (i : Int) ∧ v = .int .u32 (leN (l.take i) : Nat) ∧ wr = w) (fun _ idx _ => n - (intOf idx).toNat)
  case atStart => exact ⟨0, by omega, rfl, rfl, rfl⟩
  case round =>
    obtain ⟨i, hi, rfl, rfl, rfl⟩ := hrel
    by_cases hin : i < n
    · have hil : i < l.length := by rw [← HN.out]; exact hin
      obtain ⟨g, o, rfl, hg, hc⟩ := HA.out (by omega)
      have hci := hc i hil
      have hst := leN_take l i hil
      have hlt := leN_lt (l.take i)
      rw [List.length_take, Nat.min_eq_left (by omega)] at hlt
      have hor := or_le (leN (l.take i)) i (256 ^ i) l[i] hlt (by omega) rfl
      rw [← hst] at hor
      have HY := Lib.hid (l[i].toNat_lt)
      have hinI : (i : Int) < (n : Int) := by omega
      obtain ⟨V2, hV2⟩ : ∃ V2, V2 = leN (l.take (i + 1)) := ⟨_, rfl⟩
      obtain ⟨V1, hV1⟩ : ∃ V1, V1 = leN (l.take i) := ⟨_, rfl⟩
      rw [← hV1] at hor hst hlt ⊢
      rw [← hV2] at hor hst
      have HV2 := Lib.hid hV2
      have hy0 : (0 : Int) ≤ (l[i].toNat : Int) := by omega
      have hy1 : (l[i].toNat : Int) ≤ 255 := by have := HY.out; omega
      generalize (l[i].toNat : Int) = Y at *
      clear hc hst hlt HY hil hV1 hV2
      rcases (by omega : i = 0 ∨ i = 1 ∨ i = 2 ∨ i = 3) with rfl | rfl | rfl | rfl
      · have ho : bits .or .u32 (V1 : Int) Y = (V2 : Int) := by simpa using hor
        simp only [Nat.add_zero] at hci
        clear hor
        go_wp2_with fail
        exact ⟨⟨1, hin, rfl, by rw [← HV2.out], trivial⟩, by simp only [intOf]; omega⟩
      · have ho : bits .or .u32 (V1 : Int) (Y * 256) = (V2 : Int) := by simpa using hor
        clear hor
        go_wp2_with fail
        exact ⟨⟨2, hin, rfl, by rw [← HV2.out], trivial⟩, by simp only [intOf]; omega⟩
      · have ho : bits .or .u32 (V1 : Int) (Y * 65536) = (V2 : Int) := by simpa using hor
        clear hor
        go_wp2_with fail
        exact ⟨⟨3, hin, rfl, by rw [← HV2.out], trivial⟩, by simp only [intOf]; omega⟩
      · have ho : bits .or .u32 (V1 : Int) (Y * 16777216) = (V2 : Int) := by simpa using hor
        clear hor
        go_wp2_with fail
        exact ⟨⟨4, hin, rfl, by rw [← HV2.out], trivial⟩, by simp only [intOf]; omega⟩
    · obtain rfl : i = n := by omega
      go_wp2_with fail
      go_ret
      rw [HN.out, List.take_length]
      exact ⟨rfl, rfl⟩
set_option maxHeartbeats 3200000 in
set_option maxRecDepth 100000 in
theorem rlittle_any (m k : Nat) (w : World) (hm : m < 18446744073709551616) (hk : k ≤ 8) : Calls Try.prog 54 #[.int .u64 m, .int .i64 k] w (Made (leB m k) w) := by
  have HM := Lib.hid hm
  have hkI : (k : Int) ≤ 8 := by omega
  have hk0 : (0 : Int) ≤ (k : Int) := by omega
  clear hm
  go_enter Try.func54, Try.ntmps54
  go_wp2_with fail
  go_loopw [0, 5, 6] (fun x b idx wr => ∃ (i : Nat) (X : Nat), i ≤ k ∧ idx = .int .i64 (i : Int) ∧ X = m / 256 ^ i ∧ x = .int .u64 (X : Int) ∧ OwnB wr w.heap.size b (leB m i) ∧ Below w.heap.size w wr) (fun _ _ idx _ => k - (intOf idx).toNat)
  case atStart => exact ⟨0, m, by omega, rfl, by simp, rfl, OwnB.nil _ _, Below.refl _ _⟩
  case round =>
    obtain ⟨i, X, hi, rfl, hX, rfl, hown, hb⟩ := hrel
    obtain ⟨a1, c1, rfl, hc1, -⟩ := hown.slice
    rw [leB_len] at hown hc1 ⊢
    have HO := Lib.hid hown
    have HB := Lib.hid hb
    have HX := Lib.hid hX
    have hX0 : (0 : Int) ≤ (X : Int) := by omega
    have hBr : w.heap.size ≤ wr.heap.size := hb.size
    by_cases hik : i < k
    · have hikI : (i : Int) < (k : Int) := by omega
      obtain ⟨V, hV⟩ : ∃ V : Int, V = ((UInt8.ofNat (m / 256 ^ i)).toNat : Int) := ⟨_, rfl⟩
      have hV2 : (X : Int) % 256 = V := by rw [hV, u8_nat, hX]
      have HV := Lib.hid hV
      clear hown hb hX hV
      go_wp2_with (at_builtin; refine wpList_byte rfl _ _ rfl w.heap.size (.slice a1 i c1) (leB m i) (UInt8.ofNat (m / 256 ^ i)) HV.out rfl rfl HO.out hBr (by rw [leB_len]; omega) ?_; intro v2 w2 hown2 hg2; refine Hid.out ?_)
      refine Lib.hid ?_
      have HO2 := Lib.hid hown2
      have HB2 := Lib.hid (below_tr HB.out (hg2.below HO.out hBr))
      clear hown2 hg2
      go_wp2_with fail
      exact ⟨⟨i + 1, X / 256, hik, rfl, by rw [HX.out, Nat.pow_succ, Nat.div_div_eq_div_mul], congrArg (Value.int .u64) (by omega), HO2.out, HB2.out⟩, by simp only [intOf]; omega⟩
    · obtain rfl : i = k := by omega
      clear hown hb hX
      go_wp2_with fail
      go_ret
      exact Made.mk (leB_len m i).symm HO.out hc1 HB.out
end Go.Proofs.Ytellmmgiabfacaa
