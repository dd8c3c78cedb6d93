/-
  The maths of DiskWhole: how many parts a write has, and what a crash leaves of them.
-/
import Derived.Test.YtdbbghmldaekhaaDMath2
namespace Go.Proofs.Ytdbbghmldaekhaa
set_option linter.unusedVariables false

theorem parts_count (f : Nat) : ∀ (n k : Nat) (b : List UInt8), b.length ≤ n → 0 < b.length → (parts f k b).length = (k + b.length - 1) / 512 - k / 512 + 1
  | 0, k, b, hn, h => by omega
  | n + 1, k, b, hn, h => by
    rw [parts_step f k b h, List.length_cons]
    have hk : k % 512 < 512 := Nat.mod_lt _ (by decide)
    by_cases hm : b.length ≤ 512 - k % 512
    · rw [Nat.min_eq_left hm, List.drop_eq_nil_of_le (Nat.le_refl _), parts_nil]
      simp only [List.length_nil]
      omega
    · rw [Nat.min_eq_right (by omega), parts_count f n _ _ (by rw [List.length_drop]; omega) (by rw [List.length_drop]; omega), List.length_drop]
      omega
/-- Byte by byte: a part is there if the crash has kept it. -/
theorem fold_kept (f : Nat) : ∀ (n k : Nat) (b x : List UInt8) (ks : List Bool), b.length ≤ n → k + b.length ≤ x.length → (foldF f (kept ks (parts f k b)) x).length = x.length ∧ ∀ i, (foldF f (kept ks (parts f k b)) x).getD i 0 = if k ≤ i ∧ i < k + b.length ∧ ks.getD (i / 512 - k / 512) false = true then b.getD (i - k) 0 else x.getD i 0
  | n, k, b, x, [], hn, hx => by
    have : kept [] (parts f k b) = [] := by cases parts f k b <;> rfl
    rw [this]
    refine ⟨rfl, fun i => ?_⟩
    rw [if_neg (by simp)]
    rfl
  | 0, k, b, x, z :: ks, hn, hx => by
    obtain rfl : b = [] := List.length_eq_zero_iff.1 (by omega)
    refine ⟨rfl, fun i => ?_⟩
    rw [if_neg (by simp only [List.length_nil]; omega)]
    rfl
  | n + 1, k, b, x, z :: ks, hn, hx => by
    by_cases h : 0 < b.length
    · rw [parts_step f k b h]
      have hk : k % 512 < 512 := Nat.mod_lt _ (by decide)
      obtain ⟨m, hm⟩ : ∃ m, m = min b.length (512 - k % 512) := ⟨_, rfl⟩
      rw [← hm]
      have hdl : (b.drop m).length = b.length - m := List.length_drop
      have htl : (b.take m).length = m := by rw [List.length_take]; omega
      obtain ⟨y, hy⟩ : ∃ y, y = if z = true then putAt k (b.take m) x else x := ⟨_, rfl⟩
      have hyl : y.length = x.length := by
        rw [hy]
        split
        · rw [putAt_len]; omega
        · rfl
      have hyg : ∀ i, y.getD i 0 = if k ≤ i ∧ i < k + m ∧ z = true then b.getD (i - k) 0 else x.getD i 0 := fun i => by
        rw [hy]
        split
        · next hz =>
          rw [putAt_getD, htl]
          by_cases h1 : k ≤ i ∧ i < k + m
          · rw [if_pos h1, if_pos ⟨h1.1, h1.2, hz⟩, take_getD, if_pos (by omega)]
          · rw [if_neg h1, if_neg (fun h => h1 ⟨h.1, h.2.1⟩)]
        · next hz => rw [if_neg (fun h => hz h.2.2)]
      have hf : foldF f (kept (z :: ks) (⟨f, false, k, b.take m⟩ :: parts f (k + m) (b.drop m))) x = foldF f (kept ks (parts f (k + m) (b.drop m))) y := by
        rw [hy]
        cases z with
        | true =>
          show foldF f (kept ks _) (if f = f then Pc.ap ⟨f, false, k, b.take m⟩ x else x) = _
          rw [if_pos rfl, if_pos rfl]
          rfl
        | false =>
          rw [if_neg (by decide)]
          rfl
      rw [hf]
      obtain ⟨i1, i2⟩ := fold_kept f n (k + m) (b.drop m) y ks (by omega) (by omega)
      refine ⟨i1.trans hyl, fun i => ?_⟩
      rw [i2 i, hyg i, hdl, drop_getD]
      by_cases h1 : k ≤ i ∧ i < k + b.length
      · by_cases h2 : i < k + m
        · have e : i / 512 - k / 512 = 0 := by omega
          rw [if_neg (by omega), e]
          simp only [List.getD_cons_zero]
          by_cases hz : z = true
          · rw [if_pos ⟨h1.1, h2, hz⟩, if_pos ⟨h1.1, h1.2, hz⟩]
          · rw [if_neg (fun h => hz h.2.2), if_neg (fun h => hz h.2.2)]
        · have hmm : m = 512 - k % 512 := by omega
          have e : i / 512 - k / 512 = (i / 512 - (k + m) / 512) + 1 := by omega
          rw [e, List.getD_cons_succ]
          have e2 : m + (i - (k + m)) = i - k := by omega
          rw [e2]
          by_cases hz : ks.getD (i / 512 - (k + m) / 512) false = true
          · rw [if_pos ⟨by omega, by omega, hz⟩, if_pos ⟨h1.1, h1.2, hz⟩]
          · rw [if_neg (fun h => hz h.2.2), if_neg (fun h => h2 h.2.1), if_neg (fun h => hz h.2.2)]
      · rw [if_neg (fun h => h1 ⟨by omega, by omega⟩), if_neg (fun h => h1 ⟨h.1, by omega⟩), if_neg (fun h => h1 ⟨h.1, h.2.1⟩)]
    · obtain rfl : b = [] := List.length_eq_zero_iff.1 (by omega)
      refine ⟨rfl, fun i => ?_⟩
      rw [if_neg (by simp only [List.length_nil]; omega)]
      rfl
end Go.Proofs.Ytdbbghmldaekhaa
