/-
  A slice of values out of memory.
-/
import Derived.Test.YtogdkhnakenbcaaGreatDoorVOpen
import Derived.Deep.Slices
import Derived.Carry
namespace Go.Proofs.YtogdkhnakenbcaaGreatDoor
open Go.ChangeShapes Go.WideShapes Go.ChangeAt Go.RowKit Go.Deep
set_option linter.unusedVariables false

/-- Behind the address lie these values, one behind the other. -/
def VRd (w : World) (A : Option Addr) (xs : List VR) : Prop := 0 < xs.length → ∃ g off, A = some ⟨g, off, none⟩ ∧ g < w.heap.size ∧ ∀ i (h : i < xs.length),
  w.cell? ⟨g, off + i * 5, none⟩ = some (.int .i64 xs[i].k) ∧ w.cell? ⟨g, off + i * 5 + 1, none⟩ = some (.int .i64 xs[i].s) ∧ w.cell? ⟨g, off + i * 5 + 2, none⟩ = some (.bool xs[i].nl) ∧ w.cell? ⟨g, off + i * 5 + 3, none⟩ = some (.int .i64 xs[i].n) ∧ w.cell? ⟨g, off + i * 5 + 4, none⟩ = some (.string xs[i].t)
theorem VRd.below {w w' : World} {A : Option Addr} {xs : List VR} (h : VRd w A xs) (hb : Below w.heap.size w w') : VRd w' A xs := fun hn => by
  obtain ⟨g, off, hA, hg, hc⟩ := h hn
  refine ⟨g, off, hA, Nat.lt_of_lt_of_le hg hb.size, fun i hi => ?_⟩
  obtain ⟨c0, c1, c2, c3, c4⟩ := hc i hi
  have e := (bcell hb).1
  rw [e _ _ hg, e _ _ hg, e _ _ hg, e _ _ hg, e _ _ hg]
  exact ⟨c0, c1, c2, c3, c4⟩

theorem list_of {α : Type} (Q : Nat → α → Prop) : ∀ n, (∀ i, i < n → ∃ a, Q i a) → ∃ xs : List α, xs.length = n ∧ ∀ i (h : i < xs.length), Q i xs[i]
  | 0, _ => ⟨[], rfl, fun i h => by cases h⟩
  | n + 1, H => by
    obtain ⟨xs, hl, hx⟩ := list_of Q n fun i hi => H i (by omega)
    obtain ⟨a, ha⟩ := H n (by omega)
    refine ⟨xs ++ [a], by simp [hl], fun i hi => ?_⟩
    by_cases h : i < xs.length
    · rw [List.getElem_append_left h]; exact hx i h
    · obtain rfl : i = n := by simp [hl] at hi h; omega
      rw [List.getElem_append_right (by omega)]
      simpa [hl] using ha
theorem cell_spot {w : World} {a : Addr} {v : Value} (h : w.cell? a = some v) : a = ⟨a.block, a.off, none⟩ ∧ a.block < w.heap.size := by
  unfold World.cell? at h
  split at h
  · rename_i hb
    split at h
    · cases h
    · rename_i hs
      refine ⟨?_, (Array.getElem?_eq_some_iff.1 hb).1⟩
      obtain ⟨b, o, s⟩ := a
      cases s <;> simp_all
  · cases h

set_option maxRecDepth 100000 in
theorem open_vals {H : Type} {enc : TypeId × Value → H} {W : World} {base : Nat} {v : Value} {d : DataW H} {p : List MemPlace}
    (hv : Value.okWide Tryz.prog W .any base 32 v) (h : DataW.Trod enc Tryz.prog W 0 (fun _ => true) true 32 v d p) :
    ∃ (A : Option Addr) (cap : Nat) (xs : List VR), v = .slice A xs.length cap ∧ VRd W A xs ∧ (∀ x ∈ xs, x.Ok) ∧ xs.length ≤ maxLen := by
  obtain ⟨a0, len, cap, rfl⟩ := okWide_slice Tryz.underlying32 hv
  obtain ⟨fuel, hf⟩ := h
  rcases open_slice Tryz.underlying32 hf with ⟨hcs, hx⟩ | ⟨a, len', cap', m, n, D, Pl, hcs, hb, hl, hm, hmm, hx, hi⟩
  · simp [Value.cells] at hcs
    obtain ⟨rfl, rfl, rfl⟩ := hcs
    exact ⟨none, 0, [], rfl, fun h => by simp at h, fun p hp => by simp at hp, by simp⟩
  · simp [Value.cells] at hcs
    obtain ⟨rfl, rfl, rfl⟩ := hcs
    simp only [if_true] at hmm
    rw [cellsV] at hi
    obtain ⟨xs, hxl, hxs⟩ := list_of (fun i (q : VR) => q.Ok ∧ W.cell? (a.add (i * 5)) = some (.int .i64 q.k) ∧ W.cell? ((a.add (i * 5)).add 1) = some (.int .i64 q.s) ∧ W.cell? ((a.add (i * 5)).add 2) = some (.bool q.nl) ∧ W.cell? ((a.add (i * 5)).add 3) = some (.int .i64 q.n) ∧ W.cell? ((a.add (i * 5)).add 4) = some (.string q.t)) len fun i hil => by
      obtain ⟨cs', hc, ht'⟩ := hi i (by omega)
      obtain ⟨q, hq, ho⟩ := val_of_cells ht'
      obtain ⟨_, hcl, hat⟩ := World.cells?_some hc
      subst hq
      refine ⟨q, ho, ?_, ?_, ?_, ?_, ?_⟩
      · have h0 : (a.add (i * 5)).add 0 = a.add (i * 5) := if_pos rfl
        have h1 := hat 0 (by omega)
        rw [h0] at h1
        exact h1
      · exact hat 1 (by omega)
      · exact hat 2 (by omega)
      · exact hat 3 (by omega)
      · exact hat 4 (by omega)
    refine ⟨some a, cap, xs, by rw [hxl], fun hn => ?_, fun q hq => ?_, by omega⟩
    · have h0 := (hxs 0 hn).2.1
      have hs := cell_spot (by simpa [Addr.add] using h0)
      have e : ∀ j, a.add j = ⟨a.block, a.off + j, none⟩ := fun j => by
        unfold Addr.add
        split
        · rename_i hj; subst hj; exact hs.1
        · rfl
      have e2 : ∀ (o j : Nat), (⟨a.block, o, none⟩ : Addr).add j = ⟨a.block, o + j, none⟩ := fun o j => by
        unfold Addr.add
        split
        · rename_i hj; subst hj; rfl
        · rfl
      refine ⟨a.block, a.off, by rw [← hs.1], hs.2, fun i hil => ?_⟩
      have h1 := (hxs i hil).2
      rw [e, e2, e2, e2, e2] at h1
      exact h1
    · obtain ⟨i, hil, rfl⟩ := List.getElem_of_mem hq
      exact (hxs i hil).1
end Go.Proofs.YtogdkhnakenbcaaGreatDoor
