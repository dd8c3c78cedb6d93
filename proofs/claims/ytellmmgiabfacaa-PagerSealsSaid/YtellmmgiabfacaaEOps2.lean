/-
  The document's disk: SetFuse, Size, Read.
-/
import Derived.Test.YtellmmgiabfacaaEOps
import Derived.Test.YtellmmgiabfacaaDFuse
namespace Go.Proofs.Ytellmmgiabfacaa
open Go.ChangeShapes Go.WideShapes Go.ChangeAt Go.RowKit
set_option linter.unusedVariables false

/-- What is read, and what is new. -/
def More (R : Nat → Prop) (w w' : World) : Nat → Prop := fun j => R j ∨ w.heap.size ≤ j ∧ j < w'.heap.size
theorem RTurn.more {w w' : World} {g : Nat} {pc : Value} {R : Nat → Prop} (h : Below w.heap.size w w') : RTurn w w' g pc R pc (More R w w') := ⟨.of_below h, fun _ _ h => h, fun j hj hd => hd.elim id fun hd => by omega⟩
theorem run_copyb (w : World) (ty : TypeId) (A : Option Addr) (c : Nat) (l : List Bool) (hA : KRd w A l) (hlim : l.length ≤ 140737488355328) :
    ∃ a k w', (Builtin.append_ #[25, 25] ty #[.slice none 0 0, .slice A l.length c]).run Try.prog w = .ok (.slice a l.length k) w' ∧ w'.ownsRow w.heap.size 4 1 (.slice a l.length k) l.length (l.map Value.bool) ∧ Below w.heap.size w w' := by
  obtain ⟨i, hi, hz, hs, hbb⟩ := info_parts boolInfo
  have ht := Try.underlying25
  by_cases h0 : 0 < l.length
  · obtain ⟨g, off, rfl, hg, hc⟩ := hA h0
    obtain ⟨v', w', h1, h2, h3, _⟩ := run_append_own (P := Try.prog) w w.heap.size 25 ty 4 i (.bool false) 1 1 ht hi hz hs hbb rfl (by decide) (.slice none 0 0) 0 [] (World.ownsRow_nil _ _ _ _) ⟨g, off, none⟩ l.length c (l.map Value.bool) (by simp) (fun j u hj => by
      rw [List.getElem?_map] at hj
      have hj' : j < l.length := by
        rcases Nat.lt_or_ge j l.length with h | h
        · exact h
        · rw [List.getElem?_eq_none h] at hj; cases hj
      rw [List.getElem?_eq_getElem hj'] at hj
      rw [Go.WideShapes.add_plain, hc j hj']
      exact hj) (fun u hu => by simp at hu; rcases hu with ⟨_, rfl⟩ | ⟨_, rfl⟩ <;> rfl) (by unfold maxLen; omega) (by omega) (Nat.le_refl _)
    rw [Nat.zero_add, List.nil_append] at h2
    obtain ⟨a', k', rfl⟩ : ∃ a' k', v' = .slice a' l.length k' := by
      rcases h2.2 with ⟨_, h9⟩ | ⟨q, cap, cur, hv, _⟩
      · omega
      · exact ⟨_, _, hv⟩
    exact ⟨a', k', w', h1, h2, (Below.refl _ w).grown h3 (Nat.le_refl _) fun k hk => by simp [Value.ownBlock] at hk⟩
  · obtain rfl : l = [] := List.length_eq_zero_iff.1 (by omega)
    refine ⟨none, 0, w, ?_, World.ownsRow_nil _ _ _ _, Below.refl _ _⟩
    cases A <;> simp [Builtin.append_, run_underlying ht, sizeOf, typeInfo, hi, Builtin.lenOf, Builtin.firstCells, loadCells, loadCellsFrom]
theorem wpList_copyb {w : World} {ops : Array Oper} {rest : List Oper} {o : Oper} {a : Act} {Q : Exit → Act → World → Prop} (hgd : o.guard = none) (s x : Operand)
    (ho : o.op = .call { callee := .builtin .append, args := #[s, x], argTypes := #[25, 25] }) (A : Option Addr) (n c : Nat) (l : List Bool) (hs : a.eval s = .slice none 0 0) (hx : a.eval x = .slice A n c) (hn : n = l.length) (hA : KRd w A l) (hlim : l.length ≤ 140737488355328)
    (h : ∀ p k w', w'.ownsRow w.heap.size 4 1 (.slice p l.length k) l.length (l.map Value.bool) → Below w.heap.size w w' → wpList Try.prog ops Q rest (a.put o.dst (.slice p l.length k)) w') : wpList Try.prog ops Q (o :: rest) a w := by
  subst hn
  refine wpList_plain hgd fun _ hK => ?_
  obtain ⟨p, k, w', hr, h2, h3⟩ := run_copyb w o.type A c l hA hlim
  unfold Oper.wp execOp
  simp only [ho, resolve, invoke, builtin, Sem.run_bind, Sem.run_pure, Result.andThen_ok, List.map_toArray, List.map_cons, List.map_nil, hs, hx, hr]
  exact hK _ _ (h _ _ _ h2 h3)
/-- What Read answers. -/
def RRead (x : List UInt8 × Int) (w : World) (e : Ending) (w' : World) : Prop := ∃ a n k, e = .returned (.tuple #[.slice a n k, .int .i64 x.2]) ∧ n = x.1.length ∧ BRd w' a x.1 ∧ Below w.heap.size w w'
theorem brd_cut {w : World} {a A' : Option Addr} {L : List UInt8} {m j cap : Nat} (h : BRd w a L) (hm : m ≤ L.length) (hj : j ≤ L.length - m) (hc : L.length ≤ cap) (hA' : (A' = a ∧ cap = m) ∨ A' = a.map (fun x => x.add m)) : BRd w A' ((L.drop m).take j) := by
  have hlj : ((L.drop m).take j).length = j := by simp; omega
  rcases hA' with ⟨rfl, hcm⟩ | rfl
  · intro h0
    rw [hlj] at h0
    omega
  · intro h0
    have hb0 : 0 < L.length := by rw [hlj] at h0; omega
    obtain ⟨q, o, rfl, -⟩ := h hb0
    have := h.sub m j
    rw [Option.map_some, Go.WideShapes.add_plain]
    exact this h0
end Go.Proofs.Ytellmmgiabfacaa
