/-
  The document's disk: what a piece does to bytes (done); a copy of bytes by append.
-/
import Derived.Test.YtellmmgiabfacaaDSmall
import Derived.Test.YtellmmgiabfacaaDMath2
namespace Go.Proofs.Ytellmmgiabfacaa
open Go.ChangeShapes Go.WideShapes Go.ChangeAt Go.RowKit
set_option linter.unusedVariables false

theorem run_copy8 (w : World) (ty : TypeId) (A : Option Addr) (c : Nat) (l : List UInt8) (hA : BRd w A l) (hlim : l.length ≤ 140737488355328) :
    ∃ v' w', (Builtin.append_ #[23, 23] ty #[.slice none 0 0, .slice A l.length c]).run Try.prog w = .ok v' w' ∧ OwnB w' w.heap.size v' l ∧ Below w.heap.size w w' := by
  obtain ⟨i, hi, hz, hs, hbb⟩ := info_parts byteInfo
  have ht := Try.underlying23
  by_cases h0 : 0 < l.length
  · obtain ⟨g, off, rfl, hg, hc⟩ := hA h0
    have hl0 : (Lib.byteCells l).length = l.length * i.size := by rw [hs, Nat.mul_one]; simp [Lib.byteCells]
    obtain ⟨v', w', h1, h2, h3, _⟩ := run_append_own (P := Try.prog) w w.heap.size 23 ty 5 i (.int .u8 0) 1 1 ht hi hz hs hbb rfl (by decide) (.slice none 0 0) 0 [] (World.ownsRow_nil _ _ _ _) ⟨g, off, none⟩ l.length c (Lib.byteCells l) (by simp [Lib.byteCells]) (fun j u hj => by
      obtain ⟨hj', rfl⟩ := byteCells_get hj
      rw [Go.WideShapes.add_plain, hc j hj']) (fun u hu => by simp [Lib.byteCells] at hu; obtain ⟨c, _, rfl⟩ := hu; rfl) (by unfold maxLen; omega) (by omega) (Nat.le_refl _)
    refine ⟨v', w', h1, ?_, (Below.refl _ w).grown h3 (Nat.le_refl _) fun k hk => by simp [Value.ownBlock] at hk⟩
    rw [Nat.zero_add, List.nil_append] at h2
    exact h2
  · obtain rfl : l = [] := List.length_eq_zero_iff.1 (by omega)
    refine ⟨.slice none 0 0, w, ?_, OwnB.nil _ _, Below.refl _ _⟩
    cases A <;> simp [Builtin.append_, run_underlying ht, sizeOf, typeInfo, hi, Builtin.lenOf, Builtin.firstCells, loadCells, loadCellsFrom]
theorem wpList_copy8 {w : World} {ops : Array Oper} {rest : List Oper} {o : Oper} {a : Act} {Q : Exit → Act → World → Prop} (hgd : o.guard = none) (s x : Operand)
    (ho : o.op = .call { callee := .builtin .append, args := #[s, x], argTypes := #[23, 23] }) (A : Option Addr) (n c : Nat) (l : List UInt8) (hs : a.eval s = .slice none 0 0) (hx : a.eval x = .slice A n c) (hn : n = l.length) (hA : BRd w A l) (hlim : l.length ≤ 140737488355328)
    (h : ∀ v' w', OwnB w' w.heap.size v' l → Below w.heap.size w w' → wpList Try.prog ops Q rest (a.put o.dst v') w') : wpList Try.prog ops Q (o :: rest) a w := by
  subst hn
  refine wpList_plain hgd fun _ hK => ?_
  obtain ⟨v', w', hr, h2, h3⟩ := run_copy8 w o.type A c l hA hlim
  unfold Oper.wp execOp
  simp only [ho, resolve, invoke, builtin, Sem.run_bind, Sem.run_pure, Result.andThen_ok, List.map_toArray, List.map_cons, List.map_nil, hs, hx, hr]
  exact hK _ _ (h _ _ h2 h3)

/-- A piece, as the document's. -/
def PV.agg (q : PV) : Value := .agg #[.int .i64 q.p.file, .bool q.p.cut, .int .i64 q.p.pos, .slice q.A q.p.b.length q.c]
/-- What a call leaves that makes bytes. -/
def Made (l : List UInt8) (w : World) (e : Ending) (w' : World) : Prop := ∃ a k, e = .returned (.slice a l.length k) ∧ OwnB w' w.heap.size (.slice a l.length k) l ∧ l.length ≤ k ∧ Below w.heap.size w w'
theorem Made.mk {l : List UInt8} {w w' : World} {a : Option Addr} {n k : Nat} (hn : n = l.length) (ho : OwnB w' w.heap.size (.slice a n k) l) (hk : n ≤ k) (hb : Below w.heap.size w w') : Made l w (.returned (.slice a n k)) w' := by
  subst hn
  exact ⟨a, k, rfl, ho, hk, hb⟩
def lenE : Value → Nat
  | .slice _ n _ => n
  | _ => 0
theorem OwnB.lenE {w : World} {B : Nat} {v : Value} {l : List UInt8} (h : OwnB w B v l) : lenE v = l.length := by
  obtain ⟨a, cap, rfl, _, _⟩ := h.slice
  rfl
theorem OwnB.low {w : World} {B B' : Nat} {v : Value} {l : List UInt8} (h : OwnB w B v l) (hb : B' ≤ B) : OwnB w B' v l := by
  refine ⟨h.1, ?_⟩
  rcases h.2 with h2 | ⟨g, cap, cur, hv, hg, rest⟩
  · exact .inl h2
  · exact .inr ⟨g, cap, cur, hv, Nat.le_trans hb hg, rest⟩
theorem own_cutB {w : World} {B : Nat} {a : Option Addr} {cap : Nat} {l : List UInt8} (h : OwnB w B (.slice a l.length cap) l) (n : Nat) : OwnB w B (.slice a (min n l.length) cap) (l.take n) := by
  have h0 := own_cut (h.low (Nat.zero_le _)) n
  refine ⟨h0.1, ?_⟩
  rcases h0.2 with h2 | ⟨g, cap', cur, hv, hb, rest⟩
  · exact .inl h2
  · refine .inr ⟨g, cap', cur, hv, ?_, rest⟩
    obtain ⟨rfl, rfl⟩ : a = some ⟨g, 0, none⟩ ∧ cap = cap' := by
      simp only [Value.slice.injEq] at hv
      exact ⟨hv.1, hv.2.2⟩
    exact (World.ownsRow.lt h g rfl).1
theorem putAt_grown (k : Nat) (b l : List UInt8) : putAt k b (pad (k + b.length) l) = putAt k b l := by
  unfold putAt
  rw [pad_id (n := k + b.length) (l := pad (k + b.length) l) (by rw [pad_len]; omega)]
theorem pad_more {n : Nat} {l : List UInt8} (h : l.length ≤ n) : pad (n + 1) l = pad n l ++ [0] := by
  unfold pad
  rw [show n + 1 - l.length = (n - l.length) + 1 by omega, List.replicate_succ', List.append_assoc]
theorem putAt_step (k i : Nat) (b l : List UInt8) (hi : i < b.length) (hl : k + b.length ≤ l.length) : putAt k (b.take (i + 1)) l = (putAt k (b.take i) l).set (k + i) b[i] := by
  apply List.ext_getElem?
  intro j
  have h1 : (b.take (i + 1)).length = i + 1 := by simp; omega
  have h2 : (b.take i).length = i := by simp; omega
  have h3 : (putAt k (b.take i) l).length = l.length := by rw [putAt_len, h2]; omega
  have h4 : (putAt k (b.take (i + 1)) l).length = l.length := by rw [putAt_len, h1]; omega
  rw [List.getElem?_set]
  by_cases hj : j < l.length
  · by_cases e : k + i = j
    · subst e
      rw [if_pos rfl, if_pos (by omega), putAt_in (by omega) (by rw [h1]; omega), List.getElem?_take, if_pos (by omega), show k + i - k = i by omega, List.getElem?_eq_getElem hi]
    · rw [if_neg e]
      by_cases hin : k ≤ j ∧ j < k + i
      · rw [putAt_in hin.1 (by rw [h1]; omega), putAt_in hin.1 (by rw [h2]; omega), List.getElem?_take, if_pos (by omega), List.getElem?_take, if_pos (by omega)]
      · rw [putAt_out (by rw [h1]; omega) hj, putAt_out (by rw [h2]; omega) hj]
  · rw [List.getElem?_eq_none (by omega), if_neg (by omega), List.getElem?_eq_none (by omega)]
theorem OwnB.put {w : World} {B n cap : Nat} {a : Option Addr} {l : List UInt8} (h : OwnB w B (.slice a n cap) l) (hn : n = l.length) (i : Nat) (hi : i < n) (c : UInt8) : ∃ g, a = some ⟨g, 0, none⟩ ∧ B ≤ g ∧ g < w.heap.size ∧ w.frozen? ⟨g, i, none⟩ = false ∧ (∃ z, w.cell? ⟨g, i, none⟩ = some (.int .u8 z)) ∧ OwnB (w.setCell ⟨g, i, none⟩ (.int .u8 (c.toNat : Int))) B (.slice a n cap) (l.set i c) ∧ Fr (fun k => k = g) w (w.setCell ⟨g, i, none⟩ (.int .u8 (c.toNat : Int))) := by
  subst hn
  obtain ⟨g, cap', hv, hb, hg⟩ := World.ownsRow.form h (by omega)
  obtain ⟨rfl, rfl⟩ : a = some ⟨g, 0, none⟩ ∧ cap = cap' := by simpa using hv
  have hc := World.ownsRow.cells h (g := g) rfl i (.int .u8 (l[i].toNat : Int)) (by rw [Lib.byteCells, List.getElem?_map, List.getElem?_eq_getElem hi]; rfl)
  rw [Go.WideShapes.add_plain, Nat.zero_add] at hc
  refine ⟨g, rfl, hb, hg, World.ownsRow.frozenAt h i, ⟨_, hc⟩, ?_, Fr.set _ _ _ _ rfl⟩
  have := (World.ownsRow.stored h i (.int .u8 (c.toNat : Int))).1
  unfold OwnB
  rw [List.length_set]
  have e : Lib.byteCells (l.set i c) = (Lib.byteCells l).set i (.int .u8 (c.toNat : Int)) := by
    unfold Lib.byteCells
    rw [List.map_set]
  rw [e]
  exact this
end Go.Proofs.Ytellmmgiabfacaa
