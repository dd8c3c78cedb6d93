/-
  merged
-/
import Derived.Test.YtellmmgiabfacaaDFrame
import Derived.Maps.OwnSet
import Derived.Maps.Views
import Derived.Test.YtellmmgiabfacaaPUns
import Derived.Test.YtellmmgiabfacaaMA
import Derived.Test.YtellmmgiabfacaaDBegun
import Derived.RangeFuncOwn
import Derived.RangeFuncNested
import Derived.RangeFuncBound
import Derived.RangeFuncCalls
import Derived.RangeFuncLeaves
import Derived.Shelf.Abstract
import Derived.Shelf.RegionOpen
import Derived.OwnWalkIn
import Derived.TacticsInMore
import Derived.LoopNIn
import Derived.LoopIn
import Derived.BigRegionIn
import Derived.Maps.AppendAt
import Derived.RangeFuncBox
import Derived.Test.YtellmmgiabfacaaPSum
import Derived.RangeFuncRecord
namespace Go.Proofs.Ytellmmgiabfacaa
section

open Go.ChangeShapes Go.WideShapes Go.ChangeAt Go.RowKit Go.MapKept
set_option linter.unusedVariables false

/-- What the state of a block is; how many are not free; a state is another one. -/
def stAt (st : List Nat) (n : Int) : Nat := if 2 ≤ n then st.getD (n - 2).toNat 0 else 0
def cntS (st : List Nat) : Nat := (st.filter fun x => x != 0).length
def putS (st : List Nat) (i v : Nat) : List Nat := if i < st.length then st.set i v else st ++ [v]
/-- The map D says these states of the blocks from 2 on, and has no other key. -/
structure MapOf (D : DataW Unit) (st : List Nat) : Prop where
  tidy : Maps.Tidy D
  at_ : ∀ n : Int, D.atKey (.int .i64 n) (.lit (.int .i64 0)) = .lit (.int .i64 (stAt st n))
  has : ∀ n : Int, Maps.has D (.int .i64 n) = (stAt st n != 0)
  size : Maps.size D = cntS st
theorem keyed : Maps.Keyed Try.prog 3 := Maps.int_keyed Try.underlying3
/-- The block gm is a map that says these states. -/
def MapIn (w : World) (gm : Nat) (st : List Nat) : Prop := ∃ D : DataW Unit, w.ownsMap Try.prog 3 (plainElem Try.prog 120) gm (Maps.size D) D ∧ MapOf D st
theorem isKeyI (n : Int) : WideAt.IsKeyLit (.int .i64 n) := trivial

theorem stAt_i (st : List Nat) (i : Nat) : stAt st ((i : Int) + 2) = st.getD i 0 := by
  unfold stAt
  rw [if_pos (by omega)]
  congr 1
  omega
theorem stAt_out (st : List Nat) (n : Int) (h : n < 2 ∨ (st.length : Int) + 2 ≤ n) : stAt st n = 0 := by
  unfold stAt
  split
  · rw [List.getD_eq_getElem?_getD, List.getElem?_eq_none (by omega)]
    rfl
  · rfl
theorem stAt_put (st : List Nat) (i v : Nat) (hi : i ≤ st.length) (n : Int) : stAt (putS st i v) n = if n = (i : Int) + 2 then v else stAt st n := by
  by_cases h2 : 2 ≤ n
  · obtain ⟨j, rfl⟩ : ∃ j : Nat, n = (j : Int) + 2 := ⟨(n - 2).toNat, by omega⟩
    rw [stAt_i, stAt_i]
    unfold putS
    simp only [List.getD_eq_getElem?_getD]
    by_cases hl : i < st.length
    · rw [if_pos hl, List.getElem?_set]
      by_cases e : i = j
      · subst e
        simp [hl]
      · rw [if_neg e, if_neg (by omega)]
    · rw [if_neg hl]
      obtain rfl : i = st.length := by omega
      by_cases e : j = st.length
      · subst e
        simp
      · rw [if_neg (by omega)]
        by_cases hj : j < st.length
        · rw [List.getElem?_append_left hj]
        · rw [List.getElem?_eq_none (by simp; omega), List.getElem?_eq_none (by omega)]
  · rw [if_neg (by omega)]
    unfold stAt
    rw [if_neg h2, if_neg h2]
theorem cnt_app (a b : List Nat) : cntS (a ++ b) = cntS a + cntS b := by simp [cntS]
theorem cnt_cons (x : Nat) (a : List Nat) : cntS (x :: a) = (if x = 0 then 0 else 1) + cntS a := by
  unfold cntS
  by_cases h : x = 0
  · simp [h]
  · simp [h]; omega
theorem cnt_set : ∀ (st : List Nat) (i v : Nat) (h : i < st.length), cntS (st.set i v) + (if st[i] = 0 then 0 else 1) = cntS st + (if v = 0 then 0 else 1)
  | [], i, v, h => by simp at h
  | x :: st, 0, v, _ => by
    simp only [List.set_cons_zero, cnt_cons, List.getElem_cons_zero]
    omega
  | x :: st, i + 1, v, h => by
    have := cnt_set st i v (by simpa using h)
    simp only [List.set_cons_succ, cnt_cons, List.getElem_cons_succ]
    omega
theorem cnt_le (st : List Nat) : cntS st ≤ st.length := List.length_filter_le _ _
theorem cnt_put (st : List Nat) (i v : Nat) (hi : i ≤ st.length) : cntS (putS st i v) + (if st.getD i 0 = 0 then 0 else 1) = cntS st + (if v = 0 then 0 else 1) := by
  unfold putS
  by_cases hl : i < st.length
  · rw [if_pos hl]
    have := cnt_set st i v hl
    rw [List.getD_eq_getElem?_getD, List.getElem?_eq_getElem hl]
    exact this
  · rw [if_neg hl, List.getD_eq_getElem?_getD, List.getElem?_eq_none (by omega), cnt_app, cnt_cons]
    simp [cntS]
theorem put_len (st : List Nat) (i v : Nat) (hi : i ≤ st.length) : (putS st i v).length = max st.length (i + 1) := by
  unfold putS
  split
  · rw [List.length_set]; omega
  · simp; omega
theorem put_mem (st : List Nat) (i v : Nat) : ∀ x ∈ putS st i v, x ∈ st ∨ x = v := by
  intro x hx
  unfold putS at hx
  split at hx
  · exact List.mem_or_eq_of_mem_set hx
  · simpa using hx

theorem MapOf.nil : MapOf (.map []) [] where
  tidy := Maps.tidy_empty
  at_ := fun n => by
    have : stAt [] n = 0 := stAt_out _ _ (by simp; omega)
    rw [this]
    rfl
  has := fun n => by
    have : stAt [] n = 0 := stAt_out _ _ (by simp; omega)
    rw [this]
    rfl
  size := rfl
theorem MapOf.put {D : DataW Unit} {st : List Nat} (h : MapOf D st) (i v : Nat) (hi : i ≤ st.length) (hv : v ≠ 0) : MapOf (D.put (.int .i64 ((i : Int) + 2)) (.lit (.int .i64 v))) (putS st i v) where
  tidy := h.tidy.put (isKeyI _) _
  at_ := fun n => by
    rw [stAt_put st i v hi]
    by_cases e : n = (i : Int) + 2
    · rw [if_pos e, e, Maps.atKey_put_same h.tidy.isMap (isKeyI _)]
    · rw [if_neg e, Maps.atKey_put_other (by intro h'; cases h'; exact e rfl), h.at_]
  has := fun n => by
    rw [stAt_put st i v hi]
    by_cases e : n = (i : Int) + 2
    · rw [if_pos e, e, Maps.has_put_same h.tidy.isMap (isKeyI _)]
      simpa using hv
    · rw [if_neg e, Maps.has_put_other (by intro h'; cases h'; exact e rfl), h.has]
  size := by
    have h1 := cnt_put st i v hi
    rw [if_neg hv] at h1
    rw [Maps.size_put h.tidy, h.has, stAt_i, h.size]
    by_cases e : st.getD i 0 = 0
    · rw [if_pos e] at h1
      simp only [e, bne_self_eq_false, Bool.false_eq_true, if_false]
      omega
    · rw [if_neg e] at h1
      rw [if_pos (by simpa using e)]
      omega
theorem MapOf.del {D : DataW Unit} {st : List Nat} (h : MapOf D st) (i : Nat) (hi : i < st.length) : MapOf (D.del (.int .i64 ((i : Int) + 2))) (putS st i 0) where
  tidy := h.tidy.del _
  at_ := fun n => by
    rw [stAt_put st i 0 (by omega)]
    by_cases e : n = (i : Int) + 2
    · rw [if_pos e, e, Maps.atKey_del_same]
      rfl
    · rw [if_neg e, Maps.atKey_del_other (by intro h'; cases h'; exact e rfl), h.at_]
  has := fun n => by
    rw [stAt_put st i 0 (by omega)]
    by_cases e : n = (i : Int) + 2
    · rw [if_pos e, e, Maps.has_del_same]
      rfl
    · rw [if_neg e, Maps.has_del_other (by intro h'; cases h'; exact e rfl), h.has]
  size := by
    have h1 := cnt_put st i 0 (by omega)
    have h2 := Maps.size_del (k := .int .i64 ((i : Int) + 2)) h.tidy
    rw [h.has, stAt_i, h.size] at h2
    by_cases e : st.getD i 0 = 0
    · rw [if_pos e] at h1
      simp only [e, bne_self_eq_false, Bool.false_eq_true, if_false] at h2
      simp at h1
      omega
    · rw [if_neg e] at h1
      rw [if_pos (by simpa using e)] at h2
      simp at h1
      omega

theorem MapIn.block {w w' : World} {gm : Nat} {st : List Nat} (h : MapIn w gm st) (hb : w'.heap[gm]? = w.heap[gm]?) : MapIn w' gm st := by
  obtain ⟨D, ⟨es, clock, h1, h2, h3, h4⟩, hD⟩ := h
  exact ⟨D, ⟨es, clock, hb.trans h1, h2, h3, h4⟩, hD⟩
theorem MapIn.lt {w : World} {gm : Nat} {st : List Nat} (h : MapIn w gm st) : gm < w.heap.size := by
  obtain ⟨D, h, -⟩ := h
  exact h.lt
theorem MapIn.below {w w' : World} {gm : Nat} {st : List Nat} (h : MapIn w gm st) (hb : Below w.heap.size w w') : MapIn w' gm st := h.block (hb.block _ h.lt)
theorem zeroState (w : World) : (zeroValue 120).run Try.prog w = .ok (.int .i64 0) w := by kernel_rfl
theorem in64_wf {n : Int} (h : -9223372036854775808 ≤ n ∧ n ≤ 9223372036854775807) : (Lit.int .i64 n).wf = true := by
  simp [Lit.wf, IntKind.min, IntKind.max, IntKind.signed, IntKind.bits]
  omega
theorem keyI {n : Int} (h : -9223372036854775808 ≤ n ∧ n ≤ 9223372036854775807) : keyOf Try.prog 3 (.int .i64 n) = some (.int .i64 n) := Maps.keyOf_int_mk Try.underlying3 (in64_wf h)
theorem MapIn.at {w : World} {gm : Nat} {st : List Nat} (h : MapIn w gm st) (n : Int) (hn : -9223372036854775808 ≤ n ∧ n ≤ 9223372036854775807) : (Instr.lookup 117 (.map (some gm)) (.int .i64 n) false).run Try.prog w = .ok (.int .i64 (stAt st n)) w := by
  obtain ⟨D, h1, h2⟩ := h
  obtain ⟨c, hr, hc, -⟩ := h1.lookup_int keyed Try.underlying117 Try.underlying120 (zeroState w) (keyI hn)
  rw [h2.at_] at hc
  cases hc
  exact hr
theorem MapIn.put {w : World} {gm : Nat} {st : List Nat} (h : MapIn w gm st) (i v : Nat) (hi : i ≤ st.length) (hl : st.length ≤ 1022) (hv : v ≠ 0) (h3 : v ≤ 3) :
    ∃ w', (Instr.mapUpdate 117 (.map (some gm)) (.int .i64 ((i : Int) + 2)) (.int .i64 v)).run Try.prog w = .ok () w' ∧ MapIn w' gm (putS st i v) ∧ w.grownBy w' (some gm) ∧ w'.heap.size = w.heap.size := by
  obtain ⟨D, h1, h2⟩ := h
  obtain ⟨w', hr, ho, hg⟩ := h1.store (val := .int .i64 v) (d := .lit (.int .i64 v)) (ps := []) keyed Try.underlying117 (by rw [h2.size]; have := cnt_le st; unfold maxLen; omega) (keyI (n := (i : Int) + 2) (by omega)) (plainElem_int Try.underlying120 (in64_wf (by omega)))
  have hs : w'.heap.size = w.heap.size := by
    obtain ⟨es, cl, es', cl', -, rfl⟩ := hg
    simp [Go.ChangeMaps.setBlock]
  refine ⟨w', hr, ⟨_, ?_, h2.put i v hi hv⟩, hg.grown, hs⟩
  obtain ⟨es, clock, e1, e2, e3, e4⟩ := ho
  exact ⟨es, clock, e1, e2, by rw [e4]; exact Nat.le_of_eq (by simp [Maps.size, length_sorted]), e4⟩
theorem MapIn.del {w : World} {gm : Nat} {st : List Nat} (h : MapIn w gm st) (i : Nat) (hi : i < st.length) (hl : st.length ≤ 1022) (ty : TypeId) :
    ∃ w', (Builtin.delete_ #[117, 3] ty #[.map (some gm), .int .i64 ((i : Int) + 2)]).run Try.prog w = .ok (.tuple #[]) w' ∧ MapIn w' gm (putS st i 0) ∧ w.grownBy w' (some gm) ∧ w'.heap.size = w.heap.size := by
  obtain ⟨D, h1, h2⟩ := h
  obtain ⟨w', hr, ho, hg⟩ := h1.drop keyed Try.underlying117 (keyI (n := (i : Int) + 2) (by omega)) ty
  have hs : w'.heap.size = w.heap.size := by
    obtain ⟨es, cl, es', cl', -, rfl⟩ := hg
    simp [Go.ChangeMaps.setBlock]
  refine ⟨w', hr, ⟨_, ?_, h2.del i hi⟩, hg.grown, hs⟩
  obtain ⟨es, clock, e1, e2, e3, e4⟩ := ho
  exact ⟨es, clock, e1, e2, by rw [e4]; exact Nat.le_of_eq (by simp [Maps.size, length_sorted]), e4⟩
theorem MapIn.len {w : World} {gm : Nat} {st : List Nat} (h : MapIn w gm st) (ty : TypeId) : (Builtin.len_ #[117] ty #[.map (some gm)]).run Try.prog w = .ok (.int .i64 (cntS st)) w := by
  obtain ⟨D, h1, h2⟩ := h
  rw [← h2.size]
  exact h1.len Try.underlying117 ty
theorem MapIn.made (w : World) : MapIn (w.alloc (.map #[] 0)) w.heap.size [] := ⟨.map [], World.ownsMap_made _ _ _ _, MapOf.nil⟩

end

section

open Go.ChangeShapes Go.WideShapes Go.ChangeAt Go.RowKit Go.Deep
set_option linter.unusedVariables false

/-- A pager: the newest head, and what the blocks from 2 on are (0: free, 1: in use, 2: freed, 3: fresh). -/
structure Pg where
  gen : Int
  root : Int
  hb : Int
  st : List Nat
def Pg.nb (p : Pg) : Nat := p.st.length + 2
structure Pg.Ok (p : Pg) : Prop where
  len : p.st.length ≤ 1022
  gen : 0 ≤ p.gen ∧ p.gen ≤ 1099511627776
  root : 0 ≤ p.root ∧ p.root ≤ 1024
  hb : 2 ≤ p.hb ∧ p.hb ≤ 1024
  small : ∀ x ∈ p.st, x ≤ 3
def Pg.is (p : Pg) (n : Int) : Bool := decide (2 ≤ n) && decide (n < (p.nb : Int))
def firstFree (st : List Nat) : Nat := st.findIdx (· == 0)
def Pg.alloc (p : Pg) : Pg × Int × Int := if firstFree p.st = 1022 then (p, 0, 5) else ({ p with st := putS p.st (firstFree p.st) 3 }, (firstFree p.st : Int) + 2, 0)
def Pg.write (p : Pg) (s : St) (n : Int) (b : List UInt8) : St × Int :=
  if p.is n = false then (s, 1) else if stAt p.st n ≠ 3 then (s, 51) else if 4090 < b.length then (s, 3) else s.write 0 (4096 * n) (sealB b)
def Pg.read (p : Pg) (s : St) (n : Int) : List UInt8 × Int :=
  if p.is n = false then ([], 1) else if (s.read 0 (4096 * n) 4096).2 ≠ 0 then ([], (s.read 0 (4096 * n) 4096).2) else if (s.read 0 (4096 * n) 4096).1.length < 4096 then ([], 50) else unsealV (s.read 0 (4096 * n) 4096).1
/-- A piece of a stream goes into one more block. -/
def addV (s : St) (p : Pg) (next : Int) (x : List UInt8) : St × Pg × Int × Int :=
  if p.alloc.2.2 ≠ 0 then (s, p.alloc.1, 0, p.alloc.2.2)
  else ((p.alloc.1.write s p.alloc.2.1 (leB next.toNat 4 ++ x)).1, p.alloc.1, p.alloc.2.1, (p.alloc.1.write s p.alloc.2.1 (leB next.toNat 4 ++ x)).2)
/-- Pieces, the last one first. -/
def putL : List (List UInt8) → St → Pg → Int → St × Pg × Int × Int
  | [], s, p, next => (s, p, next, 0)
  | x :: xs, s, p, next => if (addV s p next x).2.2.2 ≠ 0 then ((addV s p next x).1, (addV s p next x).2.1, 0, (addV s p next x).2.2.2) else putL xs (addV s p next x).1 (addV s p next x).2.1 (addV s p next x).2.2.1
def manyOf (b : List UInt8) : Nat := if b.length = 0 then 1 else (b.length + 4085) / 4086
def pieceAt (b : List UInt8) (i : Nat) : List UInt8 := (b.drop (4086 * i)).take 4086
def pieces (b : List UInt8) : List (List UInt8) := (List.range (manyOf b)).map (pieceAt b)
def putV (s : St) (p : Pg) (b : List UInt8) : St × Pg × Int × Int :=
  if 1048576 < b.length then (s, p, 0, 3) else if (1022 : Int) - cntS p.st < manyOf b then (s, p, 0, 5) else putL (pieces b).reverse s p 0
def settleV (x : Nat) : Nat := if x = 3 then 1 else if x = 2 then 0 else x
/-- A header is written and made durable. -/
def whV (s : St) (g r k : Int) : St × Int :=
  if headB g r k = false then (s, 1) else if (s.write 0 (4096 * (g % 2)) (headerB g r k)).2 ≠ 0 then s.write 0 (4096 * (g % 2)) (headerB g r k) else (s.write 0 (4096 * (g % 2)) (headerB g r k)).1.sync 0
def commitV (s : St) (p : Pg) (root : Int) : St × Pg × Int :=
  if root ≠ 0 ∧ p.is root = false then (s, p, 1) else if (s.sync 0).2 ≠ 0 then ((s.sync 0).1, p, (s.sync 0).2)
  else if (whV (s.sync 0).1 (p.gen + 1) root p.nb).2 ≠ 0 then ((whV (s.sync 0).1 (p.gen + 1) root p.nb).1, p, (whV (s.sync 0).1 (p.gen + 1) root p.nb).2)
  else ((whV (s.sync 0).1 (p.gen + 1) root p.nb).1, ⟨p.gen + 1, root, p.nb, p.st.map settleV⟩, 0)
/-- A stream from a block on. -/
def getN (s : St) (p : Pg) : Nat → Int → List Int → List UInt8 → List UInt8 × List Int × Int
  | 0, _, _, _ => ([], [], 50)
  | k + 1, n, l, b =>
    if (p.read s n).2 ≠ 0 then ([], [], (p.read s n).2) else if (p.read s n).1.length < 4 then ([], [], 50)
    else if 1048576 < (b ++ (p.read s n).1.drop 4).length ∨ ((leN ((p.read s n).1.take 4) : Nat) ≠ 0 ∧ (p.is (leN ((p.read s n).1.take 4) : Nat) = false ∨ ((leN ((p.read s n).1.take 4) : Nat) : Int) ∈ l ++ [n])) then ([], [], 50)
    else if leN ((p.read s n).1.take 4) = 0 then (b ++ (p.read s n).1.drop 4, l ++ [n], 0)
    else getN s p k (leN ((p.read s n).1.take 4) : Nat) (l ++ [n]) (b ++ (p.read s n).1.drop 4)
def getV (s : St) (p : Pg) (first : Int) : List UInt8 × List Int × Int := getN s p 1024 first [] []
/-- What bytes are as a header at a place. -/
def headingV (b : List UInt8) (g r k : Int) (place : Int) : (Int × Int × Int) × Bool × Int :=
  if b.length ≠ 512 then ((0, 0, 0), false, 1) else if zeroB b = true then ((0, 0, 0), false, 0)
  else if headB g r k = true ∧ headerB g r k = b ∧ g % 2 = place then ((g, r, k), true, 0) else ((0, 0, 0), false, 50)

end

section

open Go.ChangeShapes Go.WideShapes Go.ChangeAt Go.RowKit
set_option linter.unusedVariables false

/-- A piece without bytes lies nowhere. -/
def PV.fix (q : PV) : PV := if q.p.b.length = 0 then { q with A := none } else q
theorem PV.fix_p (q : PV) : q.fix.p = q.p := by unfold PV.fix; split <;> rfl
theorem PV.fix_cells {q : PV} (h : q.p.Ok) : q.fix.cells = q.cells := by
  unfold PV.fix
  split
  · rename_i h0
    have hc : q.p.cut = true := by
      cases hc : q.p.cut
      · have := h.full hc; omega
      · rfl
    simp [PV.cells, PV.func, PV.iface, hc]
  · rfl
theorem rowOf_fix : ∀ {qs : List PV}, (∀ q ∈ qs, q.p.Ok) → rowOf (qs.map PV.fix) = rowOf qs
  | [], _ => rfl
  | q :: qs, h => by
    have h1 := PV.fix_cells (h q (by simp))
    have h2 := rowOf_fix (qs := qs) fun q hq => h q (by simp [hq])
    simp only [rowOf, List.map_cons, List.flatMap_cons, h1] at h2 ⊢
    rw [h2]
def Fixed (qs : List PV) : Prop := ∀ q ∈ qs, q.p.b.length = 0 → q.A = none
theorem fixed_map (qs : List PV) : Fixed (qs.map PV.fix) := fun q hq h0 => by
  obtain ⟨q', -, rfl⟩ := List.mem_map.1 hq
  rw [PV.fix_p] at h0
  unfold PV.fix
  rw [if_pos h0]
theorem DSt.fix {w : World} {g : Nat} {v : Nat → Value} {pc : Value} {qs : List PV} {kp : Value} {s : St} (h : DSt w g v pc qs kp s) :
    DSt w g v pc (qs.map PV.fix) kp s ∧ ∀ k, DR g v pc (qs.map PV.fix) kp k → DR g v pc qs kp k := by
  have hq : ∀ q ∈ qs, q.p.Ok := fun q hq => h.ok.pcs _ (by rw [h.names]; exact List.mem_map.2 ⟨q, hq, rfl⟩)
  have hA : ∀ q : PV, ∀ a, q.fix.A = some a → q.A = some a := fun q a e => by
    unfold PV.fix at e
    split at e
    · cases e
    · exact e
  refine ⟨⟨h.box, ?_, ?_, h.ok⟩, ?_⟩
  · refine ⟨h.core.own, h.core.dj, ?_, ?_, h.core.keep, h.core.dgv, h.core.dgp, h.core.dgk, h.core.dpv, h.core.dkp, h.core.dkv⟩
    · rw [rowOf_fix hq, List.length_map]
      exact h.core.row
    · intro q hq'
      obtain ⟨q', hq1, rfl⟩ := List.mem_map.1 hq'
      obtain ⟨h1, h2⟩ := h.core.reads q' hq1
      refine ⟨?_, fun a e => h2 a (hA q' a e)⟩
      rw [PV.fix_p]
      intro h0
      have : q'.fix.A = q'.A := by unfold PV.fix; rw [if_neg (by omega)]
      rw [this]
      exact h1 h0
  · rw [h.names, List.map_map]
    exact List.map_congr_left fun q _ => (PV.fix_p q).symm
  · rintro k (hk | hk | ⟨q, hq', a, ha, rfl⟩)
    · exact .inl hk
    · exact .inr (.inl hk)
    · obtain ⟨q', hq1, rfl⟩ := List.mem_map.1 hq'
      exact .inr (.inr ⟨q', hq1, a, hA q' a ha, rfl⟩)
/-- What a disk writes or reads are cells. -/
theorem DSt.cells {w : World} {g : Nat} {v : Nat → Value} {pc : Value} {qs : List PV} {kp : Value} {s : St} (h : DSt w g v pc qs kp s) (hf : Fixed qs) : ∀ k, DR g v pc qs kp k → ∃ o : Obj, w.heap[k]? = some o ∧ o.isCells = true := by
  rintro k ((rfl | e | ⟨i, hi, e⟩) | e | ⟨q, hq, a, ha, rfl⟩)
  · exact ⟨_, h.box, rfl⟩
  · obtain ⟨c, hc⟩ := own_type h.core.row k e
    exact ⟨_, hc, rfl⟩
  · obtain ⟨c, hc⟩ := own_type (h.core.own i hi) k e
    exact ⟨_, hc, rfl⟩
  · obtain ⟨c, hc⟩ := own_type h.core.keep k e
    exact ⟨_, hc, rfl⟩
  · obtain ⟨h1, -⟩ := h.core.reads q hq
    by_cases h0 : q.p.b.length = 0
    · rw [hf q hq h0] at ha
      cases ha
    · obtain ⟨g', off, hA, hl, hc⟩ := h1 (by omega)
      rw [hA] at ha
      cases ha
      exact cells_of_cell (hc 0 (by omega))

/-- A disk in the block g, of whose blocks that may be written F are; what it reads else lies below B. -/
def Dsk (w : World) (B : Nat) (F : Nat → Prop) (g : Nat) (s : St) : Prop :=
  ∃ v pc qs kp, DSt w g v pc qs kp s ∧ Fixed qs ∧ (∀ k, DF g v pc k → F k) ∧ ∀ k, DR g v pc qs kp k → F k ∨ k < B
/-- All of F lies from B on. -/
def Lies (w : World) (B : Nat) (F : Nat → Prop) : Prop := ∀ k, F k → B ≤ k ∧ k < w.heap.size
theorem Lies.plus {w w' : World} {B : Nat} {F : Nat → Prop} (h : Lies w B F) (hB : B ≤ w.heap.size) (hs : w.heap.size ≤ w'.heap.size) : Lies w' B (Plus F w w') := fun k hk => hk.elim (fun h' => ⟨(h k h').1, Nat.lt_of_lt_of_le (h k h').2 hs⟩) fun h' => ⟨by omega, h'.2⟩
theorem Lies.size {w w' : World} {B : Nat} {F : Nat → Prop} (h : Lies w B F) (hs : w.heap.size ≤ w'.heap.size) : Lies w' B F := fun k hk => ⟨(h k hk).1, Nat.lt_of_lt_of_le (h k hk).2 hs⟩
theorem Dsk.mono {w : World} {B : Nat} {F F' : Nat → Prop} {g : Nat} {s : St} (h : Dsk w B F g s) (hF : ∀ k, F k → F' k) : Dsk w B F' g s := by
  obtain ⟨v, pc, qs, kp, h1, h2, h3, h4⟩ := h
  exact ⟨v, pc, qs, kp, h1, h2, fun k hk => hF k (h3 k hk), fun k hk => (h4 k hk).imp (hF k) id⟩
theorem Dsk.same {w w' : World} {B : Nat} {F : Nat → Prop} {g : Nat} {s : St} (h : Dsk w B F g s) (hs : w.heap.size ≤ w'.heap.size) (hb : ∀ k, k < w.heap.size → (F k ∨ k < B) → (∃ o : Obj, w.heap[k]? = some o ∧ o.isCells = true) → w'.heap[k]? = w.heap[k]?) : Dsk w' B F g s := by
  obtain ⟨v, pc, qs, kp, h1, h2, h3, h4⟩ := h
  exact ⟨v, pc, qs, kp, h1.same hs fun k hk hr => hb k hk (h4 k hr) (h1.cells h2 k hr), h2, h3, h4⟩
theorem Dsk.below {w w' : World} {B : Nat} {F : Nat → Prop} {g : Nat} {s : St} (h : Dsk w B F g s) (hb : Below w.heap.size w w') : Dsk w' B F g s := h.same hb.size fun k hk _ _ => hb.block k hk
theorem Dsk.ok {w : World} {B : Nat} {F : Nat → Prop} {g : Nat} {s : St} (h : Dsk w B F g s) : s.Ok := by
  obtain ⟨v, pc, qs, kp, h1, h2, h3, h4⟩ := h
  exact h1.ok
theorem Dsk.disk {w : World} {B : Nat} {F : Nat → Prop} {g : Nat} {s : St} (h : Dsk w B F g s) : ∃ F' R', Disk w g F' R' s := by
  obtain ⟨v, pc, qs, kp, h1, h2, h3, h4⟩ := h
  exact ⟨_, _, h1.disk⟩
/-- A call that turns the disk. -/
theorem Dsk.turn {w : World} {B : Nat} {F : Nat → Prop} {g : Nat} {s : St} (h : Dsk w B F g s) : ∃ v pc qs kp, DSt w g v pc qs kp s ∧ (∀ k, DF g v pc k → F k) ∧ qs.length = s.pcs.length ∧
    ∀ x e w', Turned w g v pc qs kp x e w' → e = .returned (.int .i64 x.2) ∧ Dsk w' B (Plus F w w') g x.1 ∧ Fr F w w' := by
  obtain ⟨v, pc, qs, kp, h1, h2, h3, h4⟩ := h
  refine ⟨v, pc, qs, kp, h1, h3, by rw [h1.names, List.length_map], ?_⟩
  rintro x e w' ⟨rfl, v', pc', qs', kp', hd, hr⟩
  obtain ⟨hd', hs'⟩ := hd.fix
  have hg : g < w'.heap.size := (Array.getElem?_eq_some_iff.1 hd.box).1
  have hl := hd.core.lt hg
  refine ⟨rfl, ⟨v', pc', _, kp', hd', fixed_map _, fun k hk => ?_, fun k hk => ?_⟩, hr.turn.fr.mono fun k _ hk => h3 k hk⟩
  · by_cases hk' : k < w.heap.size
    · exact .inl (h3 k (hr.turn.new k hk' hk))
    · exact .inr ⟨by omega, hl k (.inl hk)⟩
  · have hk2 := hs' k hk
    by_cases hk' : k < w.heap.size
    · exact (h4 k (hr.newR k hk' hk2)).imp .inl id
    · exact .inl (.inr ⟨by omega, hl k hk2⟩)
theorem dsk_new (w : World) (B : Nat) (hB : B ≤ w.heap.size) : Calls Try.prog 24 #[] w fun e w' => ∃ g, e = .returned (.pointer (some ⟨g, 0, none⟩)) ∧ Dsk w' B (New w w') g St.new ∧ Below w.heap.size w w' := by
  refine (new_st w).mono ?_
  rintro e w' ⟨g, rfl, hb, v, pc, qs, kp, hd, hR⟩
  obtain ⟨hd', hs'⟩ := hd.fix
  have hg : g < w'.heap.size := (Array.getElem?_eq_some_iff.1 hd.box).1
  have hl := hd.core.lt hg
  exact ⟨g, rfl, ⟨v, pc, _, kp, hd', fixed_map _, fun k hk => ⟨hR k (.inl hk), hl k (.inl hk)⟩, fun k hk => .inl ⟨hR k (hs' k hk), hl k (hs' k hk)⟩⟩, hb⟩
theorem dsk_write {w : World} {B : Nat} {F : Nat → Prop} {g : Nat} {s : St} (h : Dsk w B F g s) (f k : Int) (A : Option Addr) (c n : Nat) (b : List UInt8) (hA : BRd w A b) (hn : n = b.length) (hb : b.length ≤ 140737488355328) (hlim : s.pcs.length + 4194304 ≤ 8000000000000) :
    Calls Try.prog 36 #[.pointer (some ⟨g, 0, none⟩), .int .i64 f, .int .i64 k, .slice A n c] w fun e w' => e = .returned (.int .i64 (s.write f k b).2) ∧ Dsk w' B (Plus F w w') g (s.write f k b).1 ∧ Fr F w w' := by
  subst hn
  obtain ⟨v, pc, qs, kp, hd, hF, hq, ht⟩ := h.turn
  exact (write_any g f k A c b w v pc qs kp s hd hA hb (by omega)).mono fun e w' h => ht _ e w' h
theorem dsk_sync {w : World} {B : Nat} {F : Nat → Prop} {g : Nat} {s : St} (h : Dsk w B F g s) (f : Int) (hlim : s.pcs.length ≤ 7000000000000) :
    Calls Try.prog 76 #[.pointer (some ⟨g, 0, none⟩), .int .i64 f] w fun e w' => e = .returned (.int .i64 (s.sync f).2) ∧ Dsk w' B (Plus F w w') g (s.sync f).1 ∧ Fr F w w' := by
  obtain ⟨v, pc, qs, kp, hd, hF, hq, ht⟩ := h.turn
  exact (sync_any g f w v pc qs kp s hd (by omega)).mono fun e w' h => ht _ e w' h
theorem dsk_crash {w : World} {B : Nat} {F : Nat → Prop} {g : Nat} {s : St} (h : Dsk w B F g s) (A : Option Addr) (c n : Nat) (ks : List Bool) (hA : KRd w A ks) (hn : n = ks.length) (hAF : 0 < ks.length → ∀ a, A = some a → ¬ F a.block) (hlim : s.pcs.length ≤ 8000000000000) :
    Calls Try.prog 32 #[.pointer (some ⟨g, 0, none⟩), .slice A n c] w fun e w' => e = .returned (.int .i64 (s.crashed ks).2) ∧ Dsk w' B (Plus F w w') g (s.crashed ks).1 ∧ Fr F w w' := by
  subst hn
  obtain ⟨v, pc, qs, kp, hd, hF, hq, ht⟩ := h.turn
  exact (crash_turned g A c ks w v pc qs kp s hd hA (fun h0 a ha hk => hAF h0 a ha (hF _ hk)) (by omega)).mono fun e w' h => ht _ e w' h
theorem dsk_restart {w : World} {B : Nat} {F : Nat → Prop} {g : Nat} {s : St} (h : Dsk w B F g s) :
    Calls Try.prog 33 #[.pointer (some ⟨g, 0, none⟩)] w fun e w' => e = .returned (.int .i64 0) ∧ Dsk w' B (Plus F w w') g s.restart ∧ Fr F w w' := by
  obtain ⟨v, pc, qs, kp, hd, hF, hq, ht⟩ := h.turn
  exact (restart_turned g w v pc qs kp s hd).mono fun e w' h => ht (s.restart, 0) e w' h
theorem dsk_read {w : World} {B : Nat} {F : Nat → Prop} {g : Nat} {s : St} (h : Dsk w B F g s) (f k n : Int) : Calls Try.prog 34 #[.pointer (some ⟨g, 0, none⟩), .int .i64 f, .int .i64 k, .int .i64 n] w (ReadPost w (s.read f k n)) := by
  obtain ⟨F', R', hd⟩ := h.disk
  exact read_any g f k n hd
theorem count_pcs (s : St) : s.count.1.pcs.length ≤ s.pcs.length := by
  unfold St.count
  split
  · simp [St.crash]
  · exact Nat.le_refl _
theorem write_pcs (s : St) (f k : Int) (b : List UInt8) : (s.write f k b).1.pcs.length ≤ s.pcs.length + b.length := by
  unfold St.write
  split
  · exact Nat.le_add_right _ _
  · split
    · exact Nat.le_add_right _ _
    · split
      · exact Nat.le_add_right _ _
      · refine Nat.le_trans (count_pcs _) ?_
        have := parts_le f.toNat k.toNat b
        simp only [St.add, List.length_append]
        omega
theorem sync_pcs (s : St) (f : Int) : (s.sync f).1.pcs.length ≤ s.pcs.length := by
  unfold St.sync
  split
  · exact Nat.le_refl _
  · split
    · exact count_pcs _
    · refine Nat.le_trans (count_pcs _) ?_
      simp only [St.settle, others]
      exact List.length_filter_le _ _

/-- A pager in the block gp, its map in gm, over the disk in gd; F: what may be written. -/
structure Pgr (w : World) (B : Nat) (F : Nat → Prop) (gp gd gm : Nat) (s : St) (p : Pg) : Prop where
  box : w.heap[gp]? = some (.cells #[.pointer (some ⟨gd, 0, none⟩), .int .i64 p.gen, .int .i64 p.root, .int .i64 p.hb, .int .i64 p.nb, .map (some gm)] 119 (0, 0))
  map : MapIn w gm p.st
  ok : p.Ok
  disk : ∃ Fd : Nat → Prop, Dsk w B Fd gd s ∧ (∀ k, Fd k → F k) ∧ ¬ Fd gp ∧ ¬ Fd gm ∧ Lies w B Fd
  fp : F gp
  fm : F gm
  ne : gp ≠ gm
  lies : Lies w B F
theorem Pgr.dsk {w : World} {B : Nat} {F : Nat → Prop} {gp gd gm : Nat} {s : St} {p : Pg} (h : Pgr w B F gp gd gm s p) : Dsk w B F gd s := by
  obtain ⟨Fd, h1, h2, -⟩ := h.disk
  exact h1.mono h2
theorem Pgr.below {w w' : World} {B : Nat} {F : Nat → Prop} {gp gd gm : Nat} {s : St} {p : Pg} (h : Pgr w B F gp gd gm s p) (hb : Below w.heap.size w w') : Pgr w' B F gp gd gm s p := by
  obtain ⟨Fd, h1, h2, h3, h4, h5⟩ := h.disk
  exact ⟨(hb.block gp (h.lies gp h.fp).2).trans h.box, h.map.below hb, h.ok, ⟨Fd, h1.below hb, h2, h3, h4, h5.size hb.size⟩, h.fp, h.fm, h.ne, h.lies.size hb.size⟩
theorem Pgr.mono {w : World} {B : Nat} {F F' : Nat → Prop} {gp gd gm : Nat} {s : St} {p : Pg} (h : Pgr w B F gp gd gm s p) (hF : ∀ k, F k → F' k) (hl : Lies w B F') : Pgr w B F' gp gd gm s p := by
  obtain ⟨Fd, h1, h2, h3, h4, h5⟩ := h.disk
  exact ⟨h.box, h.map, h.ok, ⟨Fd, h1, fun k hk => hF k (h2 k hk), h3, h4, h5⟩, hF _ h.fp, hF _ h.fm, h.ne, hl⟩
/-- Nothing but a block that is no cells, and is not the map, has turned. -/
theorem Pgr.kept {w w' : World} {B : Nat} {F : Nat → Prop} {gp gd gm : Nat} {s : St} {p : Pg} (h : Pgr w B F gp gd gm s p) {row : Option Nat} (hg : w.grownBy w' row) (hr : ∀ r, row = some r → r ≠ gm ∧ ∃ o : Obj, w.heap[r]? = some o ∧ o.isCells = false) : Pgr w' B F gp gd gm s p := by
  have hc : ∀ k : Nat, (∃ o : Obj, w.heap[k]? = some o ∧ o.isCells = true) → w'.heap[k]? = w.heap[k]? := by
    rintro k ⟨o, ho, hc⟩
    refine hg.block k (Array.getElem?_eq_some_iff.1 ho).1 fun e => ?_
    obtain ⟨-, o', ho', hc'⟩ := hr k e.symm
    rw [ho] at ho'
    cases ho'
    rw [hc] at hc'
    cases hc'
  obtain ⟨Fd, h1, h2, h3, h4, h5⟩ := h.disk
  exact ⟨(hc gp ⟨_, h.box, rfl⟩).trans h.box, h.map.block (hg.block gm h.map.lt fun e => (hr gm e.symm).1 rfl), h.ok, ⟨Fd, h1.same hg.size fun k _ _ hk => hc k hk, h2, h3, h4, h5.size hg.size⟩, h.fp, h.fm, h.ne, h.lies.size hg.size⟩
/-- The disk has turned. -/
theorem Pgr.disk_turned {w w' : World} {B : Nat} {F Fd : Nat → Prop} {gp gd gm : Nat} {s s' : St} {p : Pg} (h : Pgr w B F gp gd gm s p) (hB : B ≤ w.heap.size) (hFd : ∀ k, Fd k → F k) (hp : ¬ Fd gp) (hm : ¬ Fd gm) (hl : Lies w B Fd) (hd : Dsk w' B (Plus Fd w w') gd s') (hf : Fr Fd w w') : Pgr w' B (Plus F w w') gp gd gm s' p ∧ Fr F w w' := by
  have h1 := (h.lies gp h.fp).2
  have h2 := (h.lies gm h.fm).2
  exact ⟨⟨(hf.block gp h1 hp).trans h.box, h.map.block (hf.block gm h2 hm), h.ok, ⟨_, hd, fun k hk => hk.imp (hFd k) id, fun h' => h'.elim hp fun h' => by omega, fun h' => h'.elim hm fun h' => by omega, hl.plus hB hf.size⟩, .inl h.fp, .inl h.fm, h.ne, h.lies.plus hB hf.size⟩, hf.mono fun k _ hk => hFd k hk⟩
theorem pgr_write {w : World} {B : Nat} {F : Nat → Prop} {gp gd gm : Nat} {s : St} {p : Pg} (h : Pgr w B F gp gd gm s p) (hB : B ≤ w.heap.size) (f k : Int) (A : Option Addr) (c n : Nat) (b : List UInt8) (hA : BRd w A b) (hn : n = b.length) (hb : b.length ≤ 140737488355328) (hlim : s.pcs.length + 4194304 ≤ 8000000000000) :
    Calls Try.prog 36 #[.pointer (some ⟨gd, 0, none⟩), .int .i64 f, .int .i64 k, .slice A n c] w fun e w' => e = .returned (.int .i64 (s.write f k b).2) ∧ Pgr w' B (Plus F w w') gp gd gm (s.write f k b).1 p ∧ Fr F w w' := by
  obtain ⟨Fd, h1, h2, h3, h4, h5⟩ := h.disk
  exact (dsk_write h1 f k A c n b hA hn hb hlim).mono fun e w' ⟨h6, h7, h8⟩ => ⟨h6, h.disk_turned hB h2 h3 h4 h5 h7 h8⟩
theorem pgr_sync {w : World} {B : Nat} {F : Nat → Prop} {gp gd gm : Nat} {s : St} {p : Pg} (h : Pgr w B F gp gd gm s p) (hB : B ≤ w.heap.size) (f : Int) (hlim : s.pcs.length ≤ 7000000000000) :
    Calls Try.prog 76 #[.pointer (some ⟨gd, 0, none⟩), .int .i64 f] w fun e w' => e = .returned (.int .i64 (s.sync f).2) ∧ Pgr w' B (Plus F w w') gp gd gm (s.sync f).1 p ∧ Fr F w w' := by
  obtain ⟨Fd, h1, h2, h3, h4, h5⟩ := h.disk
  exact (dsk_sync h1 f hlim).mono fun e w' ⟨h6, h7, h8⟩ => ⟨h6, h.disk_turned hB h2 h3 h4 h5 h7 h8⟩

end

section

open Go.ChangeShapes Go.WideShapes Go.ChangeAt Go.RowKit Go.Shelf
set_option linter.unusedVariables false
attribute [local go_sem] Oper.semAt_some

theorem range_snoc (k : Nat) : List.range k ++ [k] = List.range (k + 1) := List.range_succ.symm
set_option maxRecDepth 100000 in
set_option maxHeartbeats 4000000 in
theorem chunk1_in (n : Nat) (hn : 1 ≤ n) (l Bs Bn n₀ b off len cap M : Nat) (hM : M = (len + 4085) / 4086) (hs : Bs < n₀) (hs' : Bn < n₀) (hlen : len ≤ 1048576) (hcap : len ≤ cap) (J Jx : List Nat → World → Prop)
    (hY : ∀ pre x W, J pre W → pre.length < M → YieldAt Fence.wide (n - 1) Try.prog l #[.slice (some ⟨b, off + 4086 * x, none⟩) (min 4086 (len - 4086 * x)) (min 4086 (len - 4086 * x))] W fun e W' =>
      (e = .returned (.bool true) ∧ J (pre ++ [x]) W' ∧ Below n₀ W W') ∨ (e = .returned (.bool false) ∧ Jx (pre ++ [x]) W'))
    (W : World) (hJ : AbidesFrom W.heap.size J) (hBs : W.cell? ⟨Bs, 0, none⟩ = some (.slice (some ⟨b, off, none⟩) len cap)) (hBn : W.cell? ⟨Bn, 0, none⟩ = some (.int .i64 4086)) (h0 : J [] W) :
    CallsIn Fence.wide n Try.prog 113 #[.func (.yield l) #[] #[], .pointer (some ⟨Bs, 0, none⟩), .pointer (some ⟨Bn, 0, none⟩)] W fun e W' => (∃ v, e = .returned v) ∧
      ((∃ ys, ys = List.range M ∧ J ys W') ∨ (∃ pre, pre.length ≤ M ∧ Jx pre W')) := by
  refine callsIn_of_wp Try.func113 rfl trivial ?_ rfl
  simp only [Try.ntmps113, List.size_toArray, List.length_cons, List.length_nil, Nat.reduceAdd, Nat.reduceSub, Array.replicate_succ, Array.replicate_zero, List.push_toArray, List.append_toArray, List.nil_append, List.cons_append]
  gi_wp2
  gi_loopw [4] (fun i wr => ∃ k : Nat, k ≤ M ∧ i = .int .i64 ((4086 * k : Nat) : Int) ∧ J (List.range k) wr ∧ Below n₀ W wr)
    (fun i _ => 4086 * M - (intOf i).toNat)
  case atStart => exact ⟨0, Nat.zero_le _, rfl, h0, Below.refl _ _⟩
  case round =>
    obtain ⟨k, hk, rfl, hJs, hnx⟩ := hrel
    have c1 : wr.cell? ⟨Bs, 0, none⟩ = some (.slice (some ⟨b, off, none⟩) len cap) := (hnx.cell (p := ⟨Bs, 0, none⟩) hs).trans hBs
    have c2 : wr.cell? ⟨Bn, 0, none⟩ = some (.int .i64 4086) := (hnx.cell (p := ⟨Bn, 0, none⟩) hs').trans hBn
    by_cases hlt : 4086 * k < len
    · obtain ⟨e, he⟩ : ∃ e, e = min 4086 (len - 4086 * k) := ⟨_, rfl⟩
      have hei : min (4086 : Int) ((len - 4086 * k : Nat) : Int) = (e : Int) := by omega
      have hJd : J (List.range k) wr.drew := hJ _ wr wr.drew none hJs ⟨rfl, rfl, rfl, Nat.le_refl _, fun _ _ _ => rfl⟩ (fun r h => by cases h)
      have hY2 := hY _ k wr.drew hJd (by rw [List.length_range]; omega)
      rw [← he] at hY2
      have HE := Lib.hid he
      clear he
      gi_wp2
      gi_region
      obtain ⟨fn, tmps, assign, body, hy, hR⟩ := hY2
      gi_wp2
      refine hR.mono ?_
      rintro e1 W3 (⟨rfl, hJ3, hk3⟩ | ⟨rfl, hJx3⟩)
      · have c2' : W3.cell? ⟨Bn, 0, none⟩ = some (.int .i64 4086) := (hk3.cell (p := ⟨Bn, 0, none⟩) hs').trans c2
        gi_wp2
        go_roundw
        case rel => exact ⟨k + 1, by omega, by go_num, by rw [← range_snoc]; exact hJ3, (hnx.trans (Below.refl _ _).drew).trans hk3⟩
        case measure => simp [intOf]; omega
      · gi_wp2
        refine bodyPost_ret (results_none rfl _ _ _) rfl ?_
        exact ⟨⟨_, rfl⟩, .inr ⟨_, by rw [range_snoc, List.length_range]; omega, hJx3⟩⟩
    · obtain rfl : k = M := by omega
      gi_wp2
      go_end0
      exact ⟨⟨_, rfl⟩, .inl ⟨_, rfl, hJs⟩⟩
set_option maxRecDepth 100000 in
set_option maxHeartbeats 4000000 in
/-- From the last one to the first: the indexes m - 1, .., 0, each with its cell. -/
theorem back1_in (n : Nat) (hn : 1 ≤ n) (l Bs b off m cap : Nat) (f : Nat → Value) (Kp : World → World → Prop) (hlen : m ≤ 1048576) (J Jx : List Nat → World → Prop)
    (hY : ∀ pre x W, J pre W → pre.length < m → YieldAt Fence.wide (n - 1) Try.prog l #[.int .i64 ((m - 1 - x : Nat) : Int), f (m - 1 - x)] W fun e W' =>
      (e = .returned (.bool true) ∧ J (pre ++ [x]) W' ∧ Kp W W') ∨ (e = .returned (.bool false) ∧ Jx (pre ++ [x]) W'))
    (hk : ∀ {A B C : World}, Kp A B → Kp B C → Kp A C) (hr : ∀ A : World, Kp A A)
    (W : World) (hc : ∀ W', Kp W W' → W'.cell? ⟨Bs, 0, none⟩ = some (.slice (some ⟨b, off, none⟩) m cap) ∧ ∀ i, i < m → W'.cell? ⟨b, off + i, none⟩ = some (f i)) (h0 : J [] W) :
    CallsIn Fence.wide n Try.prog 114 #[.func (.yield l) #[] #[], .pointer (some ⟨Bs, 0, none⟩)] W fun e W' => (∃ v, e = .returned v) ∧
      ((∃ ys, ys = List.range m ∧ J ys W') ∨ (∃ pre, (∃ k, k ≤ m ∧ pre = List.range k) ∧ Jx pre W')) := by
  refine callsIn_of_wp Try.func114 rfl trivial ?_ rfl
  simp only [Try.ntmps114, List.size_toArray, List.length_cons, List.length_nil, Nat.reduceAdd, Nat.reduceSub, Array.replicate_succ, Array.replicate_zero, List.push_toArray, List.append_toArray, List.nil_append, List.cons_append]
  have c0 := (hc W (hr W)).1
  gi_wp2
  gi_loopw [3] (fun i wr => ∃ k : Nat, k ≤ m ∧ i = .int .i64 ((m : Int) - 1 - (k : Int)) ∧ J (List.range k) wr ∧ Kp W wr)
    (fun i _ => (intOf i + 1).toNat)
  case atStart => exact ⟨0, Nat.zero_le _, by simp, h0, hr _⟩
  case round =>
    obtain ⟨k, hkm, rfl, hJs, hnx⟩ := hrel
    obtain ⟨c1, c2⟩ := hc wr hnx
    by_cases hlt : k < m
    · obtain ⟨fn, tmps, assign, body, hy, hR⟩ := hY _ k wr hJs (by rw [List.length_range]; exact hlt)
      have c3 := c2 (m - 1 - k) (by omega)
      obtain ⟨j, hj⟩ : ∃ j, j = m - 1 - k := ⟨_, rfl⟩
      rw [← hj] at hy c3
      have hji : (m : Int) - 1 - (k : Int) = (j : Int) := by omega
      have hjm : (j : Int) < (m : Int) := by omega
      have hjm' : j < m := by omega
      have HJ := Lib.hid hj
      clear hj c2
      rw [hji]
      gi_wp2
      refine hR.mono ?_
      rintro e1 W3 (⟨rfl, hJ3, hk3⟩ | ⟨rfl, hJx3⟩)
      · gi_wp2
        go_roundw
        case rel => exact ⟨k + 1, by have := HJ.out; omega, by have := HJ.out; first | go_num | (congr 1; omega), by rw [← range_snoc]; exact hJ3, hk hnx hk3⟩
        case measure => have := HJ.out; simp [intOf] <;> omega
      · gi_wp2
        refine bodyPost_ret (results_none rfl _ _ _) rfl ?_
        exact ⟨⟨_, rfl⟩, .inr ⟨_, ⟨k + 1, by have := HJ.out; omega, range_snoc k⟩, hJx3⟩⟩
    · obtain rfl : k = m := by omega
      have hz : ¬ (0 : Int) ≤ (k : Int) - 1 - (k : Int) := by omega
      gi_wp2
      go_end0
      first | exact ⟨⟨_, rfl⟩, .inl ⟨_, rfl, hJs⟩⟩ | exact ⟨⟨_, rfl⟩, .inl hJs⟩
set_option maxHeartbeats 1600000 in
theorem chunk_any (a : Option Addr) (len cap : Nat) (w : World) : Calls Try.prog 71 #[.slice a len cap, .int .i64 4086] w fun e w' => e = .returned (.func (.func 113) #[] #[.pointer (some ⟨w.heap.size, 0, none⟩), .pointer (some ⟨w.heap.size + 1, 0, none⟩)]) ∧ w' = (w.alloc (.cells #[.slice a len cap] 23)).alloc (.cells #[.int .i64 4086] 3) := by
  go_enter Try.func71, Try.ntmps71
  go_wp2
  go_ret
  exact ⟨rfl, rfl⟩
set_option maxHeartbeats 1600000 in
theorem back_any (a : Option Addr) (len cap : Nat) (w : World) : Calls Try.prog 73 #[.slice a len cap] w fun e w' => e = .returned (.func (.func 114) #[] #[.pointer (some ⟨w.heap.size, 0, none⟩)]) ∧ w' = w.alloc (.cells #[.slice a len cap] 40) := by
  go_enter Try.func73, Try.ntmps73
  go_wp2
  go_ret
  exact ⟨rfl, rfl⟩
/-- Two blocks lie as they lay. -/
def Kept2 (i j : Nat) (A B : World) : Prop := B.heap[i]? = A.heap[i]? ∧ B.heap[j]? = A.heap[j]?
theorem Kept2.trans {i j : Nat} {A B C : World} (h : Kept2 i j A B) (k : Kept2 i j B C) : Kept2 i j A C := ⟨k.1.trans h.1, k.2.trans h.2⟩
theorem back_stops (n : Nat) (hn : 1 ≤ n) (Bs b off m cap : Nat) (f : Nat → Value) (hlen : m ≤ 1048576) (w : World) (h1 : Bs < w.heap.size) (h2 : b < w.heap.size) (c0 : w.cell? ⟨Bs, 0, none⟩ = some (.slice (some ⟨b, off, none⟩) m cap)) (cs : ∀ i, i < m → w.cell? ⟨b, off + i, none⟩ = some (f i)) :
    SeqStopsK Fence.wide n Try.prog 114 #[.pointer (some ⟨Bs, 0, none⟩)] (fun x : Nat => #[.int .i64 ((m - 1 - x : Nat) : Int), f (m - 1 - x)]) (Kept2 Bs b) (fun ys => ys = List.range m) (fun pre => ∃ k, k ≤ m ∧ pre = List.range k) m w := fun l J Jx W hW hJ _ hY h0 =>
  back1_in n hn l Bs b off m cap f (Kept2 Bs b) hlen J Jx hY Kept2.trans (fun _ => ⟨rfl, rfl⟩) W (fun W' hk => by
    have e1 : W'.heap[Bs]? = w.heap[Bs]? := hk.1.trans (hW.block Bs h1)
    have e2 : W'.heap[b]? = w.heap[b]? := hk.2.trans (hW.block b h2)
    exact ⟨(World.cell?_of_block (w := w) (w' := W') (a := ⟨Bs, 0, none⟩) e1).trans c0, fun i hi => (World.cell?_of_block (w := w) (w' := W') (a := ⟨b, off + i, none⟩) e2).trans (cs i hi)⟩) h0

end

section

open Go.ChangeShapes Go.WideShapes Go.ChangeAt Go.RowKit Go.Shelf
set_option linter.unusedVariables false
attribute [local go_sem] Oper.semAt_some

theorem sliceInfo : (Try.prog.info? 23).map (fun i => (i.zero, i.size, i.bytes)) = some (some (.slice none 0 0), 1, 24) := by kernel_rfl
def lenAt (len k : Nat) : Nat := min 4086 (len - 4086 * k)
def chunkV (b off len k : Nat) : Value := .slice (some ⟨b, off + 4086 * k, none⟩) (lenAt len k) (lenAt len k)
theorem chunk_stops (n : Nat) (hn : 1 ≤ n) (Bs Bn n₀ b off len cap M : Nat) (hM : M = (len + 4085) / 4086) (hlen : len ≤ 1048576) (hcap : len ≤ cap) (w : World) (hBs : Bs < n₀) (hBn : Bn < n₀) (hn₀ : n₀ ≤ w.heap.size)
    (c1 : w.cell? ⟨Bs, 0, none⟩ = some (.slice (some ⟨b, off, none⟩) len cap)) (c2 : w.cell? ⟨Bn, 0, none⟩ = some (.int .i64 4086)) :
    SeqStopsK Fence.wide n Try.prog 113 #[.pointer (some ⟨Bs, 0, none⟩), .pointer (some ⟨Bn, 0, none⟩)] (fun k : Nat => #[chunkV b off len k]) (Below n₀) (fun ys => ys = List.range M) (fun pre => pre.length ≤ M) M w := fun l J Jx W hW hJ _ hY h0 =>
  chunk1_in n hn l Bs Bn n₀ b off len cap M hM hBs hBn hlen hcap J Jx hY W hJ ((hW.cell (p := ⟨Bs, 0, none⟩) (Nat.lt_of_lt_of_le hBs hn₀)).trans c1) ((hW.cell (p := ⟨Bn, 0, none⟩) (Nat.lt_of_lt_of_le hBn hn₀)).trans c2) h0
set_option maxRecDepth 100000 in
set_option maxHeartbeats 4000000 in
theorem appendSeq_any (Bs Bn b off len cap M : Nat) (hM : M = (len + 4085) / 4086) (hlen : len ≤ 1048576) (hcap : len ≤ cap) (w : World)
    (c1 : w.cell? ⟨Bs, 0, none⟩ = some (.slice (some ⟨b, off, none⟩) len cap)) (c2 : w.cell? ⟨Bn, 0, none⟩ = some (.int .i64 4086)) :
    Calls Try.prog 112 #[.slice none 0 0, .func (.func 113) #[] #[.pointer (some ⟨Bs, 0, none⟩), .pointer (some ⟨Bn, 0, none⟩)]] w fun e w' =>
      ∃ v, e = .returned v ∧ w'.ownsRow w.heap.size 23 1 v M ((List.range M).map (chunkV b off len)) ∧ Below w.heap.size w w' := by
  obtain ⟨i0, hi, hz0, hz1, hz2⟩ := info_parts sliceInfo
  have hs1 := World.block_lt_of_cell? w _ c1
  have hs2 := World.block_lt_of_cell? w _ c2
  refine (callsIn_wide (n := 5)).1 ?_
  refine callsIn_of_wp_marks Try.func112 rfl trivial ?_ rfl
  simp only [Try.ntmps112, List.size_toArray, List.length_cons, List.length_nil, Nat.reduceAdd, Nat.reduceSub, Array.replicate_succ, Array.replicate_zero, List.push_toArray, List.append_toArray, List.nil_append, List.cons_append]
  gi_wp2
  have bO := Boxed.new w 40 (.slice none 0 0)
  have hB0 : Below w.heap.size w (w.alloc (.cells #[.slice none 0 0] 40)) := (Below.refl _ w).alloc (Nat.le_refl _) _
  refine wpIn_rangeFunc_ownG rfl (by omega) (gf := 113) (lb := #[.pointer (some ⟨Bs, 0, none⟩), .pointer (some ⟨Bn, 0, none⟩)]) rfl trivial (enters_of Try.func113 (by kernel_rfl) rfl)
    (chunk_stops (5 - 1) (by omega) Bs Bn w.heap.size b off len cap M hM hlen hcap _ hs1 hs2 (by simp) ((hB0.cell (p := ⟨Bs, 0, none⟩) hs1).trans c1) ((hB0.cell (p := ⟨Bn, 0, none⟩) hs2).trans c2)) belowK_t (belowK_b (by simp)) (Below.refl _ _) (fun _ => rfl)
    (fun pre W => (∃ v, Boxed W w.heap.size 40 v ∧ W.ownsRow w.heap.size 23 1 v pre.length (pre.map (chunkV b off len)) ∧ True) ∧ Below w.heap.size w W)
    (fun _ _ _ => False)
    (OwnFrom.and (Own.from (holdsRow_own w.heap.size w.heap.size 40 23 1 (fun pre : List Nat => pre.length) (fun pre => pre.map (chunkV b off len)) (fun pre v => True)) _) (ownFrom_below (Nat.le_refl _) (by simp)))
    (fun _ _ _ _ _ hs _ _ => hs)
    ⟨⟨_, bO, World.ownsRow_nil _ _ _ _, trivial⟩, hB0⟩
    (fun x => { tmps := #[.slice none 0 0, .func (.func 113) #[] #[.pointer (some ⟨Bs, 0, none⟩), .pointer (some ⟨Bn, 0, none⟩)], .pointer (some ⟨w.heap.size, 0, none⟩), undef, .slice none 0 0, chunkV b off len x, .func (.func 113) #[] #[.pointer (some ⟨Bs, 0, none⟩), .pointer (some ⟨Bn, 0, none⟩)], chunkV b off len x, undef, undef, undef, undef, undef], defers := [] }) ?assign ?body ?done ?stop
  case assign =>
    intro l x W K hK
    gi_wp2
    exact hK
  case body =>
    rintro l pre x W ⟨⟨v, hv, hrow, -⟩, hB⟩ hlt
    have hc := hv.cell
    unfold chunkV at hrow ⊢
    gi_wp2_with (gi_at_builtin; refine wpListIn_append_own _ rfl _ _ 40 rfl w.heap.size 23 i0 (.slice none 0 0) 1 24 Try.underlying40 hi hz0 hz1 hz2 rfl (by decide) _ _ _ rfl (hrow.alloc _) ⟨W.heap.size, 0, none⟩ 1 1 [.slice (some ⟨b, off + 4086 * x, none⟩) (lenAt len x) (lenAt len x)] rfl rfl (cell_one_new _ _ _) (by simp [Value.oneCell']) (by unfold maxLen; omega) (by omega) (by have := hB.size; simp; omega) ?_; intro v' w1 hown' hgrow _; obtain ⟨g', cap', rfl⟩ := ownsRow_succ hown'; obtain ⟨hv1, hv2, hr2, hk2, hb2⟩ := hv.appended (by decide) hrow hB.size (Nat.le_refl _) hown' hgrow; have hc1 := hv1.cell; have hf1 := hv1.frozen)
    exact ⟨hk2.from _, hb2, ⟨_, hv2, by simpa using hr2, trivial⟩, hB.trans hb2⟩
  case done =>
    rintro D ys W hD rfl ⟨⟨v, hv, hrow, -⟩, hB⟩ hK
    have hc := hv.cell
    gi_wp2
    refine ⟨by simp, .inl ⟨_, _, rfl, run_takeDeferred hK, ?_⟩⟩
    rw [List.length_range] at hrow
    exact ⟨_, results_tmp rfl _ _ _, v, rfl, ownsRow_putObj hrow _ hK rfl, hB.trans (belowK_b (w := w) (Nat.le_refl _) W D _ _ (by simp at hD; omega) hK rfl rfl)⟩
  case stop =>
    rintro D c pre W _ _ h _
    exact h.elim
set_option maxHeartbeats 1600000 in
theorem collect_any (Bs Bn b off len cap M : Nat) (hM : M = (len + 4085) / 4086) (hlen : len ≤ 1048576) (hcap : len ≤ cap) (w : World)
    (c1 : w.cell? ⟨Bs, 0, none⟩ = some (.slice (some ⟨b, off, none⟩) len cap)) (c2 : w.cell? ⟨Bn, 0, none⟩ = some (.int .i64 4086)) :
    Calls Try.prog 70 #[.func (.func 113) #[] #[.pointer (some ⟨Bs, 0, none⟩), .pointer (some ⟨Bn, 0, none⟩)]] w fun e w' =>
      ∃ v, e = .returned v ∧ w'.ownsRow w.heap.size 23 1 v M ((List.range M).map (chunkV b off len)) ∧ Below w.heap.size w w' := by
  have HA := Lib.hid (appendSeq_any Bs Bn b off len cap M hM hlen hcap w c1 c2)
  clear c1 c2 hM
  go_enter Try.func70, Try.ntmps70
  go_wp2_with fail
  refine HA.out.mono ?_
  rintro e w1 ⟨v, rfl, ho, hb⟩
  have HO := Lib.hid ho
  have HB := Lib.hid hb
  clear ho hb
  go_wp2_with fail
  go_ret
  exact ⟨_, rfl, HO.out, HB.out⟩

end

section

open Go.ChangeShapes Go.WideShapes Go.ChangeAt Go.RowKit
set_option linter.unusedVariables false

theorem box6 {w : World} {g : Nat} {a0 a1 a2 a3 a4 a5 : Value} {T : TypeId} (h : w.heap[g]? = some (.cells #[a0, a1, a2, a3, a4, a5] T (0, 0))) :
    (w.cell? ⟨g, 0, none⟩ = some a0 ∧ w.cell? ⟨g, 1, none⟩ = some a1 ∧ w.cell? ⟨g, 2, none⟩ = some a2 ∧ w.cell? ⟨g, 3, none⟩ = some a3 ∧ w.cell? ⟨g, 4, none⟩ = some a4 ∧ w.cell? ⟨g, 5, none⟩ = some a5) ∧ ∀ i, w.frozen? ⟨g, i, none⟩ = false := by
  refine ⟨⟨?_, ?_, ?_, ?_, ?_, ?_⟩, fun i => ?_⟩ <;> simp [World.cell?, World.frozen?, h]
/-- A pager that Open returned, or none. -/
def Pmk (w : World) (v : Value) (b : Bool) : Prop := (v = .pointer none ∧ b = false) ∨ ∃ g a, v = .pointer (some ⟨g, 0, none⟩) ∧ w.cell? ⟨g, 0, none⟩ = some (.pointer a) ∧ b = a.isSome
theorem Pgr.made {w : World} {B : Nat} {F : Nat → Prop} {gp gd gm : Nat} {s : St} {p : Pg} (h : Pgr w B F gp gd gm s p) : Pmk w (.pointer (some ⟨gp, 0, none⟩)) true := .inr ⟨gp, _, rfl, (box6 h.box).1.1, rfl⟩
set_option maxHeartbeats 1600000 in
theorem pmade_any {v : Value} {b : Bool} {w : World} (h : Pmk w v b) : Calls Try.prog 69 #[v] w fun e w' => e = .returned (.bool b) ∧ w = w' := by
  rcases h with ⟨rfl, rfl⟩ | ⟨g, a, rfl, hc, rfl⟩
  · go_enter Try.func69, Try.ntmps69
    go_wp2
    go_ret
    exact ⟨rfl, rfl⟩
  · cases a with
    | none =>
      go_enter Try.func69, Try.ntmps69
      go_wp2
      go_ret
      exact ⟨rfl, rfl⟩
    | some x =>
      go_enter Try.func69, Try.ntmps69
      go_wp2
      go_ret
      exact ⟨rfl, rfl⟩
set_option maxHeartbeats 1600000 in
theorem exists_any (n : Int) {w : World} {B : Nat} {F : Nat → Prop} {gp gd gm : Nat} {s : St} {p : Pg} (h : Pgr w B F gp gd gm s p) : Calls Try.prog 75 #[.pointer (some ⟨gp, 0, none⟩), .int .i64 n] w fun e w' => e = .returned (.bool (p.is n)) ∧ w = w' := by
  obtain ⟨⟨-, -, -, -, c4, -⟩, -⟩ := box6 h.box
  unfold Pg.is
  generalize p.nb = m at *
  clear h
  by_cases h2 : 2 ≤ n
  · go_enter Try.func75, Try.ntmps75
    go_wp2
    go_ret
    exact ⟨ret_bool (by rw [decide_eq_true h2, Bool.true_and]), rfl⟩
  · have h2' : decide (2 ≤ n) = false := by simpa using h2
    go_enter Try.func75, Try.ntmps75
    go_wp2
    go_ret
    exact ⟨rfl, rfl⟩
set_option maxHeartbeats 1600000 in
theorem room_any {w : World} {B : Nat} {F : Nat → Prop} {gp gd gm : Nat} {s : St} {p : Pg} (h : Pgr w B F gp gd gm s p) : Calls Try.prog 72 #[.pointer (some ⟨gp, 0, none⟩)] w fun e w' => e = .returned (.int .i64 (1022 - (cntS p.st : Int))) ∧ w = w' := by
  have HM := Lib.hid (pmade_any h.made)
  obtain ⟨⟨-, -, -, -, -, c5⟩, -⟩ := box6 h.box
  have hl := fun ty => h.map.len ty
  have hc : (cntS p.st : Int) ≤ 1022 := by have := cnt_le p.st; have := h.ok.len; omega
  generalize cntS p.st = m at *
  clear h
  go_enter Try.func72, Try.ntmps72
  go_wp2_with fail
  refine HM.out.mono ?_
  rintro e w' ⟨rfl, rfl⟩
  go_wp2_with fail
  go_ret
  exact ⟨rfl, rfl⟩
set_option maxHeartbeats 1600000 in
theorem head_any {w : World} {B : Nat} {F : Nat → Prop} {gp gd gm : Nat} {s : St} {p : Pg} (h : Pgr w B F gp gd gm s p) : Calls Try.prog 28 #[.pointer (some ⟨gp, 0, none⟩)] w fun e w' => e = .returned (.agg #[.int .i64 p.gen, .int .i64 p.root, .int .i64 p.hb]) ∧ Below w.heap.size w w' := by
  have HM := Lib.hid (fun w' (hb : Below w.heap.size w w') => pmade_any (h.below hb).made)
  have hlt := (h.lies gp h.fp).2
  obtain ⟨⟨-, c1, c2, c3, -, -⟩, -⟩ := box6 h.box
  generalize p.gen = m1 at *
  generalize p.root = m2 at *
  generalize p.hb = m3 at *
  clear h
  go_enter Try.func28, Try.ntmps28
  go_wp2_with fail
  refine (HM.out _ (alloc_below _ _)).mono ?_
  rintro e w' ⟨rfl, rfl⟩
  go_wp2_with fail
  refine bodyPost_ret (v := .agg #[.int .i64 m1, .int .i64 m2, .int .i64 m3]) (by simp [results, Try.results28, go_sem]) rfl ⟨rfl, ?_⟩
  first | exact alloc_below _ _ | (trace_state; sorry)

end

section

open Go.ChangeShapes Go.WideShapes Go.ChangeAt Go.RowKit
set_option linter.unusedVariables false

theorem set6 {w : World} {g : Nat} {cs : Array Value} {T : TypeId} (h : w.heap[g]? = some (.cells cs T (0, 0))) (i : Nat) (u : Value) : (w.setCell ⟨g, i, none⟩ u).heap[g]? = some (.cells (cs.set! i u) T (0, 0)) := by
  simp only [World.setCell, Array.getElem?_modify, if_pos, h, Option.map_some]
  rfl
theorem free_le (st : List Nat) : firstFree st ≤ st.length := List.findIdx_le_length
theorem free_before (st : List Nat) (k : Nat) (h : k < firstFree st) : ¬ stAt st ((k : Int) + 2) = 0 := by
  have hl := free_le st
  have := List.not_of_lt_findIdx h
  rw [stAt_i, List.getD_eq_getElem?_getD, List.getElem?_eq_getElem (by omega)]
  simpa using this
theorem free_at (st : List Nat) : stAt st ((firstFree st : Int) + 2) = 0 := by
  rw [stAt_i, List.getD_eq_getElem?_getD]
  by_cases h : firstFree st < st.length
  · have : (st[firstFree st] == 0) = true := List.findIdx_getElem (w := h)
    rw [List.getElem?_eq_getElem h]
    have h0 : st[firstFree st] = 0 := by simpa using this
    exact h0
  · rw [List.getElem?_eq_none (by omega)]
    rfl
theorem Pg.Ok.alloc {p : Pg} (h : p.Ok) : p.alloc.1.Ok := by
  unfold Pg.alloc
  split
  · exact h
  · rename_i hne
    have hl := free_le p.st
    have h2 := h.len
    refine ⟨?_, h.gen, h.root, h.hb, fun x hx => ?_⟩
    · simp only []
      rw [put_len _ _ _ hl]
      omega
    · rcases put_mem _ _ _ x hx with hx | hx
      · exact h.small x hx
      · omega
theorem grown_fr {w w' : World} {g : Nat} {F : Nat → Prop} (h : w.grownBy w' (some g)) (hF : F g) : Fr F w w' := ⟨h.os, h.tape, h.output, h.size, fun k hk hn => h.block k hk fun e => by cases e; exact hn hF⟩
set_option maxHeartbeats 4000000 in
set_option maxRecDepth 100000 in
theorem alloc_any {w : World} {B : Nat} {F : Nat → Prop} {gp gd gm : Nat} {s : St} {p : Pg} (h : Pgr w B F gp gd gm s p) : Calls Try.prog 115 #[.pointer (some ⟨gp, 0, none⟩)] w fun e w' => e = .returned (.tuple #[.int .i64 p.alloc.2.1, .int .i64 p.alloc.2.2]) ∧ Pgr w' B F gp gd gm s p.alloc.1 ∧ Fr F w w' := by
  have HM := Lib.hid (pmade_any h.made)
  obtain ⟨⟨-, -, -, -, c4, c5⟩, f0⟩ := box6 h.box
  have hat := fun (n : Int) hn => h.map.at n hn
  have hl := free_le p.st
  have hl2 := h.ok.len
  have hb := free_before p.st
  have ha := free_at p.st
  obtain ⟨N, hN⟩ : ∃ N, N = firstFree p.st := ⟨_, rfl⟩
  rw [← hN] at hl hb ha
  have HN := Lib.hid hN
  have hat0 := hat ((N : Int) + 2) (by omega)
  rw [ha] at hat0
  have hnb : (p.nb : Int) ≤ 1024 := by unfold Pg.nb; omega
  by_cases hfull : N = 1022
  · have HR := Lib.hid (show p.alloc = (p, 0, 5) by unfold Pg.alloc; rw [← HN.out, if_pos hfull])
    have H := Lib.hid h
    have HAT := Lib.hid hat
    have HB := Lib.hid hb
    have heq : ((N : Int) + 2 == 1024) = true := by simp; omega
    have hNI : (N : Int) + 2 ≤ 1024 := by omega
    have hN2 : N ≤ 1022 := by omega
    clear h hat hb ha hN hl hl2 hnb hfull
    go_enter Try.func115, Try.ntmps115
    go_wp2_with fail
    refine HM.out.mono ?_
    rintro e w' ⟨rfl, rfl⟩
    go_wp2_with fail
    go_loop [4] (fun n => ∃ k : Nat, k ≤ N ∧ n = .int .i64 ((k : Int) + 2)) (fun n => 1024 - (intOf n).toNat)
    case atStart => exact ⟨0, by omega, rfl⟩
    case round =>
      obtain ⟨k, hk, rfl⟩ := hrel
      by_cases hlt : k < N
      · have hx := HB.out k hlt
        have hatk := HAT.out ((k : Int) + 2) (by omega)
        generalize stAt p.st ((k : Int) + 2) = x at *
        go_wp2_with fail
        go_round
        case rel => exact ⟨k + 1, by omega, by go_num⟩
        case measure => simp [intOf]; omega
      · obtain rfl : k = N := by omega
        go_wp2_with fail
        go_ret2
        rw [HR.out]
        exact ⟨rfl, H.out, Fr.refl _ _⟩
  · have HR := Lib.hid (show p.alloc = ({ p with st := putS p.st N 3 }, (N : Int) + 2, 0) by unfold Pg.alloc; rw [← HN.out, if_neg hfull])
    obtain ⟨w1, hrun, hm1, hg1, hs1⟩ := h.map.put N 3 hl hl2 (by omega) (by omega)
    have hrun' : (Instr.mapUpdate 117 (.map (some gm)) (.int .i64 ((N : Int) + 2)) (.int .i64 3)).run Try.prog w = .ok () w1 := hrun
    have hgp : w1.heap[gp]? = w.heap[gp]? := hg1.block gp (h.lies gp h.fp).2 fun e => by cases e; exact h.ne rfl
    have hbx := hgp.trans h.box
    obtain ⟨⟨-, -, -, -, d4, d5⟩, f1⟩ := box6 hbx
    have HBX := Lib.hid hbx
    have HM1 := Lib.hid hm1
    have HG1 := Lib.hid hg1
    have HS1 := Lib.hid hs1
    have H := Lib.hid h
    have HAT := Lib.hid hat
    have HB := Lib.hid hb
    have hNI : (N : Int) + 2 ≤ 1023 := by omega
    have hne : ¬ (N : Int) + 2 = 1024 := by omega
    have HMX : Hid (max (p.nb : Int) ((N : Int) + 2 + 1) = ((max p.st.length (N + 1) + 2 : Nat) : Int)) := by unfold Pg.nb; show _ = _; omega
    have HL := Lib.hid hl
    clear h hat hb ha hN hl hl2 hrun hm1 hg1 hs1 hgp hbx hfull
    generalize p.nb = nb at *
    go_enter Try.func115, Try.ntmps115
    go_wp2_with fail
    refine HM.out.mono ?_
    rintro e w' ⟨rfl, rfl⟩
    go_wp2_with fail
    go_loop [4] (fun n => ∃ k : Nat, k ≤ N ∧ n = .int .i64 ((k : Int) + 2)) (fun n => 1024 - (intOf n).toNat)
    case atStart => exact ⟨0, by omega, rfl⟩
    case round =>
      obtain ⟨k, hk, rfl⟩ := hrel
      by_cases hlt : k < N
      · have hx := HB.out k hlt
        have hatk := HAT.out ((k : Int) + 2) (by omega)
        generalize stAt p.st ((k : Int) + 2) = x at *
        go_wp2_with fail
        go_round
        case rel => exact ⟨k + 1, by omega, by go_num⟩
        case measure => simp [intOf]; omega
      · obtain rfl : k = N := by omega
        go_wp2_with fail
        rw [HMX.out]
        go_ret2
        rw [HR.out]
        have hst : (putS p.st k 3).length = max p.st.length (k + 1) := put_len _ _ _ HL.out
        have hbx := set6 HBX.out 4 (.int .i64 ((max p.st.length (k + 1) + 2 : Nat) : Int))
        refine ⟨rfl, ⟨?_, (HM1.out.block (Below.heap_setCell _ _ _ _ H.out.ne.symm)), ?_, ?_, H.out.fp, H.out.fm, H.out.ne, ?_⟩, ?_⟩
        · rw [hbx]
          unfold Pg.nb
          rw [hst]
          rfl
        · have := H.out.ok.alloc
          rw [HR.out] at this
          exact this
        · obtain ⟨Fd, h1, h2, h3, h4, h5⟩ := H.out.disk
          have hs : w.heap.size ≤ (w1.setCell ⟨gp, 4, none⟩ (.int .i64 ((max p.st.length (k + 1) + 2 : Nat) : Int))).heap.size := by simp [World.setCell]; exact Nat.le_of_eq HS1.out.symm
          refine ⟨Fd, h1.same hs fun j hj hF _ => ?_, h2, h3, h4, h5.size hs⟩
          have hjp : j ≠ gp := fun e => hF.elim (fun h' => h3 (e ▸ h')) fun h' => by have := (H.out.lies gp H.out.fp).1; omega
          have hjm : j ≠ gm := fun e => hF.elim (fun h' => h4 (e ▸ h')) fun h' => by have := (H.out.lies gm H.out.fm).1; omega
          exact (Below.heap_setCell _ _ _ _ hjp).trans (HG1.out.block j hj fun e => by cases e; exact hjm rfl)
        · exact H.out.lies.size (by simp [World.setCell]; exact Nat.le_of_eq HS1.out.symm)
        · exact (grown_fr HG1.out H.out.fm).trans (Fr.set _ _ _ _ H.out.fp)

end

section

open Go.ChangeShapes Go.WideShapes Go.ChangeAt Go.RowKit Go.Deep
set_option linter.unusedVariables false

set_option maxHeartbeats 3200000 in
set_option maxRecDepth 100000 in
theorem grow_any (k : Nat) (w : World) (h0 : 0 < k) (hk : k ≤ 100000000000000) : Calls Try.prog 143 #[.slice none 0 0, .int .i64 k] w fun e w' => ∃ v, e = .returned v ∧ OwnB w' w.heap.size v [] ∧ Below w.heap.size w w' := by
  obtain ⟨v', w', hr, ho, hg⟩ := run_zeros w 23 (.slice none 0 0) [] (OwnB.nil w 0) k h0 (by simp; omega)
  rw [List.nil_append] at ho
  obtain ⟨g, c, rfl, hkc, _⟩ := World.ownsRow.form ho (by simp; omega)
  have hgl : w.heap.size ≤ g := by
    rcases hg.at_ with e | e
    · cases e
    · exact e g rfl
  rw [List.length_replicate] at hr
  have ho2 : OwnB w' w.heap.size (.slice (some ⟨g, 0, none⟩) 0 c) [] := by
    have h1 := own_cutB (own_raise ho hgl) 0
    rw [Nat.zero_min, List.take_zero] at h1
    exact h1
  have HO := Lib.hid ho2
  have HB := Lib.hid hg.fresh
  have hkI : (0 : Int) < (k : Int) := by omega
  have hkJ : (k : Int) ≤ 100000000000000 := by omega
  clear ho ho2 hg
  go_enter Try.func143, Try.ntmps143
  go_wp2_with (at_builtin; refine wpList_run2 rfl _ _ rfl hr rfl rfl rfl ?_; clear hr; refine Hid.out ?_)
  refine Lib.hid ?_
  go_wp2_with fail
  go_ret
  exact ⟨_, rfl, HO.out, HB.out⟩
theorem app_none {w : World} {B : Nat} {v : Value} {l : List UInt8} (hown : OwnB w B v l) (ty : TypeId) (A : Option Addr) (c : Nat) : (Builtin.append_ #[23, 23] ty #[v, .slice A 0 c]).run Try.prog w = .ok v w := by
  obtain ⟨i, hi, hz, hs, hbb⟩ := info_parts byteInfo
  have ht := Try.underlying23
  obtain ⟨a, cap, rfl, hcap, -⟩ := hown.slice
  cases a <;> cases A <;> simp [Builtin.append_, run_underlying ht, sizeOf, typeInfo, zeroValue, hi, hz, asInt, asIntOf, hcap, Builtin.lenOf, Builtin.firstCells, loadCells, loadCellsFrom, storeCells]
theorem own_nil_app {w : World} {B : Nat} {v : Value} {l : List UInt8} (h : OwnB w B v l) : OwnB w B v (l ++ []) := by rw [List.append_nil]; exact h
def totalE (es : List Piece3) : List UInt8 := es.flatMap Piece3.l
theorem totalE_take (es : List Piece3) (k : Nat) (h : k < es.length) : totalE (es.take (k + 1)) = totalE (es.take k) ++ es[k].l := by
  unfold totalE
  rw [List.take_succ_eq_append_getElem h, List.flatMap_append]
  simp
theorem totalE_le (es : List Piece3) (k : Nat) : (totalE (es.take k)).length ≤ (totalE es).length := by
  conv => rhs; rw [← List.take_append_drop k es]
  unfold totalE
  rw [List.flatMap_append, List.length_append]
  omega
theorem SlRd.below {w w' : World} {g off : Nat} {es : List Piece3} (h : SlRd w g off es) (hb : Below w.heap.size w w') : SlRd w' g off es := fun i hi => by
  obtain ⟨h1, h2, h3⟩ := h i hi
  exact ⟨(hb.cell (p := ⟨g, off + i, none⟩) (World.block_lt_of_cell? w _ h1)).trans h1, h2.below hb, h3⟩
set_option maxHeartbeats 6400000 in
set_option maxRecDepth 100000 in
theorem concat_any (g off c : Nat) (es : List Piece3) (w : World) (h : SlRd w g off es) (hl : es.length ≤ 1000) (h0 : 0 < (totalE es).length) (ht : (totalE es).length ≤ 100000000000000) :
    Calls Try.prog 117 #[.slice (some ⟨g, off, none⟩) es.length c] w fun e w' => ∃ v, e = .returned v ∧ OwnB w' w.heap.size v (totalE es) ∧ Below w.heap.size w w' := by
  have HG := Lib.hid (grow_any (totalE es).length w h0 ht)
  have HH := Lib.hid h
  have HT := Lib.hid ht
  have HL : Hid (∀ k, (totalE (es.take k)).length ≤ (totalE es).length) := totalE_le es
  clear h h0 ht
  go_enter Try.func117, Try.ntmps117
  go_wp2_with fail
  go_loop [3, 11] (fun x i => ∃ k : Nat, k ≤ es.length ∧ i = .int .i64 k ∧ x = .int .i64 ((totalE (es.take k)).length : Nat)) (fun _ i => es.length - (intOf i).toNat)
  case atStart => exact ⟨0, by omega, rfl, rfl⟩
  case round =>
    obtain ⟨k, hk, rfl, rfl⟩ := hrel
    by_cases hlt : k < es.length
    · obtain ⟨c1, -, -⟩ := HH.out k hlt
      have HTK := Lib.hid (totalE_take es k hlt)
      have hb1 : (totalE (es.take k)).length + es[k].l.length ≤ (totalE es).length := by have h1 := HL.out (k + 1); rw [HTK.out, List.length_append] at h1; exact h1
      have hb2 : ((totalE (es.take k)).length : Int) + (es[k].l.length : Int) ≤ 100000000000000 := by have := HT.out; omega
      have HS : Hid ((totalE (es.take (k + 1))).length = (totalE (es.take k)).length + es[k].l.length) := by rw [HTK.out, List.length_append]; exact rfl
      clear hb1
      generalize es[k].l.length = n1 at *
      generalize (totalE (es.take k)).length = n2 at *
      go_wp2_with fail
      go_round
      case rel => exact ⟨k + 1, by omega, by go_num, by rw [HS.out]; go_num⟩
      case measure => simp [intOf]; omega
    · obtain rfl : k = es.length := by omega
      rw [List.take_length]
      go_wp2_with fail
      refine HG.out.mono ?_
      rintro e w1 ⟨v1, rfl, ho1, hb1⟩
      have HO1 := Lib.hid ho1
      have HB1 := Lib.hid hb1
      have HH1 := Lib.hid (HH.out.below hb1)
      clear ho1 hb1
      go_wp2_with fail
      go_loopw [6, 27] (fun x i wr => ∃ k : Nat, k ≤ es.length ∧ i = .int .i64 k ∧ OwnB wr w.heap.size x (totalE (es.take k)) ∧ Below w.heap.size w wr) (fun _ i _ => es.length - (intOf i).toNat)
      case atStart => exact ⟨0, by omega, rfl, HO1.out, HB1.out⟩
      case round =>
        obtain ⟨k, hk, rfl, hok, hbk⟩ := hrel
        by_cases hlt : k < es.length
        · obtain ⟨c1, hA, -⟩ := (HH.out.below hbk) k hlt
          have HTK := Lib.hid (totalE_take es k hlt)
          have HSZ : Hid ((totalE (es.take k)).length + es[k].l.length ≤ 140737488355328) := by have h1 := HL.out (k + 1); have := HT.out; rw [HTK.out, List.length_append] at h1; show _ ≤ _; omega
          have HA := Lib.hid hA
          have HOK := Lib.hid hok
          have HBK := Lib.hid hbk
          obtain ⟨aa, capa, rfl, -, -⟩ := hok.slice
          by_cases hz : es[k].l.length = 0
          · have hnone := app_none HOK.out 23 es[k].a es[k].c
            have HE : Hid (totalE (es.take (k + 1)) = totalE (es.take k)) := by show _ = _; rw [HTK.out, List.eq_nil_of_length_eq_zero hz, List.append_nil]
            rw [hz] at c1
            clear hA hok hbk hz
            generalize (totalE (es.take k)).length = n2 at *
            go_wp2_with (at_builtin; refine wpList_run2 rfl _ _ rfl hnone rfl rfl rfl ?_; clear hnone; refine Hid.out ?_)
            refine Lib.hid ?_
            go_wp2_with fail
            go_roundw
            case rel => exact ⟨k + 1, by omega, by go_num, by rw [HE.out]; exact HOK.out, HBK.out⟩
            case measure => simp [intOf]; omega
          · have HZ : Hid (0 < es[k].l.length) := Nat.pos_of_ne_zero hz
            clear hA hok hbk hz
            go_wp2_with (at_builtin; refine wpList_app rfl _ _ rfl w.heap.size (.slice aa (totalE (es.take k)).length capa) (totalE (es.take k)) es[k].a es[k].c es[k].l rfl rfl HOK.out HA.out HZ.out HBK.out.size HSZ.out ?_; intro v3 w3 hown3 hg3; refine Hid.out ?_)
            refine Lib.hid ?_
            have HO3 := Lib.hid hown3
            have HB3 := Lib.hid (hg3.below HOK.out HBK.out.size)
            clear hown3 hg3
            go_wp2_with fail
            go_roundw
            case rel => exact ⟨k + 1, by omega, by go_num, by rw [HTK.out]; exact HO3.out, below_tr HBK.out HB3.out⟩
            case measure => simp [intOf]; omega
        · obtain rfl : k = es.length := by omega
          rw [List.take_length] at hok
          have HOK := Lib.hid hok
          have HBK := Lib.hid hbk
          obtain ⟨aa, capa, rfl, -, -⟩ := hok.slice
          clear hok hbk
          go_wp2_with fail
          go_ret
          exact ⟨_, rfl, HOK.out, HBK.out⟩

end

section

open Go.ChangeShapes Go.WideShapes Go.ChangeAt Go.RowKit
set_option linter.unusedVariables false

theorem Pgr.plus {w w' : World} {B : Nat} {F : Nat → Prop} {gp gd gm : Nat} {s : St} {p : Pg} (h : Pgr w B F gp gd gm s p) (hB : B ≤ w.heap.size) (hb : Below w.heap.size w w') : Pgr w' B (Plus F w w') gp gd gm s p ∧ Fr F w w' :=
  ⟨(h.below hb).mono (fun k hk => .inl hk) (h.lies.plus hB hb.size), .of_below hb⟩
theorem Pgr.plus_then {w w1 w2 : World} {B : Nat} {F : Nat → Prop} {gp gd gm : Nat} {s : St} {p : Pg} (h : Pgr w2 B (Plus F w1 w2) gp gd gm s p ∧ Fr F w1 w2) (hb : Below w.heap.size w w1) (hl : Lies w B F) (hB : B ≤ w.heap.size) : Pgr w2 B (Plus F w w2) gp gd gm s p ∧ Fr F w w2 :=
  ⟨h.1.mono (fun k hk => hk.imp id fun h' => ⟨Nat.le_trans hb.size h'.1, h'.2⟩) (hl.plus hB (Nat.le_trans hb.size h.2.size)), (Fr.of_below hb).trans' h.2 fun _ _ h => h⟩
theorem is_iff (p : Pg) (n : Int) : p.is n = true ↔ 2 ≤ n ∧ n < (p.nb : Int) := by simp [Pg.is]
/-- What a call of the pager's leaves that answers an errno. -/
def PgPost (B : Nat) (F : Nat → Prop) (gp gd gm : Nat) (s : St) (p : Pg) (er : Int) (w : World) (e : Ending) (w' : World) : Prop := e = .returned (.int .i64 er) ∧ Pgr w' B (Plus F w w') gp gd gm s p ∧ Fr F w w'
set_option maxHeartbeats 6400000 in
set_option maxRecDepth 100000 in
theorem pwrite_any {w : World} {B : Nat} {F : Nat → Prop} {gp gd gm : Nat} {s : St} {p : Pg} (h : Pgr w B F gp gd gm s p) (hB : B ≤ w.heap.size) (n : Int) (A : Option Addr) (c m : Nat) (b : List UInt8) (hA : BRd w A b) (hm : m = b.length) (hlim : s.pcs.length + 4194304 ≤ 8000000000000) :
    Calls Try.prog 116 #[.pointer (some ⟨gp, 0, none⟩), .int .i64 n, .slice A m c] w (PgPost B F gp gd gm (p.write s n b).1 p (p.write s n b).2 w) := by
  subst hm
  have HM := Lib.hid (pmade_any h.made)
  have HX := Lib.hid (exists_any n h)
  obtain ⟨⟨c0, -, -, -, -, c5⟩, -⟩ := box6 h.box
  have hlt := (h.lies gp h.fp).2
  have H := Lib.hid h
  have HLIM := Lib.hid hlim
  have HBB := Lib.hid hB
  have hok := h.ok.len
  unfold PgPost
  by_cases hi : p.is n = true
  · have hi2 := (is_iff p n).1 hi
    have hn1 : 2 ≤ n := hi2.1
    have hn2 : n ≤ 1023 := by have := hi2.2; unfold Pg.nb at this; omega
    have hat := h.map.at n (by omega)
    by_cases h3 : stAt p.st n = 3
    · rw [h3] at hat
      by_cases hl : 4090 < b.length
      · have HR := Lib.hid (show p.write s n b = (s, 3) by unfold Pg.write; rw [if_neg (by rw [hi]; simp), if_neg (by rw [h3]; simp), if_pos hl])
        have HS := Lib.hid (seal_long A c b w hl)
        rw [hi] at HX
        clear h hi hi2 h3 hl hlim hB hok hA
        go_enter Try.func116, Try.ntmps116
        go_wp2_with fail
        refine HM.out.mono ?_
        rintro e w' ⟨rfl, rfl⟩
        go_wp2_with fail
        refine HX.out.mono ?_
        rintro e w' ⟨rfl, rfl⟩
        go_wp2_with fail
        refine HS.out.mono ?_
        rintro e w' ⟨rfl, rfl⟩
        go_wp2_with fail
        go_ret
        rw [HR.out]
        exact ⟨rfl, H.out.plus HBB.out (Below.refl _ _)⟩
      · have HR := Lib.hid (show p.write s n b = s.write 0 (4096 * n) (sealB b) by unfold Pg.write; rw [if_neg (by rw [hi]; simp), if_neg (by rw [h3]; simp), if_neg hl])
        have HSL := Lib.hid (sealB_len b (by omega))
        have HS := Lib.hid (seal_any A c b w hA (by omega))
        rw [hi] at HX
        clear h hi hi2 h3 hl hlim hB hok hA
        go_enter Try.func116, Try.ntmps116
        go_wp2_with fail
        refine HM.out.mono ?_
        rintro e w' ⟨rfl, rfl⟩
        go_wp2_with fail
        refine HX.out.mono ?_
        rintro e w' ⟨rfl, rfl⟩
        go_wp2_with fail
        refine HS.out.mono ?_
        rintro e w2 ⟨a2, k2, rfl, ho2, hb2⟩
        have d0 : w2.cell? ⟨gp, 0, none⟩ = some (.pointer (some ⟨gd, 0, none⟩)) := (hb2.cell (p := ⟨gp, 0, none⟩) hlt).trans c0
        have HBR : Hid (BRd w2 a2 (sealB b)) := by
          have h' := ho2
          rw [← HSL.out] at h'
          exact OwnB.brd h'
        have HB2 := Lib.hid hb2
        have H2 := Lib.hid (H.out.below hb2)
        clear ho2 hb2
        go_wp2_with fail
        refine (pgr_write H2.out (Nat.le_trans HBB.out HB2.out.size) 0 (4096 * n) a2 k2 4096 (sealB b) HBR.out HSL.out.symm (by rw [HSL.out]; omega) HLIM.out).mono ?_
        rintro e w3 ⟨rfl, hp3, hf3⟩
        have H3 := Lib.hid (Pgr.plus_then ⟨hp3, hf3⟩ HB2.out H.out.lies HBB.out)
        clear hp3 hf3
        go_wp2_with fail
        go_ret
        rw [HR.out]
        exact ⟨rfl, H3.out⟩
    · have HR := Lib.hid (show p.write s n b = (s, 51) by unfold Pg.write; rw [if_neg (by rw [hi]; simp), if_pos h3])
      rw [hi] at HX
      generalize stAt p.st n = x at *
      clear h hi hi2 hlim hB hok hA
      go_enter Try.func116, Try.ntmps116
      go_wp2_with fail
      refine HM.out.mono ?_
      rintro e w' ⟨rfl, rfl⟩
      go_wp2_with fail
      refine HX.out.mono ?_
      rintro e w' ⟨rfl, rfl⟩
      go_wp2_with fail
      go_ret
      rw [HR.out]
      exact ⟨rfl, H.out.plus HBB.out (Below.refl _ _)⟩
  · have hi' : p.is n = false := by simpa using hi
    have HR := Lib.hid (show p.write s n b = (s, 1) by unfold Pg.write; rw [if_pos hi'])
    rw [hi'] at HX
    clear h hi hi' hlim hB hok hA
    go_enter Try.func116, Try.ntmps116
    go_wp2_with fail
    refine HM.out.mono ?_
    rintro e w' ⟨rfl, rfl⟩
    go_wp2_with fail
    refine HX.out.mono ?_
    rintro e w' ⟨rfl, rfl⟩
    go_wp2_with fail
    go_ret
    rw [HR.out]
    exact ⟨rfl, H.out.plus HBB.out (Below.refl _ _)⟩
set_option maxHeartbeats 6400000 in
set_option maxRecDepth 100000 in
theorem pread_any {w : World} {B : Nat} {F : Nat → Prop} {gp gd gm : Nat} {s : St} {p : Pg} (h : Pgr w B F gp gd gm s p) (n : Int) :
    Calls Try.prog 37 #[.pointer (some ⟨gp, 0, none⟩), .int .i64 n] w (RReadK (p.read s n) w) := by
  have HM := Lib.hid (pmade_any h.made)
  have HX := Lib.hid (exists_any n h)
  obtain ⟨⟨c0, -, -, -, -, -⟩, -⟩ := box6 h.box
  have hok := h.ok.len
  by_cases hi : p.is n = true
  · have hi2 := (is_iff p n).1 hi
    have hn1 : 2 ≤ n := hi2.1
    have hn2 : n ≤ 1023 := by have := hi2.2; unfold Pg.nb at this; omega
    have HD := Lib.hid (dsk_read h.dsk 0 (4096 * n) 4096)
    have HR := Lib.hid (show p.read s n = if (s.read 0 (4096 * n) 4096).2 ≠ 0 then ([], (s.read 0 (4096 * n) 4096).2) else if (s.read 0 (4096 * n) 4096).1.length < 4096 then ([], 50) else unsealV (s.read 0 (4096 * n) 4096).1 by unfold Pg.read; rw [if_neg (by rw [hi]; simp)])
    rw [hi] at HX
    generalize s.read 0 (4096 * n) 4096 = r at *
    clear h hi hi2 hok
    unfold ReadPost at HD
    by_cases h2 : r.2 = 0
    · have HR2 := Lib.hid (HR.out.trans (if_neg (by simp [h2])))
      by_cases h4 : r.1.length < 4096
      · have HR3 := Lib.hid (HR2.out.trans (if_pos h4))
        rw [h2] at HD
        clear h2
        go_enter Try.func37, Try.ntmps37
        go_wp2_with fail
        refine HM.out.mono ?_
        rintro e w' ⟨rfl, rfl⟩
        go_wp2_with fail
        refine HX.out.mono ?_
        rintro e w' ⟨rfl, rfl⟩
        go_wp2_with fail
        refine HD.out.mono ?_
        rintro e w1 ⟨v1, rfl, ho1, hb1⟩
        have HB1 := Lib.hid hb1
        obtain ⟨a1, k1, rfl, -, -⟩ := ho1.slice
        clear ho1 hb1
        go_wp2_with fail
        go_ret2
        rw [HR3.out]
        exact ⟨none, 0, 0, rfl, rfl, Nat.le_refl _, OwnB.nil _ _, HB1.out⟩
      · have HR3 := Lib.hid (HR2.out.trans (if_neg h4))
        rw [h2] at HD
        clear h2
        go_enter Try.func37, Try.ntmps37
        go_wp2_with fail
        refine HM.out.mono ?_
        rintro e w' ⟨rfl, rfl⟩
        go_wp2_with fail
        refine HX.out.mono ?_
        rintro e w' ⟨rfl, rfl⟩
        go_wp2_with fail
        refine HD.out.mono ?_
        rintro e w1 ⟨v1, rfl, ho1, hb1⟩
        have HB1 := Lib.hid hb1
        obtain ⟨a1, k1, rfl, hk1, -⟩ := ho1.slice
        have HU := Lib.hid (unsealK_any a1 k1 r.1.length r.1 w1 ho1.brd rfl hk1)
        clear ho1 hb1
        go_wp2_with fail
        refine HU.out.mono ?_
        rintro e w2 ⟨a2, n2, k2, rfl, hn2, hk2, hr2, hb2⟩
        have HK2 := Lib.hid hk2
        have HB2 := Lib.hid (bt HB1.out hb2)
        have HN2 := Lib.hid hn2
        have HR2' := Lib.hid hr2
        clear hb2 hn2 hr2 hk2
        go_wp2_with fail
        go_ret2
        rw [HR3.out]
        exact ⟨_, _, _, rfl, HN2.out, HK2.out, HR2'.out.base HB1.out.size, HB2.out⟩
    · have HR2 := Lib.hid (HR.out.trans (if_pos h2))
      go_enter Try.func37, Try.ntmps37
      go_wp2_with fail
      refine HM.out.mono ?_
      rintro e w' ⟨rfl, rfl⟩
      go_wp2_with fail
      refine HX.out.mono ?_
      rintro e w' ⟨rfl, rfl⟩
      go_wp2_with fail
      refine HD.out.mono ?_
      rintro e w1 ⟨v1, rfl, ho1, hb1⟩
      have HB1 := Lib.hid hb1
      obtain ⟨a1, k1, rfl, -, -⟩ := ho1.slice
      clear ho1 hb1
      go_wp2_with fail
      go_ret2
      rw [HR2.out]
      exact ⟨none, 0, 0, rfl, rfl, Nat.le_refl _, OwnB.nil _ _, HB1.out⟩
  · have hi' : p.is n = false := by simpa using hi
    have HR := Lib.hid (show p.read s n = ([], 1) by unfold Pg.read; rw [if_pos hi'])
    rw [hi'] at HX
    clear h hi hi' hok
    go_enter Try.func37, Try.ntmps37
    go_wp2_with fail
    refine HM.out.mono ?_
    rintro e w' ⟨rfl, rfl⟩
    go_wp2_with fail
    refine HX.out.mono ?_
    rintro e w' ⟨rfl, rfl⟩
    go_wp2_with fail
    go_ret2
    rw [HR.out]
    exact ⟨none, 0, 0, rfl, rfl, Nat.le_refl _, OwnB.nil _ _, Below.refl _ _⟩

end

section

open Go.ChangeShapes Go.WideShapes Go.ChangeAt Go.RowKit
set_option linter.unusedVariables false

/-- What a call of the pager's leaves that answers a number and an errno. -/
def PgPost2 (B : Nat) (F : Nat → Prop) (gp gd gm : Nat) (s : St) (p : Pg) (n er : Int) (w : World) (e : Ending) (w' : World) : Prop := e = .returned (.tuple #[.int .i64 n, .int .i64 er]) ∧ Pgr w' B (Plus F w w') gp gd gm s p ∧ Fr F w w'
theorem alloc_range (p : Pg) (h : p.Ok) : 0 ≤ p.alloc.2.1 ∧ p.alloc.2.1 ≤ 1023 := by
  unfold Pg.alloc
  have := free_le p.st
  have := h.len
  split
  · simp
  · simp only []
    omega
set_option maxHeartbeats 6400000 in
set_option maxRecDepth 100000 in
theorem add_any {w : World} {B : Nat} {F : Nat → Prop} {gp gd gm : Nat} {s : St} {p : Pg} (h : Pgr w B F gp gd gm s p) (hB : B ≤ w.heap.size) (next : Nat) (hnx : next ≤ 1023) (A : Option Addr) (c m : Nat) (x : List UInt8) (hA : BRd w A x) (hm : m = x.length) (hx : m ≤ 4086) (hAF : 0 < x.length → ∀ a, A = some a → ¬ F a.block) (hlim : s.pcs.length + 4194304 ≤ 8000000000000) :
    Calls Try.prog 74 #[.pointer (some ⟨gp, 0, none⟩), .int .i64 next, .slice A m c] w (PgPost2 B F gp gd gm (addV s p next x).1 (addV s p next x).2.1 (addV s p next x).2.2.1 (addV s p next x).2.2.2 w) := by
  subst hm
  have HA := Lib.hid (alloc_any h)
  have hrg := alloc_range p h.ok
  have H := Lib.hid h
  have HLIM := Lib.hid hlim
  have HBB := Lib.hid hB
  have HXL := Lib.hid hx
  have hnxI : (next : Int) ≤ 1023 := by omega
  unfold PgPost2
  obtain ⟨⟨p1, n, er⟩, hal⟩ : ∃ t, t = p.alloc := ⟨_, rfl⟩
  rw [← hal] at HA hrg
  by_cases he : er = 0
  · obtain ⟨Y, hY⟩ : ∃ Y, Y = leB next 4 ++ x := ⟨_, rfl⟩
    have HY := Lib.hid hY
    have HR := Lib.hid (show addV s p next x = ((p1.write s n Y).1, p1, n, (p1.write s n Y).2) by unfold addV; rw [← hal]; simp [he, hY])
    clear hY
    subst he
    have hn1 := hrg.1
    have hn2 := hrg.2
    have HBRX := Lib.hid (fun w' (hf : Fr F w w') => (fun h0 => hA.fr' hf (fun h0 a ha => hAF h0 a ha) h0 : BRd w' A x))
    clear h hlim hB hA hAF hrg hal
    go_enter Try.func74, Try.ntmps74
    go_wp2_with fail
    refine HA.out.mono ?_
    rintro e w1 ⟨rfl, hp1, hf1⟩
    have HP1 := Lib.hid hp1
    have HF1 := Lib.hid hf1
    have HX1 : Hid (BRd w1 A x) := HBRX.out w1 hf1
    clear hp1 hf1 HA
    go_wp2_with fail
    refine (little_brd next 4 w1 (by omega) (.inr rfl)).mono ?_
    rintro e w2 ⟨a2, k2, rfl, hr2, hb2⟩
    have HB2 := Lib.hid hb2
    have HR2 := Lib.hid hr2
    have HX2 := Lib.hid (HX1.out.below hb2)
    clear hr2 hb2
    go_wp2_with fail
    have hsl : SlRd (w2.alloc (.cells #[.slice a2 4 k2, .slice A x.length c] 23)) w2.heap.size 0 [⟨a2, k2, leB next 4⟩, ⟨A, c, x⟩] := fun i hi => by
      match i, hi with
      | 0, _ => exact ⟨by simp only [List.getElem_cons_zero]; rw [leB_len]; exact World.cell?_alloc_at _ _ _ _ rfl, HR2.out.alloc _, by simp only [List.getElem_cons_zero]; rw [leB_len]; omega⟩
      | 1, _ => exact ⟨World.cell?_alloc_at _ _ _ _ rfl, HX2.out.alloc _, by simp only [List.getElem_cons_succ, List.getElem_cons_zero]; have := HXL.out; omega⟩
    have htot : totalE [⟨a2, k2, leB next 4⟩, ⟨A, c, x⟩] = Y := by rw [HY.out]; simp [totalE]
    have hYl : Y.length = 4 + x.length := by rw [HY.out, List.length_append, leB_len]
    have hcc := concat_any w2.heap.size 0 2 _ _ hsl (by simp) (by rw [htot, hYl]; omega) (by rw [htot, hYl]; have := HXL.out; omega)
    rw [htot] at hcc
    have HCC : Hid (Calls Try.prog 117 #[.slice (some ⟨w2.heap.size, 0, none⟩) 2 2] (w2.alloc (.cells #[.slice a2 4 k2, .slice A x.length c] 23)) fun e w' => ∃ v, e = .returned v ∧ OwnB w' (w2.alloc (.cells #[.slice a2 4 k2, .slice A x.length c] 23)).heap.size v Y ∧ Below (w2.alloc (.cells #[.slice a2 4 k2, .slice A x.length c] 23)).heap.size (w2.alloc (.cells #[.slice a2 4 k2, .slice A x.length c] 23)) w') := hcc
    clear hsl htot hcc hYl
    refine HCC.out.mono ?_
    rintro e w3 ⟨v3, rfl, ho3, hb3⟩
    obtain ⟨a3, k3, rfl, -, -⟩ := ho3.slice
    have HR3 := Lib.hid ho3.brd
    have hb13 : Below w1.heap.size w1 w3 := bt (bt HB2.out (alloc_below _ _)) hb3
    have HB13 := Lib.hid hb13
    have HPW := Lib.hid (pwrite_any (HP1.out.below hb13) (Nat.le_trans (Nat.le_trans HBB.out HF1.out.size) hb13.size) n a3 k3 Y.length Y ho3.brd rfl HLIM.out)
    clear ho3 hb3 hb13
    go_wp2_with fail
    refine HPW.out.mono ?_
    rintro e w4 ⟨rfl, hp4, hf4⟩
    have HP4 := Lib.hid (Pgr.plus_then ⟨hp4, hf4⟩ HB13.out (H.out.lies.size HF1.out.size) (Nat.le_trans HBB.out HF1.out.size))
    clear hp4 hf4 HPW
    go_wp2_with fail
    go_ret2
    rw [HR.out]
    refine ⟨rfl, HP4.out.1.mono (fun k hk => hk.imp id fun h' => ⟨Nat.le_trans HF1.out.size h'.1, h'.2⟩) (H.out.lies.plus HBB.out (Nat.le_trans HF1.out.size HP4.out.2.size)), HF1.out.trans HP4.out.2⟩
  · have HR := Lib.hid (show addV s p next x = (s, p1, 0, er) by unfold addV; rw [← hal]; simp [he])
    clear h hlim hB hA hAF hrg hal
    go_enter Try.func74, Try.ntmps74
    go_wp2_with fail
    refine HA.out.mono ?_
    rintro e w1 ⟨rfl, hp1, hf1⟩
    have HP1 := Lib.hid hp1
    have HF1 := Lib.hid hf1
    clear hp1 hf1 HA
    go_wp2_with fail
    go_ret2
    rw [HR.out]
    exact ⟨rfl, HP1.out.mono (fun k hk => .inl hk) (H.out.lies.plus HBB.out HF1.out.size), HF1.out⟩

end

section

open Go.ChangeShapes Go.WideShapes Go.ChangeAt Go.RowKit
set_option linter.unusedVariables false

theorem putL_app (ys : List (List UInt8)) : ∀ (xs : List (List UInt8)) (s : St) (p : Pg) (next : Int), putL (xs ++ ys) s p next = if (putL xs s p next).2.2.2 ≠ 0 then putL xs s p next else putL ys (putL xs s p next).1 (putL xs s p next).2.1 (putL xs s p next).2.2.1
  | [], s, p, next => by simp [putL]
  | x :: xs, s, p, next => by
    by_cases h : (addV s p next x).2.2.2 = 0
    · have e : ∀ zs, putL (x :: zs) s p next = putL zs (addV s p next x).1 (addV s p next x).2.1 (addV s p next x).2.2.1 := fun zs => by
        simp only [putL]
        rw [if_neg (by simp [h])]
      rw [List.cons_append, e, e]
      exact putL_app ys xs _ _ _
    · have e : ∀ zs, putL (x :: zs) s p next = ((addV s p next x).1, (addV s p next x).2.1, 0, (addV s p next x).2.2.2) := fun zs => by
        simp only [putL]
        rw [if_pos h]
      rw [List.cons_append, e, e, if_pos h]
/-- What the pieces with these numbers leave, counted from the last one. -/
def putP (s : St) (p : Pg) (b : List UInt8) (pre : List Nat) : St × Pg × Int × Int := putL (pre.map fun x => pieceAt b (manyOf b - 1 - x)) s p 0
theorem pieces_len (b : List UInt8) : (pieces b).length = manyOf b := by simp [pieces]
theorem pieces_rev (b : List UInt8) : (List.range (manyOf b)).map (fun x => pieceAt b (manyOf b - 1 - x)) = (pieces b).reverse := by
  apply List.ext_getElem
  · simp [pieces_len]
  · intro i h1 h2
    rw [List.getElem_reverse]
    simp [pieces]
theorem putP_all (s : St) (p : Pg) (b : List UInt8) : putP s p b (List.range (manyOf b)) = putL (pieces b).reverse s p 0 := by
  unfold putP
  rw [pieces_rev]
theorem putP_snoc (s : St) (p : Pg) (b : List UInt8) (pre : List Nat) (x : Nat) (h0 : (putP s p b pre).2.2.2 = 0) :
    putP s p b (pre ++ [x]) = if (addV (putP s p b pre).1 (putP s p b pre).2.1 (putP s p b pre).2.2.1 (pieceAt b (manyOf b - 1 - x))).2.2.2 ≠ 0 then ((addV (putP s p b pre).1 (putP s p b pre).2.1 (putP s p b pre).2.2.1 (pieceAt b (manyOf b - 1 - x))).1, (addV (putP s p b pre).1 (putP s p b pre).2.1 (putP s p b pre).2.2.1 (pieceAt b (manyOf b - 1 - x))).2.1, 0, (addV (putP s p b pre).1 (putP s p b pre).2.1 (putP s p b pre).2.2.1 (pieceAt b (manyOf b - 1 - x))).2.2.2)
      else addV (putP s p b pre).1 (putP s p b pre).2.1 (putP s p b pre).2.2.1 (pieceAt b (manyOf b - 1 - x)) := by
  unfold putP at h0 ⊢
  rw [List.map_append, List.map_cons, List.map_nil, putL_app, if_neg (by simpa using h0)]
  generalize putL (pre.map fun x => pieceAt b (manyOf b - 1 - x)) s p 0 = r
  simp only [putL]
  generalize addV r.1 r.2.1 r.2.2.1 (pieceAt b (manyOf b - 1 - x)) = a
  by_cases ha : a.2.2.2 = 0
  · rw [if_neg (by simp [ha]), if_neg (by simp [ha])]
    rw [← ha]
  · rw [if_pos ha, if_pos ha]
/-- Behind an error nothing more is done. -/
theorem putP_err (s : St) (p : Pg) (b : List UInt8) (k m : Nat) (hk : k ≤ m) (h : (putP s p b (List.range k)).2.2.2 ≠ 0) : putP s p b (List.range m) = putP s p b (List.range k) := by
  have e : List.range m = List.range k ++ (List.range m).drop k := by
    conv => lhs; rw [← List.take_append_drop k (List.range m)]
    rw [List.take_range, Nat.min_eq_left hk]
  rw [e]
  unfold putP at h ⊢
  rw [List.map_append, putL_app, if_pos h]
theorem add_pcs (s : St) (p : Pg) (n : Int) (x : List UInt8) : (addV s p n x).1.pcs.length ≤ s.pcs.length + 4096 := by
  unfold addV
  split
  · simp
  · simp only []
    unfold Pg.write
    split
    · exact Nat.le_add_right _ _
    · split
      · exact Nat.le_add_right _ _
      · split
        · exact Nat.le_add_right _ _
        · rename_i h
          have := write_pcs s 0 (4096 * p.alloc.2.1) (sealB (leB n.toNat 4 ++ x))
          rw [sealB_len _ (by omega)] at this
          exact this
theorem add_next (s : St) (p : Pg) (hp : p.Ok) (n : Int) (x : List UInt8) : 0 ≤ (addV s p n x).2.2.1 ∧ (addV s p n x).2.2.1 ≤ 1023 := by
  unfold addV
  split
  · simp
  · exact alloc_range p hp
theorem putP_next (s : St) (p : Pg) (b : List UInt8) (pre : List Nat) (x : Nat) (h0 : (putP s p b pre).2.2.2 = 0) (hp : (putP s p b pre).2.1.Ok) : 0 ≤ (putP s p b (pre ++ [x])).2.2.1 ∧ (putP s p b (pre ++ [x])).2.2.1 ≤ 1023 := by
  rw [putP_snoc s p b pre x h0]
  split
  · simp
  · exact add_next _ _ hp _ _
theorem putP_pcs (s : St) (p : Pg) (b : List UInt8) (pre : List Nat) (x : Nat) (h0 : (putP s p b pre).2.2.2 = 0) : (putP s p b (pre ++ [x])).1.pcs.length ≤ (putP s p b pre).1.pcs.length + 4096 := by
  rw [putP_snoc s p b pre x h0]
  split
  · exact add_pcs _ _ _ _
  · exact add_pcs _ _ _ _

/-- All of these blocks but the map are cells. -/
def Tight (w : World) (F : Nat → Prop) (gm : Nat) : Prop := ∀ k, F k → k = gm ∨ ∃ o : Obj, w.heap[k]? = some o ∧ o.isCells = true
theorem Pgr.tight {w : World} {B : Nat} {F : Nat → Prop} {gp gd gm : Nat} {s : St} {p : Pg} (h : Pgr w B F gp gd gm s p) : ∃ F' : Nat → Prop, (∀ k, F' k → F k) ∧ Tight w F' gm ∧ Pgr w B F' gp gd gm s p := by
  obtain ⟨Fd, ⟨v, pc, qs, kp, h1, h2, h3, h4⟩, h5, h6, h7, h8⟩ := h.disk
  have hsub : ∀ k, (DR gd v pc qs kp k ∧ ¬ k < B) → Fd k := fun k hk => (h4 k hk.1).elim id fun h' => absurd h' hk.2
  have hDF : ∀ k, DF gd v pc k → DR gd v pc qs kp k ∧ ¬ k < B := fun k hk => ⟨.inl hk, by have := (h8 k (h3 k hk)).1; omega⟩
  have hF' : ∀ k, (k = gp ∨ k = gm ∨ (DR gd v pc qs kp k ∧ ¬ k < B)) → F k := fun k hk => by
    rcases hk with rfl | rfl | hk
    · exact h.fp
    · exact h.fm
    · exact h5 k (hsub k hk)
  refine ⟨fun k => k = gp ∨ k = gm ∨ (DR gd v pc qs kp k ∧ ¬ k < B), hF', ?_, h.box, h.map, h.ok, ⟨fun k => DR gd v pc qs kp k ∧ ¬ k < B, ⟨v, pc, qs, kp, h1, h2, hDF, fun k hk => ?_⟩, fun k hk => .inr (.inr hk), fun hk => h6 (hsub _ hk), fun hk => h7 (hsub _ hk), fun k hk => h8 k (hsub k hk)⟩, .inl rfl, .inr (.inl rfl), h.ne, fun k hk => h.lies k (hF' k hk)⟩
  · rintro k (rfl | rfl | hk)
    · exact .inr ⟨_, h.box, rfl⟩
    · exact .inl rfl
    · exact .inr (h1.cells h2 k hk.1)
  · by_cases hB : k < B
    · exact .inr hB
    · exact .inl ⟨hk, hB⟩

end

section

open Go.ChangeShapes Go.WideShapes Go.ChangeAt Go.RowKit Go.Shelf
set_option linter.unusedVariables false
attribute [local go_sem] Oper.semAt_some

theorem boxed_own' {W W' : World} {b : Nat} {t : TypeId} {v : Value} {row : Option Nat} (h : Boxed W b t v) (hg : W.grownBy W' row) (hr : ∀ r, row = some r → ∃ o : Obj, W.heap[r]? = some o ∧ o.isCells = false) : Boxed W' b t v := h.kept hg fun e => by
  obtain ⟨o, ho, hc⟩ := hr b e.symm
  rw [show W.heap[b]? = _ from h] at ho
  cases ho
  cases hc
theorem boxed_below {W W' : World} {b : Nat} {t : TypeId} {v : Value} (h : Boxed W b t v) (hb : Below W.heap.size W W') : Boxed W' b t v := (hb.block b h.lt).trans h
theorem boxed_fr {W W' : World} {b : Nat} {t : TypeId} {v : Value} {F : Nat → Prop} (h : Boxed W b t v) (hf : Fr F W W') (hn : ¬ F b) : Boxed W' b t v := (hf.block b h.lt hn).trans h
theorem fr_grown {w W W' : World} {F : Nat → Prop} {row : Option Nat} (h : Fr F w W) (hg : W.grownBy W' row) (hr : ∀ r, row = some r → w.heap.size ≤ r) : Fr F w W' :=
  ⟨hg.os.trans h.os, hg.tape.trans h.tape, hg.output.trans h.output, Nat.le_trans h.size hg.size, fun k hk hn => (hg.block k (Nat.lt_of_lt_of_le hk h.size) fun e => by have := hr k e.symm; omega).trans (h.block k hk hn)⟩
theorem tight_keeps {W W' : World} {F : Nat → Prop} {gm N0 : Nat} (ht : Tight W F gm) (hf : Fr F W W') (hm : gm < N0) : KeepsFrom N0 W W' := ⟨hf.size, fun k o hk ho hc => (hf.block k (Array.getElem?_eq_some_iff.1 ho).1 fun h => by
  rcases ht k h with rfl | ⟨o', ho', hc'⟩
  · omega
  · rw [ho] at ho'
    cases ho'
    rw [hc] at hc'
    cases hc').trans ho⟩
theorem Pgr.fr {w w' : World} {B : Nat} {F H : Nat → Prop} {gp gd gm : Nat} {s : St} {p : Pg} (h : Pgr w B F gp gd gm s p) (hf : Fr H w w') (hH : ∀ k, H k → ¬ F k ∧ B ≤ k) : Pgr w' B F gp gd gm s p := by
  obtain ⟨Fd, h1, h2, h3, h4, h5⟩ := h.disk
  exact ⟨(hf.block gp (h.lies gp h.fp).2 fun hk => (hH _ hk).1 h.fp).trans h.box, h.map.block (hf.block gm h.map.lt fun hk => (hH _ hk).1 h.fm), h.ok, ⟨Fd, h1.same hf.size fun k hk hF _ => hf.block k hk fun hk' => hF.elim (fun h' => (hH k hk').1 (h2 k h')) fun h' => by have := (hH k hk').2; omega, h2, h3, h4, h5.size hf.size⟩, h.fp, h.fm, h.ne, h.lies.size hf.size⟩
/-- What may be written from the loop on. -/
def LoopF (F : Nat → Prop) (N0 : Nat) (W : World) : Nat → Prop := fun j => F j ∨ N0 ≤ j ∧ j < W.heap.size
/-- Between two rounds of Put. -/
structure PutI (w : World) (B : Nat) (F : Nat → Prop) (gp gd gm : Nat) (s : St) (p : Pg) (b : List UInt8) (b7 N0 : Nat) (pre : List Nat) (W : World) : Prop where
  err : (putP s p b pre).2.2.2 = 0
  pgr : Pgr W B (LoopF F N0 W) gp gd gm (putP s p b pre).1 (putP s p b pre).2.1
  nx : 0 ≤ (putP s p b pre).2.2.1 ∧ (putP s p b pre).2.2.1 ≤ 1023
  pcs : (putP s p b pre).1.pcs.length ≤ s.pcs.length + 4096 * pre.length
  y2 : Boxed W w.heap.size 46 (.pointer (some ⟨gp, 0, none⟩))
  y4 : Boxed W (w.heap.size + 1) 3 (.int .i64 0)
  y5 : Boxed W (w.heap.size + 1 + 1) 28 (.int .i64 0)
  y7 : Boxed W b7 3 (.int .i64 (putP s p b pre).2.2.1)
  fr : Fr F w W
  big : N0 ≤ W.heap.size
/-- A round of Put has failed. -/
structure PutX (w : World) (B : Nat) (F : Nat → Prop) (gp gd gm : Nat) (s : St) (p : Pg) (b : List UInt8) (N0 : Nat) (pre : List Nat) (W : World) : Prop where
  err : (putP s p b pre).2.2.2 ≠ 0
  zero : (putP s p b pre).2.2.1 = 0
  pgr : Pgr W B (LoopF F N0 W) gp gd gm (putP s p b pre).1 (putP s p b pre).2.1
  y4 : Boxed W (w.heap.size + 1) 3 (.int .i64 0)
  y5 : Boxed W (w.heap.size + 1 + 1) 28 (.int .i64 (putP s p b pre).2.2.2)
  fr : Fr F w W
  big : N0 ≤ W.heap.size
theorem LoopF.lies {w W W' : World} {B N0 : Nat} {F : Nat → Prop} (h : Lies W B (LoopF F N0 W)) (hB : B ≤ N0) (hs : W.heap.size ≤ W'.heap.size) : Lies W' B (LoopF F N0 W') := fun k hk => by
  rcases hk with hk | ⟨h1, h2⟩
  · have := h k (.inl hk)
    exact ⟨this.1, by omega⟩
  · exact ⟨by omega, h2⟩
theorem LoopF.grow {W W' : World} {N0 : Nat} {F : Nat → Prop} (hs : W.heap.size ≤ W'.heap.size) : ∀ k, LoopF F N0 W k → LoopF F N0 W' k := fun k hk => hk.imp id fun h => ⟨h.1, by omega⟩
theorem pgr_kept' {W W' : World} {B N0 : Nat} {F : Nat → Prop} {gp gd gm : Nat} {s : St} {p : Pg} (h : Pgr W B (LoopF F N0 W) gp gd gm s p) {row : Option Nat} (hg : W.grownBy W' row) (hr : ∀ r, row = some r → N0 ≤ r ∧ ∃ o : Obj, W.heap[r]? = some o ∧ o.isCells = false) (hm : gm < N0) (hB : B ≤ N0) : Pgr W' B (LoopF F N0 W') gp gd gm s p :=
  (h.kept hg fun r e => ⟨by have := (hr r e).1; omega, (hr r e).2⟩).mono (LoopF.grow hg.size) (LoopF.lies (w := W) h.lies hB hg.size)
theorem PutI.kept {w W W' : World} {B : Nat} {F : Nat → Prop} {gp gd gm : Nat} {s : St} {p : Pg} {b : List UInt8} {b7 N0 : Nat} {pre : List Nat} (h : PutI w B F gp gd gm s p b b7 N0 pre W) (hm : gm < N0) (hB : B ≤ N0) (hw : w.heap.size ≤ N0) {row : Option Nat} (hg : W.grownBy W' row) (hr : ∀ r, row = some r → N0 ≤ r ∧ ∃ o : Obj, W.heap[r]? = some o ∧ o.isCells = false) : PutI w B F gp gd gm s p b b7 N0 pre W' :=
  ⟨h.err, pgr_kept' h.pgr hg hr hm hB, h.nx, h.pcs, boxed_own' h.y2 hg fun r e => (hr r e).2, boxed_own' h.y4 hg fun r e => (hr r e).2, boxed_own' h.y5 hg fun r e => (hr r e).2, boxed_own' h.y7 hg fun r e => (hr r e).2, fr_grown h.fr hg fun r e => Nat.le_trans hw (hr r e).1, Nat.le_trans h.big hg.size⟩
theorem PutX.kept {w W W' : World} {B : Nat} {F : Nat → Prop} {gp gd gm : Nat} {s : St} {p : Pg} {b : List UInt8} {N0 : Nat} {pre : List Nat} (h : PutX w B F gp gd gm s p b N0 pre W) (hm : gm < N0) (hB : B ≤ N0) (hw : w.heap.size ≤ N0) {row : Option Nat} (hg : W.grownBy W' row) (hr : ∀ r, row = some r → N0 ≤ r ∧ ∃ o : Obj, W.heap[r]? = some o ∧ o.isCells = false) : PutX w B F gp gd gm s p b N0 pre W' :=
  ⟨h.err, h.zero, pgr_kept' h.pgr hg hr hm hB, boxed_own' h.y4 hg fun r e => (hr r e).2, boxed_own' h.y5 hg fun r e => (hr r e).2, fr_grown h.fr hg fun r e => Nat.le_trans hw (hr r e).1, Nat.le_trans h.big hg.size⟩
/-- A box of Put's own is written. -/
theorem pgr_box {w W : World} {B N0 : Nat} {F : Nat → Prop} {gp gd gm : Nat} {s : St} {p : Pg} (h : Pgr W B (LoopF F N0 W) gp gd gm s p) (hlt : ∀ k, F k → k < w.heap.size) (hB : B ≤ w.heap.size) (t : Nat) (ht : w.heap.size ≤ t) (ht' : t < N0) (u : Value) : Pgr (W.setCell ⟨t, 0, none⟩ u) B (LoopF F N0 (W.setCell ⟨t, 0, none⟩ u)) gp gd gm s p := by
  have e : (W.setCell ⟨t, 0, none⟩ u).heap.size = W.heap.size := by simp [World.setCell]
  have hl : LoopF F N0 (W.setCell ⟨t, 0, none⟩ u) = LoopF F N0 W := by unfold LoopF; rw [e]
  rw [hl]
  exact h.fr (Fr.set (F := fun k => k = t) W t 0 u rfl) fun k hk => by
    subst hk
    exact ⟨fun hk => hk.elim (fun h' => by have := hlt _ h'; omega) fun h' => by omega, by omega⟩
theorem fr_box {w W : World} {F : Nat → Prop} (h : Fr F w W) (t : Nat) (ht : w.heap.size ≤ t) (u : Value) : Fr F w (W.setCell ⟨t, 0, none⟩ u) :=
  h.trans' (Fr.set (F := fun k => k = t) W t 0 u rfl) fun j hj e => by omega
theorem pgr_out {w W : World} {B N0 : Nat} {F : Nat → Prop} {gp gd gm : Nat} {s : St} {p : Pg} (h : Pgr W B (LoopF F N0 W) gp gd gm s p) (hw : w.heap.size ≤ N0) (hB : B ≤ w.heap.size) (hs : w.heap.size ≤ W.heap.size) : Pgr W B (Plus F w W) gp gd gm s p :=
  h.mono (fun k hk => hk.imp id fun h' => ⟨by omega, h'.2⟩) fun k hk => by
    rcases hk with hk | ⟨h1, h2⟩
    · exact h.lies k (.inl hk)
    · exact ⟨by omega, h2⟩
theorem piece_some {w W : World} {F : Nat → Prop} {bb off n : Nat} {b : List UInt8} (hA : BRd w (some ⟨bb, off, none⟩) b) (hn : n = b.length) (hf : Fr F w W) (hnF : ¬ F bb) (j : Nat) : chunkV bb off n j = .slice (some ⟨bb, off + 4086 * j, none⟩) (pieceAt b j).length (pieceAt b j).length ∧ BRd W (some ⟨bb, off + 4086 * j, none⟩) (pieceAt b j) := by
  have h1 : (pieceAt b j).length = lenAt n j := by unfold pieceAt lenAt; rw [List.length_take, List.length_drop, hn]
  refine ⟨by rw [h1]; rfl, ?_⟩
  have hA' : BRd W (some ⟨bb, off, none⟩) b := hA.fr hf fun a ha => by cases ha; exact hnF
  exact hA'.sub (4086 * j) 4086
theorem piece_none {W : World} {b : List UInt8} (h : b.length = 0) (j : Nat) : Value.slice none 0 0 = .slice none (pieceAt b j).length 0 ∧ BRd W none (pieceAt b j) := by
  have h1 : pieceAt b j = [] := by unfold pieceAt; rw [List.eq_nil_of_length_eq_zero h]; simp
  rw [h1]
  exact ⟨rfl, BRd.nil _ _⟩
/-- Put's boxes: the pager, both results, and the row of the one empty piece. -/
theorem put_world (w : World) (gp : Nat) : ∃ W4, ((((w.alloc (.cells #[.pointer (some ⟨gp, 0, none⟩)] 46)).alloc (.cells #[.int .i64 0] 3)).alloc (.cells #[.int .i64 0] 28)).alloc (.cells #[.slice none 0 0] 23)) = W4 ∧ W4.heap.size = w.heap.size + 4 ∧ Below w.heap.size w W4 ∧
    Boxed W4 w.heap.size 46 (.pointer (some ⟨gp, 0, none⟩)) ∧ Boxed W4 (w.heap.size + 1) 3 (.int .i64 0) ∧ Boxed W4 (w.heap.size + 1 + 1) 28 (.int .i64 0) ∧ Boxed W4 (w.heap.size + 3) 23 (.slice none 0 0) := by
  refine ⟨_, rfl, by simp, bt (bt (bt (alloc_below _ _) (alloc_below _ _)) (alloc_below _ _)) (alloc_below _ _), (((Boxed.new _ _ _).alloc _).alloc _).alloc _, ?_, ?_, ?_⟩
  · have := Boxed.new (w.alloc (.cells #[.pointer (some ⟨gp, 0, none⟩)] 46)) 3 (.int .i64 0)
    rw [World.size_alloc] at this
    exact (this.alloc _).alloc _
  · have := Boxed.new ((w.alloc (.cells #[.pointer (some ⟨gp, 0, none⟩)] 46)).alloc (.cells #[.int .i64 0] 3)) 28 (.int .i64 0)
    rw [World.size_alloc, World.size_alloc] at this
    exact this.alloc _
  · have := Boxed.new (((w.alloc (.cells #[.pointer (some ⟨gp, 0, none⟩)] 46)).alloc (.cells #[.int .i64 0] 3)).alloc (.cells #[.int .i64 0] 28)) 23 (.slice none 0 0)
    rw [World.size_alloc, World.size_alloc, World.size_alloc] at this
    exact this
theorem chunk_world (W : World) (v : Value) (n0 : Nat) (h : W.heap.size = n0) : ∃ W', ((W.alloc (.cells #[v] 23)).alloc (.cells #[.int .i64 4086] 3)) = W' ∧ Below W.heap.size W W' ∧ Boxed W' n0 23 v ∧ Boxed W' (n0 + 1) 3 (.int .i64 4086) := by
  subst h
  refine ⟨_, rfl, bt (alloc_below _ _) (alloc_below _ _), (Boxed.new _ _ _).alloc _, ?_⟩
  have := Boxed.new (W.alloc (.cells #[v] 23)) 3 (.int .i64 4086)
  rw [World.size_alloc] at this
  exact this
set_option maxRecDepth 100000 in
set_option maxHeartbeats 8000000 in
theorem put_long {w : World} {B : Nat} {F : Nat → Prop} {gp gd gm : Nat} {s : St} {p : Pg} (h : Pgr w B F gp gd gm s p) (hB : B ≤ w.heap.size) (A : Option Addr) (c n : Nat) (b : List UInt8) (hn : n = b.length) (hl : 1048576 < b.length) :
    Calls Try.prog 26 #[.pointer (some ⟨gp, 0, none⟩), .slice A n c] w (PgPost2 B F gp gd gm (putV s p b).1 (putV s p b).2.1 (putV s p b).2.2.1 (putV s p b).2.2.2 w) := by
  have HR := Lib.hid (show putV s p b = (s, p, 0, 3) by unfold putV; rw [if_pos hl])
  have HM := Lib.hid (fun w' (hb : Below w.heap.size w w') => pmade_any (h.below hb).made)
  have HP := Lib.hid (fun w' (hb : Below w.heap.size w w') => h.plus hB hb)
  have hlI : (1048576 : Int) < (n : Int) := by omega
  unfold PgPost2
  rw [HR.out]
  clear h hB hn hl HR
  refine (callsIn_wide (n := 6)).1 ?_
  refine callsIn_of_wp_marks Try.func26 rfl trivial ?_ rfl
  simp only [Try.ntmps26, List.size_toArray, List.length_cons, List.length_nil, Nat.reduceAdd, Nat.reduceSub, Array.replicate_succ, Array.replicate_zero, List.push_toArray, List.append_toArray, List.nil_append, List.cons_append]
  gi_wp2_with fail
  refine ⟨trivial, (callsIn_wide.2 (HM.out _ (bt (bt (alloc_below _ _) (alloc_below _ _)) (alloc_below _ _)))).mono ?_⟩
  rintro e w' ⟨rfl, rfl⟩
  gi_wp2_with fail
  exact ⟨.tuple #[.int .i64 0, .int .i64 3], by simp [results, Try.results26, go_sem], rfl, HP.out _ (bt (bt (alloc_below _ _) (alloc_below _ _)) (alloc_below _ _))⟩
set_option maxRecDepth 100000 in
set_option maxHeartbeats 16000000 in
theorem put_some_full {w : World} {B : Nat} {F : Nat → Prop} {gp gd gm : Nat} {s : St} {p : Pg} (h : Pgr w B F gp gd gm s p) (hB : B ≤ w.heap.size) (A : Option Addr) (c n : Nat) (b : List UInt8) (hA : BRd w A b) (hn : n = b.length) (hl : ¬ 1048576 < b.length) (hne : 0 < b.length) (hcap : n ≤ c)
    (hfull : (1022 : Int) - cntS p.st < manyOf b) :
    Calls Try.prog 26 #[.pointer (some ⟨gp, 0, none⟩), .slice A n c] w (PgPost2 B F gp gd gm (putV s p b).1 (putV s p b).2.1 (putV s p b).2.2.1 (putV s p b).2.2.2 w) := by
  have HR := Lib.hid (show putV s p b = (s, p, 0, 5) by unfold putV; rw [if_neg hl, if_pos hfull])
  have HM := Lib.hid (fun w' (hb : Below w.heap.size w w') => pmade_any (h.below hb).made)
  have HRM := Lib.hid (fun w' (hb : Below w.heap.size w w') => room_any (h.below hb))
  have HP := Lib.hid (fun w' (hb : Below w.heap.size w w') => h.plus hB hb)
  have HQ := Lib.hid (fun w' (hb : Below w.heap.size w w') => h.below hb)
  have hCle : (cntS p.st : Int) ≤ 1022 := by have := cnt_le p.st; have := h.ok.len; omega
  have hlI : ¬ (1048576 : Int) < (n : Int) := by omega
  have hfI := hfull
  obtain ⟨M, hM⟩ : ∃ M, M = manyOf b := ⟨_, rfl⟩
  rw [← hM] at hfI
  have hMle : M ≤ 257 := by rw [hM]; unfold manyOf; split <;> omega
  have hMM : M = (n + 4085) / 4086 := by rw [hM, hn]; unfold manyOf; rw [if_neg (by omega)]
  have hn0 : (0 : Int) < (n : Int) := by omega
  obtain ⟨bb, off, rfl, hbb, -⟩ := hA hne
  have HMM := Lib.hid hMM
  unfold PgPost2
  rw [HR.out]
  generalize hCC : cntS p.st = C at *
  clear h hB hn hl hfull hM hA hCC hMM hne hbb
  refine (callsIn_wide (n := 6)).1 ?_
  refine callsIn_of_wp_marks Try.func26 rfl trivial ?_ rfl
  simp only [Try.ntmps26, List.size_toArray, List.length_cons, List.length_nil, Nat.reduceAdd, Nat.reduceSub, Array.replicate_succ, Array.replicate_zero, List.push_toArray, List.append_toArray, List.nil_append, List.cons_append]
  gi_wp2_with fail
  refine ⟨trivial, (callsIn_wide.2 (HM.out _ (bt (bt (alloc_below _ _) (alloc_below _ _)) (alloc_below _ _)))).mono ?_⟩
  rintro e w' ⟨rfl, rfl⟩
  gi_wp2_with fail
  obtain ⟨W4, hW4, hS4, hb04, x2, x4, x5, -⟩ := put_world w gp
  rw [hW4]
  have HS4 := Lib.hid hS4
  clear hW4 hS4
  refine ⟨trivial, (callsIn_wide.2 (chunk_any (some ⟨bb, off, none⟩) n c _)).mono ?_⟩
  rintro e w5 ⟨rfl, hw5⟩
  obtain ⟨w5', hw5', hb45, y1, y2⟩ := chunk_world W4 (.slice (some ⟨bb, off, none⟩) n c) _ rfl
  obtain rfl : w5 = w5' := hw5.trans hw5'
  have HCO := Lib.hid (collect_any W4.heap.size (W4.heap.size + 1) bb off n c M HMM.out (by omega) hcap w5 y1.cell y2.cell)
  have HB05 := Lib.hid (bt hb04 hb45)
  have HB45 := Lib.hid hb45
  have HX2 := Lib.hid (boxed_below x2 hb45)
  have HX4 := Lib.hid (boxed_below x4 hb45)
  have HX5 := Lib.hid (boxed_below x5 hb45)
  have c2 := HX2.out.cell
  clear hw5 hw5' hb04 hb45 x2 x4 x5 y1 y2
  gi_wp2_with fail
  refine ⟨trivial, (callsIn_wide.2 HCO.out).mono ?_⟩
  rintro e w6 ⟨v6, rfl, ho6, hb6⟩
  obtain ⟨g6, k6, rfl, hg61, hg62⟩ := World.ownsRow.form ho6 (by have := HMM.out; omega)
  have HG6 := Lib.hid (show w.heap.size + 3 ≤ g6 ∧ g6 < w6.heap.size by have := HS4.out; have := HB45.out.size; omega)
  have HC6 := Lib.hid (fun i (hi : i < M) => (show w6.cell? ⟨g6, 0 + i, none⟩ = some (chunkV bb off n i) by rw [Nat.zero_add, ho6.cellAt i (by omega)]; simp [hi]))
  have HB6 := Lib.hid hb6
  have c2' : w6.cell? ⟨w.heap.size, 0, none⟩ = some (.pointer (some ⟨gp, 0, none⟩)) := (boxed_below HX2.out hb6).cell
  have x46 := boxed_below HX4.out hb6
  have x56 := boxed_below HX5.out hb6
  have c4 := x46.cell
  have f4 := x46.frozen
  have c5 := x56.cell
  have f5 := x56.frozen
  have HX26 := Lib.hid (boxed_below HX2.out hb6)
  have HX46 := Lib.hid x46
  have HX56 := Lib.hid x56
  have HB06 := Lib.hid (bt HB05.out hb6)
  clear ho6 hb6 HCO c2 x46 x56 hg61 hg62
  gi_wp2_with fail
  refine ⟨trivial, (callsIn_wide.2 (HRM.out _ HB06.out)).mono ?_⟩
  rintro e w' ⟨rfl, rfl⟩
  gi_wp2_with fail
  refine ⟨.tuple #[.int .i64 0, .int .i64 5], by simp [results, Try.results26, go_sem, c4, c5], rfl, HP.out _ ?_⟩
  exact (HB06.out.setCell (p := ⟨w.heap.size + 1, 0, none⟩) (Nat.le_add_right _ _) _).setCell (p := ⟨w.heap.size + 1 + 1, 0, none⟩) (Nat.le_add_right _ 2) _
set_option maxRecDepth 100000 in
set_option maxHeartbeats 16000000 in
theorem put_some {w : World} {B : Nat} {F : Nat → Prop} {gp gd gm : Nat} {s : St} {p : Pg} (h : Pgr w B F gp gd gm s p) (hB : B ≤ w.heap.size) (A : Option Addr) (c n : Nat) (b : List UInt8) (hA : BRd w A b) (hn : n = b.length) (hl : ¬ 1048576 < b.length) (hne : 0 < b.length) (hcap : n ≤ c)
    (hfull : ¬ (1022 : Int) - cntS p.st < manyOf b) (hAF : 0 < b.length → ∀ a, A = some a → ¬ F a.block) (hlim : s.pcs.length + 10000000 ≤ 8000000000000) :
    Calls Try.prog 26 #[.pointer (some ⟨gp, 0, none⟩), .slice A n c] w (PgPost2 B F gp gd gm (putV s p b).1 (putV s p b).2.1 (putV s p b).2.2.1 (putV s p b).2.2.2 w) := by
  have HR := Lib.hid (show putV s p b = putP s p b (List.range (manyOf b)) by unfold putV; rw [if_neg hl, if_neg hfull, putP_all])
  have HM := Lib.hid (fun w' (hb : Below w.heap.size w w') => pmade_any (h.below hb).made)
  have HRM := Lib.hid (fun w' (hb : Below w.heap.size w w') => room_any (h.below hb))
  have HP := Lib.hid (fun w' (hb : Below w.heap.size w w') => h.plus hB hb)
  have HQ := Lib.hid (fun w' (hb : Below w.heap.size w w') => h.below hb)
  have hCle : (cntS p.st : Int) ≤ 1022 := by have := cnt_le p.st; have := h.ok.len; omega
  have hlI : ¬ (1048576 : Int) < (n : Int) := by omega
  have hfI := hfull
  obtain ⟨M, hM⟩ : ∃ M, M = manyOf b := ⟨_, rfl⟩
  rw [← hM] at hfI
  have hMle : M ≤ 257 := by rw [hM]; unfold manyOf; split <;> omega
  have HAF := Lib.hid hAF
  have HA := Lib.hid hA
  have HLIM := Lib.hid hlim
  have HLIES := Lib.hid h.lies
  have HBB := Lib.hid hB
  have HOKP := Lib.hid h.ok
  have HGM := Lib.hid (h.lies gm h.fm).2
  have HFGM := Lib.hid h.fm
  have HLB := Lib.hid hl
  have hMM : M = (n + 4085) / 4086 := by rw [hM, hn]; unfold manyOf; rw [if_neg (by omega)]
  have hn0 : (0 : Int) < (n : Int) := by omega
  obtain ⟨bb, off, rfl, hbb, -⟩ := hA hne
  have HMM := Lib.hid hMM
  have HBB2 := Lib.hid hbb
  have hnF := hAF hne _ rfl
  have HNF := Lib.hid hnF
  have HPC := Lib.hid (fun W (hf : Fr F w W) j => piece_some hA hn hf hnF j)
  have HMD := Lib.hid hM
  have HND := Lib.hid hn
  unfold PgPost2
  rw [HR.out]
  generalize hCC : cntS p.st = C at *
  clear h hB hn hl hfull hM hA hCC hMM hne hbb hnF hAF hlim
  refine (callsIn_wide (n := 6)).1 ?_
  refine callsIn_of_wp_marks Try.func26 rfl trivial ?_ rfl
  simp only [Try.ntmps26, List.size_toArray, List.length_cons, List.length_nil, Nat.reduceAdd, Nat.reduceSub, Array.replicate_succ, Array.replicate_zero, List.push_toArray, List.append_toArray, List.nil_append, List.cons_append]
  gi_wp2_with fail
  refine ⟨trivial, (callsIn_wide.2 (HM.out _ (bt (bt (alloc_below _ _) (alloc_below _ _)) (alloc_below _ _)))).mono ?_⟩
  rintro e w' ⟨rfl, rfl⟩
  gi_wp2_with fail
  obtain ⟨W4, hW4, hS4, hb04, x2, x4, x5, -⟩ := put_world w gp
  rw [hW4]
  have HS4 := Lib.hid hS4
  clear hW4 hS4
  refine ⟨trivial, (callsIn_wide.2 (chunk_any (some ⟨bb, off, none⟩) n c _)).mono ?_⟩
  rintro e w5 ⟨rfl, hw5⟩
  obtain ⟨w5', hw5', hb45, y1, y2⟩ := chunk_world W4 (.slice (some ⟨bb, off, none⟩) n c) _ rfl
  obtain rfl : w5 = w5' := hw5.trans hw5'
  have HCO := Lib.hid (collect_any W4.heap.size (W4.heap.size + 1) bb off n c M HMM.out (by omega) hcap w5 y1.cell y2.cell)
  have HB05 := Lib.hid (bt hb04 hb45)
  have HB45 := Lib.hid hb45
  have HX2 := Lib.hid (boxed_below x2 hb45)
  have HX4 := Lib.hid (boxed_below x4 hb45)
  have HX5 := Lib.hid (boxed_below x5 hb45)
  have c2 := HX2.out.cell
  clear hw5 hw5' hb04 hb45 x2 x4 x5 y1 y2
  gi_wp2_with fail
  refine ⟨trivial, (callsIn_wide.2 HCO.out).mono ?_⟩
  rintro e w6 ⟨v6, rfl, ho6, hb6⟩
  obtain ⟨g6, k6, rfl, hg61, hg62⟩ := World.ownsRow.form ho6 (by have := HMM.out; omega)
  have HG6 := Lib.hid (show w.heap.size + 3 ≤ g6 ∧ g6 < w6.heap.size by have := HS4.out; have := HB45.out.size; omega)
  have HC6 := Lib.hid (fun i (hi : i < M) => (show w6.cell? ⟨g6, 0 + i, none⟩ = some (chunkV bb off n i) by rw [Nat.zero_add, ho6.cellAt i (by omega)]; simp [hi]))
  have HB6 := Lib.hid hb6
  have c2' : w6.cell? ⟨w.heap.size, 0, none⟩ = some (.pointer (some ⟨gp, 0, none⟩)) := (boxed_below HX2.out hb6).cell
  have x46 := boxed_below HX4.out hb6
  have x56 := boxed_below HX5.out hb6
  have c4 := x46.cell
  have f4 := x46.frozen
  have c5 := x56.cell
  have f5 := x56.frozen
  have HX26 := Lib.hid (boxed_below HX2.out hb6)
  have HX46 := Lib.hid x46
  have HX56 := Lib.hid x56
  have HB06 := Lib.hid (bt HB05.out hb6)
  clear ho6 hb6 HCO c2 x46 x56 hg61 hg62
  gi_wp2_with fail
  refine ⟨trivial, (callsIn_wide.2 (HRM.out _ HB06.out)).mono ?_⟩
  rintro e w' ⟨rfl, rfl⟩
  gi_wp2_with fail
  refine ⟨trivial, (callsIn_wide.2 (back_any (some ⟨g6, 0, none⟩) M k6 _)).mono ?_⟩
  rintro e w7 ⟨rfl, hw7⟩
  obtain ⟨b7, hb7⟩ : ∃ b7, b7 = w6.heap.size := ⟨_, rfl⟩
  have e7 : (w6.alloc (.cells #[.int .i64 0] 3)).heap.size = b7 + 1 := by rw [hb7]; simp
  have hN7 : w7.heap.size = b7 + 2 := by rw [hw7, World.size_alloc, e7]
  have hb67 : Below w6.heap.size w6 w7 := by rw [hw7]; exact bt (alloc_below _ _) (alloc_below _ _)
  have z7 : Boxed w7 b7 3 (.int .i64 0) := by rw [hw7, hb7]; exact (Boxed.new _ _ _).alloc _
  have zs : Boxed w7 (b7 + 1) 40 (.slice (some ⟨g6, 0, none⟩) M k6) := by
    have := Boxed.new (w6.alloc (.cells #[.int .i64 0] 3)) 40 (.slice (some ⟨g6, 0, none⟩) M k6)
    rw [e7] at this
    rw [hw7]; exact this
  have hw6s : w.heap.size + 4 ≤ b7 := by have := HG6.out; omega
  have HCS := Lib.hid (fun i (hi : i < M) => (hb67.cell (p := ⟨g6, 0 + i, none⟩) HG6.out.2).trans (HC6.out i hi))
  have HZ2 := Lib.hid (boxed_below HX26.out hb67)
  have HZ4 := Lib.hid (boxed_below HX46.out hb67)
  have HZ5 := Lib.hid (boxed_below HX56.out hb67)
  have HZ7 := Lib.hid z7
  have HZS := Lib.hid zs
  have HB07 := Lib.hid (bt HB06.out hb67)
  have HN7 := Lib.hid hN7
  have HBE := Lib.hid hw6s
  have HG67 := Lib.hid (show g6 < b7 by have := HG6.out; omega)
  rw [e7, ← hb7]
  clear hw7 e7 hN7 hb67 z7 zs hw6s hb7 c2' c4 f4 c5 f5
  gi_wp2_with fail
  have hB7 : B ≤ w7.heap.size := Nat.le_trans HBB.out HB07.out.size
  have hlt7 : ∀ k, F k → k < w.heap.size := fun k hk => (HLIES.out k hk).2
  refine wpIn_rangeFunc_ownG rfl (by omega) (gf := 114) (lb := #[.pointer (some ⟨b7 + 1, 0, none⟩)]) rfl trivial (enters_of Try.func114 (by kernel_rfl) rfl)
    (back_stops (6 - 1) (by omega) (b7 + 1) g6 0 M k6 (chunkV bb off n) (by omega) w7 (by have := HN7.out; omega) (by have := HN7.out; have := HG67.out; omega) HZS.out.cell HCS.out)
    Kept2.trans (fun W l o o' hl hlo _ _ => by have := HN7.out; have := HG67.out; exact ⟨World.putObj_heap_other (by omega), World.putObj_heap_other (by omega)⟩) (Below.refl _ _) (fun _ => rfl)
    (fun pre W => PutI w B F gp gd gm s p b b7 w7.heap.size pre W)
    (fun cd pre W => cd = .ret ∧ PutX w B F gp gd gm s p b w7.heap.size pre W)
    (fun pre W W' row hI hg hr => hI.kept (by have := HGM.out; have := HB07.out.size; omega) hB7 HB07.out.size hg hr)
    (fun cd pre W W' row hI hg hr => ⟨hI.1, hI.2.kept (by have := HGM.out; have := HB07.out.size; omega) hB7 HB07.out.size hg hr⟩)
    ?h0 ?a1 ?assign ?body ?done ?stop
  case h0 =>
    refine ⟨rfl, (HQ.out _ HB07.out).mono (fun k hk => .inl hk) ?_, by simp [putP, putL], by simp [putP, putL], HZ2.out, HZ4.out, HZ5.out, HZ7.out, .of_below HB07.out, Nat.le_refl _⟩
    intro k hk
    rcases hk with hk | hk
    · have := HLIES.out k hk
      have := HB07.out.size
      omega
    · omega
  case assign =>
    intro l x W K hK
    gi_wp2
    exact hK
  case body =>
    rintro l pre x W hI hlt
    obtain ⟨hf, hbr⟩ := HPC.out W hI.fr (M - 1 - x)
    have hplen : (pieceAt b (M - 1 - x)).length ≤ 4086 := by unfold pieceAt; rw [List.length_take]; omega
    obtain ⟨Lp, hLp⟩ : ∃ Lp, Lp = (pieceAt b (M - 1 - x)).length := ⟨_, rfl⟩
    rw [← hLp] at hf hplen
    simp only [hf]
    obtain ⟨nx, hnx⟩ : ∃ nx : Nat, (putP s p b pre).2.2.1 = (nx : Int) := ⟨_, (Int.toNat_of_nonneg hI.nx.1).symm⟩
    obtain ⟨F', hF', ht, hp'⟩ := hI.pgr.tight
    have hno : ∀ t, w.heap.size ≤ t → t < w7.heap.size → ¬ F' t := fun t h1 h2 h3 => by
      rcases hF' t h3 with h4 | h4
      · have := hlt7 t h4; omega
      · omega
    have hBW : B ≤ W.heap.size := Nat.le_trans hB7 hI.big
    have hadd := add_any hp' hBW nx (by have := hI.nx; omega) (some ⟨bb, off + 4086 * (M - 1 - x), none⟩) Lp Lp (pieceAt b (M - 1 - x)) hbr hLp hplen (fun _ a ha hk => by cases ha; exact (hF' _ hk).elim HNF.out fun h' => Nat.lt_irrefl _ (Nat.lt_of_lt_of_le (Nat.lt_of_lt_of_le HBB2.out HB07.out.size) h'.1)) (by have := hI.pcs; have := HLIM.out; omega)
    have hsn := putP_snoc s p b pre x hI.err
    rw [← HMD.out, hnx] at hsn
    have hnext := putP_next s p b pre x hI.err hI.pgr.ok
    have hpcs := putP_pcs s p b pre x hI.err
    obtain ⟨⟨s1, p1, n1, er1⟩, ha⟩ : ∃ a, a = addV (putP s p b pre).1 (putP s p b pre).2.1 (nx : Int) (pieceAt b (M - 1 - x)) := ⟨_, rfl⟩
    rw [← ha] at hadd hsn
    unfold PgPost2 at hadd
    dsimp only at hadd hsn
    have HADD := Lib.hid hadd
    have c2 := hI.y2.cell
    have c7 := hI.y7.cell
    rw [hnx] at c7
    have HI := Lib.hid hI
    have HF' := Lib.hid hF'
    have HT := Lib.hid ht
    have HNO := Lib.hid hno
    have HPCS := Lib.hid hpcs
    have HNEXT := Lib.hid hnext
    have HSN := Lib.hid hsn
    have HB7 := Lib.hid hB7
    have HLT7 := Lib.hid hlt7
    have HLP := Lib.hid hlt
    clear hadd hI hF' ht hno hpcs hnext hsn ha hBW hnx hf hbr hLp hp' hplen hlt hB7 hlt7
    have hfrj : ∀ j, j < w.heap.size → F' j → F j := fun j h1 h2 => (HF'.out j h2).elim id fun h3 => by have := HB07.out.size; omega
    have HFRJ := Lib.hid hfrj
    have hgm : gm < w7.heap.size := by have := HGM.out; have := HB07.out.size; omega
    have HGM7 := Lib.hid hgm
    clear hfrj hgm
    by_cases he : er1 = 0
    · subst he
      have HST := Lib.hid (show putP s p b (pre ++ [x]) = (s1, p1, n1, 0) by rw [HSN.out]; simp)
      gi_wp2_with fail
      refine ⟨trivial, (CallsIn.inRound l (callsIn_wide.2 HADD.out)).mono ?_⟩
      rintro e W3 ⟨rfl, hp3, hf3⟩
      have z7 := boxed_fr HI.out.y7 hf3 (HNO.out b7 (by have := HBE.out; omega) (by have := HN7.out; omega))
      have z2 := boxed_fr HI.out.y2 hf3 (HNO.out _ (Nat.le_refl _) (by have := HN7.out; have := HBE.out; omega))
      have z4 := boxed_fr HI.out.y4 hf3 (HNO.out _ (by omega) (by have := HN7.out; have := HBE.out; omega))
      have z5 := boxed_fr HI.out.y5 hf3 (HNO.out _ (by omega) (by have := HN7.out; have := HBE.out; omega))
      have d7 := z7.cell
      have e7 := z7.frozen
      have HZ27 := Lib.hid z7
      have HZ22 := Lib.hid z2
      have HZ24 := Lib.hid z4
      have HZ25 := Lib.hid z5
      have HP3 := Lib.hid hp3
      have HF3 := Lib.hid hf3
      clear z7 z2 z4 z5 hp3 hf3 c2 c7
      gi_wp2_with fail
      have hsub3 : ∀ k, Plus F' W W3 k → LoopF F w7.heap.size W3 k := fun k hk => hk.elim (fun h' => LoopF.grow HF3.out.size k (HF'.out k h')) fun h' => .inr ⟨Nat.le_trans HI.out.big h'.1, h'.2⟩
      have hp4 := pgr_box (w := w) (HP3.out.mono hsub3 (LoopF.lies (w := W) HI.out.pgr.lies HB7.out HF3.out.size)) HLT7.out HBB.out b7 (by have := HBE.out; omega) (by have := HN7.out; omega) (.int .i64 n1)
      refine ⟨(tight_keeps HT.out HF3.out HGM7.out).trans ((KeepsOthers.setCell _ _ _).from _), ⟨(Below.heap_setCell _ _ _ _ (by simp)).trans (HF3.out.block _ (by have := HN7.out; have := HI.out.big; omega) (HNO.out _ (by have := HBE.out; omega) (by have := HN7.out; omega))), (Below.heap_setCell _ _ _ _ (by have := HG67.out; simp; omega)).trans (HF3.out.block _ (by have := HN7.out; have := HI.out.big; have := HG67.out; omega) (HNO.out _ (by have := HG6.out; omega) (by have := HN7.out; have := HG67.out; omega)))⟩, ?_⟩
      have HNEXT2 := HNEXT.out
      have HPCS2 := HPCS.out
      rw [HST.out] at HNEXT2 HPCS2
      refine ⟨by rw [HST.out], by rw [HST.out]; exact hp4, by rw [HST.out]; exact HNEXT2, by rw [HST.out, List.length_append]; exact Nat.le_trans HPCS2 (by have := HI.out.pcs; simp only [List.length_cons, List.length_nil]; omega), HZ22.out.other (by have := HBE.out; omega) _, HZ24.out.other (by have := HBE.out; omega) _, HZ25.out.other (by have := HBE.out; omega) _, by rw [HST.out]; exact HZ27.out.set _, fr_box (HI.out.fr.trans' HF3.out HFRJ.out) b7 (by have := HBE.out; omega) _, by simp [World.setCell]; exact Nat.le_trans HI.out.big HF3.out.size⟩
    · have HST := Lib.hid (show putP s p b (pre ++ [x]) = (s1, p1, 0, er1) by rw [HSN.out]; simp [he])
      have HE := Lib.hid he
      gi_wp2_with fail
      refine ⟨trivial, (CallsIn.inRound l (callsIn_wide.2 HADD.out)).mono ?_⟩
      rintro e W3 ⟨rfl, hp3, hf3⟩
      have z4 := boxed_fr HI.out.y4 hf3 (HNO.out _ (by omega) (by have := HN7.out; have := HBE.out; omega))
      have z5 := boxed_fr HI.out.y5 hf3 (HNO.out _ (by omega) (by have := HN7.out; have := HBE.out; omega))
      have d4 := z4.cell
      have e4 := z4.frozen
      have d5 := z5.cell
      have e5 := z5.frozen
      have HZ24 := Lib.hid z4
      have HZ25 := Lib.hid z5
      have HP3 := Lib.hid hp3
      have HF3 := Lib.hid hf3
      clear z4 z5 hp3 hf3 c2 c7
      gi_wp2_with fail
      have hsub3 : ∀ k, Plus F' W W3 k → LoopF F w7.heap.size W3 k := fun k hk => hk.elim (fun h' => LoopF.grow HF3.out.size k (HF'.out k h')) fun h' => .inr ⟨Nat.le_trans HI.out.big h'.1, h'.2⟩
      have hp4 := pgr_box (w := w) (HP3.out.mono hsub3 (LoopF.lies (w := W) HI.out.pgr.lies HB7.out HF3.out.size)) HLT7.out HBB.out (w.heap.size + 1) (by omega) (by have := HN7.out; have := HBE.out; omega) (.int .i64 0)
      have hp5 := pgr_box (w := w) hp4 HLT7.out HBB.out (w.heap.size + 1 + 1) (by omega) (by have := HN7.out; have := HBE.out; omega) (.int .i64 er1)
      refine ⟨((tight_keeps HT.out HF3.out HGM7.out).trans ((KeepsOthers.setCell _ _ _).from _)).trans ((KeepsOthers.setCell _ _ _).from _), rfl, by rw [HST.out]; exact HE.out, by rw [HST.out], by rw [HST.out]; exact hp5, (HZ24.out.set _).other (by omega) _, by rw [HST.out]; exact (HZ25.out.other (by omega) _).set _, fr_box (fr_box (HI.out.fr.trans' HF3.out HFRJ.out) _ (by omega) _) _ (by omega) _, by simp [World.setCell]; exact Nat.le_trans HI.out.big HF3.out.size⟩
  case done =>
    rintro D ys W hD hys hI hK
    have HYS := Lib.hid hys
    have c7 := hI.y7.cell
    have c4 := hI.y4.cell
    have f4 := hI.y4.frozen
    have c5 := hI.y5.cell
    have f5 := hI.y5.frozen
    have HI := Lib.hid hI
    have HK := Lib.hid hK
    have HD := Lib.hid hD
    have HLT7 := Lib.hid hlt7
    have HB7 := Lib.hid hB7
    clear hI hK hD hlt7 hB7 hys
    gi_wp2_with fail
    have hp4 := pgr_box (w := w) HI.out.pgr HLT7.out HBB.out (w.heap.size + 1) (by omega) (by have := HN7.out; have := HBE.out; omega) (.int .i64 (putP s p b ys).2.2.1)
    have hp5 := pgr_box (w := w) hp4 HLT7.out HBB.out (w.heap.size + 1 + 1) (by omega) (by have := HN7.out; have := HBE.out; omega) (.int .i64 0)
    have hfr5 := fr_box (fr_box HI.out.fr (w.heap.size + 1) (by omega) (.int .i64 (putP s p b ys).2.2.1)) (w.heap.size + 1 + 1) (by omega) (.int .i64 0)
    have hK5 := (KeepsOthers.setCell _ ⟨w.heap.size + 1 + 1, 0, none⟩ (.int .i64 0)).same D _ ((KeepsOthers.setCell W ⟨w.heap.size + 1, 0, none⟩ (.int .i64 (putP s p b ys).2.2.1)).same D _ HK.out rfl) rfl
    have y4 := (HI.out.y4.set (.int .i64 (putP s p b ys).2.2.1)).other (B' := w.heap.size + 1 + 1) (by omega) (.int .i64 0)
    have y5 := (HI.out.y5.other (B' := w.heap.size + 1) (by omega) (.int .i64 (putP s p b ys).2.2.1)).set (.int .i64 0)
    have hrow : ∀ r, some D = some r → w7.heap.size ≤ r ∧ ∃ o : Obj, ((W.setCell ⟨w.heap.size + 1, 0, none⟩ (.int .i64 (putP s p b ys).2.2.1)).setCell ⟨w.heap.size + 1 + 1, 0, none⟩ (.int .i64 0)).heap[r]? = some o ∧ o.isCells = false := fun r e => by
      cases e
      exact ⟨HD.out, _, hK5, rfl⟩
    have hgr := grownBy_putObj' ((W.setCell ⟨w.heap.size + 1, 0, none⟩ (.int .i64 (putP s p b ys).2.2.1)).setCell ⟨w.heap.size + 1 + 1, 0, none⟩ (.int .i64 0)) D (.deferred none)
    have hp6 := pgr_kept' hp5 hgr hrow (by have := HGM.out; have := HB07.out.size; omega) HB7.out
    have q4 := (boxed_own' y4 hgr fun r e => (hrow r e).2).cell
    have q5 := (boxed_own' y5 hgr fun r e => (hrow r e).2).cell
    have hfr6 := fr_grown hfr5 hgr fun r e => Nat.le_trans HB07.out.size (hrow r e).1
    refine ⟨by simp, .inl ⟨_, _, rfl, run_takeDeferred hK5, ?_⟩⟩
    rw [← HMD.out, ← HYS.out]
    refine ⟨.tuple #[.int .i64 (putP s p b ys).2.2.1, .int .i64 0], by simp [results, Try.results26, go_sem, q4, q5], by rw [HI.out.err], pgr_out hp6 HB07.out.size HBB.out hfr6.size, hfr6⟩
  case stop =>
    rintro D cd pre W hD ⟨k, hk, rfl⟩ ⟨rfl, hX⟩ hK
    gi_wp2_with fail
    have hrow : ∀ r, some D = some r → w7.heap.size ≤ r ∧ ∃ o : Obj, W.heap[r]? = some o ∧ o.isCells = false := fun r e => by
      cases e
      exact ⟨hD, _, hK, rfl⟩
    have hgr := grownBy_putObj' W D (.deferred none)
    have hp6 := pgr_kept' hX.pgr hgr hrow (by have := HGM.out; have := HB07.out.size; omega) hB7
    have q4 := (boxed_own' hX.y4 hgr fun r e => (hrow r e).2).cell
    have q5 := (boxed_own' hX.y5 hgr fun r e => (hrow r e).2).cell
    have hfr6 := fr_grown hX.fr hgr fun r e => Nat.le_trans HB07.out.size (hrow r e).1
    refine ⟨by simp, .inl ⟨_, _, rfl, run_takeDeferred hK, ?_⟩⟩
    rw [← HMD.out, putP_err s p b k M hk hX.err]
    refine ⟨.tuple #[.int .i64 0, .int .i64 (putP s p b (List.range k)).2.2.2], by simp [results, Try.results26, go_sem, q4, q5], by rw [hX.zero], pgr_out hp6 HB07.out.size HBB.out hfr6.size, hfr6⟩
set_option maxRecDepth 100000 in
set_option maxHeartbeats 16000000 in
theorem put_none_full {w : World} {B : Nat} {F : Nat → Prop} {gp gd gm : Nat} {s : St} {p : Pg} (h : Pgr w B F gp gd gm s p) (hB : B ≤ w.heap.size) (A : Option Addr) (c n : Nat) (b : List UInt8) (hA : BRd w A b) (hn : n = b.length) (hl : ¬ 1048576 < b.length) (hne : b.length = 0) (hcap : n ≤ c)
    (hfull : (1022 : Int) - cntS p.st < manyOf b) :
    Calls Try.prog 26 #[.pointer (some ⟨gp, 0, none⟩), .slice A n c] w (PgPost2 B F gp gd gm (putV s p b).1 (putV s p b).2.1 (putV s p b).2.2.1 (putV s p b).2.2.2 w) := by
  have HR := Lib.hid (show putV s p b = (s, p, 0, 5) by unfold putV; rw [if_neg hl, if_pos hfull])
  have HM := Lib.hid (fun w' (hb : Below w.heap.size w w') => pmade_any (h.below hb).made)
  have HRM := Lib.hid (fun w' (hb : Below w.heap.size w w') => room_any (h.below hb))
  have HP := Lib.hid (fun w' (hb : Below w.heap.size w w') => h.plus hB hb)
  have HQ := Lib.hid (fun w' (hb : Below w.heap.size w w') => h.below hb)
  have hCle : (cntS p.st : Int) ≤ 1022 := by have := cnt_le p.st; have := h.ok.len; omega
  have hlI : ¬ (1048576 : Int) < (n : Int) := by omega
  have hfI := hfull
  obtain ⟨M, hM⟩ : ∃ M, M = manyOf b := ⟨_, rfl⟩
  rw [← hM] at hfI
  have hMle : M ≤ 257 := by rw [hM]; unfold manyOf; split <;> omega
  obtain rfl : M = 1 := by rw [hM]; unfold manyOf; rw [if_pos hne]
  have hn0 : ¬ 0 < n := by omega
  unfold PgPost2
  rw [HR.out]
  generalize hCC : cntS p.st = C at *
  clear h hB hn hl hfull hM hA hCC hne
  refine (callsIn_wide (n := 6)).1 ?_
  refine callsIn_of_wp_marks Try.func26 rfl trivial ?_ rfl
  simp only [Try.ntmps26, List.size_toArray, List.length_cons, List.length_nil, Nat.reduceAdd, Nat.reduceSub, Array.replicate_succ, Array.replicate_zero, List.push_toArray, List.append_toArray, List.nil_append, List.cons_append]
  gi_wp2_with fail
  refine ⟨trivial, (callsIn_wide.2 (HM.out _ (bt (bt (alloc_below _ _) (alloc_below _ _)) (alloc_below _ _)))).mono ?_⟩
  rintro e w' ⟨rfl, rfl⟩
  gi_wp2_with fail
  obtain ⟨W4, hW4, hS4, hb04, x2, x4, x5, x3⟩ := put_world w gp
  rw [hW4]
  obtain ⟨g6, hg6⟩ : ∃ g6, g6 = w.heap.size + 1 + 1 + 1 := ⟨_, rfl⟩
  rw [← hg6]
  have c2 := x2.cell
  have c4 := x4.cell
  have f4 := x4.frozen
  have c5 := x5.cell
  have f5 := x5.frozen
  have HX26 := Lib.hid x2
  have HX46 := Lib.hid x4
  have HX56 := Lib.hid x5
  have HB06 := Lib.hid hb04
  have HG6 := Lib.hid (show w.heap.size + 3 ≤ g6 ∧ g6 < W4.heap.size by omega)
  have HC6 := Lib.hid (fun i (hi : i < 1) => (show W4.cell? ⟨g6, 0 + i, none⟩ = some (.slice none 0 0) by obtain rfl : i = 0 := by omega
                                                                                                          rw [hg6]; exact x3.cell))
  clear hW4 hS4 hb04 x2 x4 x5 x3 hg6
  refine ⟨trivial, (callsIn_wide.2 (HRM.out _ HB06.out)).mono ?_⟩
  rintro e w' ⟨rfl, rfl⟩
  gi_wp2_with fail
  refine ⟨.tuple #[.int .i64 0, .int .i64 5], by simp [results, Try.results26, go_sem, c4, c5], rfl, HP.out _ ?_⟩
  exact (HB06.out.setCell (p := ⟨w.heap.size + 1, 0, none⟩) (Nat.le_add_right _ _) _).setCell (p := ⟨w.heap.size + 1 + 1, 0, none⟩) (Nat.le_add_right _ 2) _
set_option maxRecDepth 100000 in
set_option maxHeartbeats 16000000 in
theorem put_none {w : World} {B : Nat} {F : Nat → Prop} {gp gd gm : Nat} {s : St} {p : Pg} (h : Pgr w B F gp gd gm s p) (hB : B ≤ w.heap.size) (A : Option Addr) (c n : Nat) (b : List UInt8) (hA : BRd w A b) (hn : n = b.length) (hl : ¬ 1048576 < b.length) (hne : b.length = 0) (hcap : n ≤ c)
    (hfull : ¬ (1022 : Int) - cntS p.st < manyOf b) (hAF : 0 < b.length → ∀ a, A = some a → ¬ F a.block) (hlim : s.pcs.length + 10000000 ≤ 8000000000000) :
    Calls Try.prog 26 #[.pointer (some ⟨gp, 0, none⟩), .slice A n c] w (PgPost2 B F gp gd gm (putV s p b).1 (putV s p b).2.1 (putV s p b).2.2.1 (putV s p b).2.2.2 w) := by
  have HR := Lib.hid (show putV s p b = putP s p b (List.range (manyOf b)) by unfold putV; rw [if_neg hl, if_neg hfull, putP_all])
  have HM := Lib.hid (fun w' (hb : Below w.heap.size w w') => pmade_any (h.below hb).made)
  have HRM := Lib.hid (fun w' (hb : Below w.heap.size w w') => room_any (h.below hb))
  have HP := Lib.hid (fun w' (hb : Below w.heap.size w w') => h.plus hB hb)
  have HQ := Lib.hid (fun w' (hb : Below w.heap.size w w') => h.below hb)
  have hCle : (cntS p.st : Int) ≤ 1022 := by have := cnt_le p.st; have := h.ok.len; omega
  have hlI : ¬ (1048576 : Int) < (n : Int) := by omega
  have hfI := hfull
  obtain ⟨M, hM⟩ : ∃ M, M = manyOf b := ⟨_, rfl⟩
  rw [← hM] at hfI
  have hMle : M ≤ 257 := by rw [hM]; unfold manyOf; split <;> omega
  have HAF := Lib.hid hAF
  have HA := Lib.hid hA
  have HLIM := Lib.hid hlim
  have HLIES := Lib.hid h.lies
  have HBB := Lib.hid hB
  have HOKP := Lib.hid h.ok
  have HGM := Lib.hid (h.lies gm h.fm).2
  have HFGM := Lib.hid h.fm
  have HLB := Lib.hid hl
  obtain rfl : M = 1 := by rw [hM]; unfold manyOf; rw [if_pos hne]
  have hn0 : ¬ 0 < n := by omega
  have HPC := Lib.hid (fun W (hf : Fr F w W) j => piece_none (W := W) hne j)
  have HMD := Lib.hid hM
  have HND := Lib.hid hn
  unfold PgPost2
  rw [HR.out]
  generalize hCC : cntS p.st = C at *
  clear h hB hn hl hfull hM hA hCC hne hAF hlim
  refine (callsIn_wide (n := 6)).1 ?_
  refine callsIn_of_wp_marks Try.func26 rfl trivial ?_ rfl
  simp only [Try.ntmps26, List.size_toArray, List.length_cons, List.length_nil, Nat.reduceAdd, Nat.reduceSub, Array.replicate_succ, Array.replicate_zero, List.push_toArray, List.append_toArray, List.nil_append, List.cons_append]
  gi_wp2_with fail
  refine ⟨trivial, (callsIn_wide.2 (HM.out _ (bt (bt (alloc_below _ _) (alloc_below _ _)) (alloc_below _ _)))).mono ?_⟩
  rintro e w' ⟨rfl, rfl⟩
  gi_wp2_with fail
  obtain ⟨W4, hW4, hS4, hb04, x2, x4, x5, x3⟩ := put_world w gp
  rw [hW4]
  obtain ⟨g6, hg6⟩ : ∃ g6, g6 = w.heap.size + 1 + 1 + 1 := ⟨_, rfl⟩
  rw [← hg6]
  have c2 := x2.cell
  have c4 := x4.cell
  have f4 := x4.frozen
  have c5 := x5.cell
  have f5 := x5.frozen
  have HX26 := Lib.hid x2
  have HX46 := Lib.hid x4
  have HX56 := Lib.hid x5
  have HB06 := Lib.hid hb04
  have HG6 := Lib.hid (show w.heap.size + 3 ≤ g6 ∧ g6 < W4.heap.size by omega)
  have HC6 := Lib.hid (fun i (hi : i < 1) => (show W4.cell? ⟨g6, 0 + i, none⟩ = some (.slice none 0 0) by obtain rfl : i = 0 := by omega
                                                                                                          rw [hg6]; exact x3.cell))
  clear hW4 hS4 hb04 x2 x4 x5 x3 hg6
  refine ⟨trivial, (callsIn_wide.2 (HRM.out _ HB06.out)).mono ?_⟩
  rintro e w' ⟨rfl, rfl⟩
  gi_wp2_with fail
  refine ⟨trivial, (callsIn_wide.2 (back_any (some ⟨g6, 0, none⟩) 1 1 _)).mono ?_⟩
  rintro e w7 ⟨rfl, hw7⟩
  obtain ⟨b7, hb7⟩ : ∃ b7, b7 = W4.heap.size := ⟨_, rfl⟩
  have e7 : (W4.alloc (.cells #[.int .i64 0] 3)).heap.size = b7 + 1 := by rw [hb7]; simp
  have hN7 : w7.heap.size = b7 + 2 := by rw [hw7, World.size_alloc, e7]
  have hb67 : Below W4.heap.size W4 w7 := by rw [hw7]; exact bt (alloc_below _ _) (alloc_below _ _)
  have z7 : Boxed w7 b7 3 (.int .i64 0) := by rw [hw7, hb7]; exact (Boxed.new _ _ _).alloc _
  have zs : Boxed w7 (b7 + 1) 40 (.slice (some ⟨g6, 0, none⟩) 1 1) := by
    have := Boxed.new (W4.alloc (.cells #[.int .i64 0] 3)) 40 (.slice (some ⟨g6, 0, none⟩) 1 1)
    rw [e7] at this
    rw [hw7]; exact this
  have hW4s : w.heap.size + 4 ≤ b7 := by have := HG6.out; omega
  have HCS := Lib.hid (fun i (hi : i < 1) => (hb67.cell (p := ⟨g6, 0 + i, none⟩) HG6.out.2).trans (HC6.out i hi))
  have HZ2 := Lib.hid (boxed_below HX26.out hb67)
  have HZ4 := Lib.hid (boxed_below HX46.out hb67)
  have HZ5 := Lib.hid (boxed_below HX56.out hb67)
  have HZ7 := Lib.hid z7
  have HZS := Lib.hid zs
  have HB07 := Lib.hid (bt HB06.out hb67)
  have HN7 := Lib.hid hN7
  have HBE := Lib.hid hW4s
  have HG67 := Lib.hid (show g6 < b7 by have := HG6.out; omega)
  rw [e7, ← hb7]
  clear hw7 e7 hN7 hb67 z7 zs hW4s hb7 c2 c4 f4 c5 f5
  gi_wp2_with fail
  have hB7 : B ≤ w7.heap.size := Nat.le_trans HBB.out HB07.out.size
  have hlt7 : ∀ k, F k → k < w.heap.size := fun k hk => (HLIES.out k hk).2
  refine wpIn_rangeFunc_ownG rfl (by omega) (gf := 114) (lb := #[.pointer (some ⟨b7 + 1, 0, none⟩)]) rfl trivial (enters_of Try.func114 (by kernel_rfl) rfl)
    (back_stops (6 - 1) (by omega) (b7 + 1) g6 0 1 1 ((fun _ => Value.slice none 0 0)) (by omega) w7 (by have := HN7.out; omega) (by have := HN7.out; have := HG67.out; omega) HZS.out.cell HCS.out)
    Kept2.trans (fun W l o o' hl hlo _ _ => by have := HN7.out; have := HG67.out; exact ⟨World.putObj_heap_other (by omega), World.putObj_heap_other (by omega)⟩) (Below.refl _ _) (fun _ => rfl)
    (fun pre W => PutI w B F gp gd gm s p b b7 w7.heap.size pre W)
    (fun cd pre W => cd = .ret ∧ PutX w B F gp gd gm s p b w7.heap.size pre W)
    (fun pre W W' row hI hg hr => hI.kept (by have := HGM.out; have := HB07.out.size; omega) hB7 HB07.out.size hg hr)
    (fun cd pre W W' row hI hg hr => ⟨hI.1, hI.2.kept (by have := HGM.out; have := HB07.out.size; omega) hB7 HB07.out.size hg hr⟩)
    ?h0 ?a1 ?assign ?body ?done ?stop
  case h0 =>
    refine ⟨rfl, (HQ.out _ HB07.out).mono (fun k hk => .inl hk) ?_, by simp [putP, putL], by simp [putP, putL], HZ2.out, HZ4.out, HZ5.out, HZ7.out, .of_below HB07.out, Nat.le_refl _⟩
    intro k hk
    rcases hk with hk | hk
    · have := HLIES.out k hk
      have := HB07.out.size
      omega
    · omega
  case assign =>
    intro l x W K hK
    gi_wp2
    exact hK
  case body =>
    rintro l pre x W hI hlt
    obtain ⟨hf, hbr⟩ := HPC.out W hI.fr (1 - 1 - x)
    have hplen : (pieceAt b (1 - 1 - x)).length ≤ 4086 := by unfold pieceAt; rw [List.length_take]; omega
    have hLp : 0 = (pieceAt b (1 - 1 - x)).length := by injection hf
    rw [← hLp] at hplen
    obtain ⟨nx, hnx⟩ : ∃ nx : Nat, (putP s p b pre).2.2.1 = (nx : Int) := ⟨_, (Int.toNat_of_nonneg hI.nx.1).symm⟩
    obtain ⟨F', hF', ht, hp'⟩ := hI.pgr.tight
    have hno : ∀ t, w.heap.size ≤ t → t < w7.heap.size → ¬ F' t := fun t h1 h2 h3 => by
      rcases hF' t h3 with h4 | h4
      · have := hlt7 t h4; omega
      · omega
    have hBW : B ≤ W.heap.size := Nat.le_trans hB7 hI.big
    have hadd := add_any hp' hBW nx (by have := hI.nx; omega) none 0 0 (pieceAt b (1 - 1 - x)) hbr hLp hplen (fun _ a ha => by cases ha) (by have := hI.pcs; have := HLIM.out; omega)
    have hsn := putP_snoc s p b pre x hI.err
    rw [← HMD.out, hnx] at hsn
    have hnext := putP_next s p b pre x hI.err hI.pgr.ok
    have hpcs := putP_pcs s p b pre x hI.err
    obtain ⟨⟨s1, p1, n1, er1⟩, ha⟩ : ∃ a, a = addV (putP s p b pre).1 (putP s p b pre).2.1 (nx : Int) (pieceAt b (1 - 1 - x)) := ⟨_, rfl⟩
    rw [← ha] at hadd hsn
    unfold PgPost2 at hadd
    dsimp only at hadd hsn
    have HADD := Lib.hid hadd
    have c2 := hI.y2.cell
    have c7 := hI.y7.cell
    rw [hnx] at c7
    have HI := Lib.hid hI
    have HF' := Lib.hid hF'
    have HT := Lib.hid ht
    have HNO := Lib.hid hno
    have HPCS := Lib.hid hpcs
    have HNEXT := Lib.hid hnext
    have HSN := Lib.hid hsn
    have HB7 := Lib.hid hB7
    have HLT7 := Lib.hid hlt7
    have HLP := Lib.hid hlt
    clear hadd hI hF' ht hno hpcs hnext hsn ha hBW hnx hf hbr hLp hp' hplen hlt hB7 hlt7
    have hfrj : ∀ j, j < w.heap.size → F' j → F j := fun j h1 h2 => (HF'.out j h2).elim id fun h3 => by have := HB07.out.size; omega
    have HFRJ := Lib.hid hfrj
    have hgm : gm < w7.heap.size := by have := HGM.out; have := HB07.out.size; omega
    have HGM7 := Lib.hid hgm
    clear hfrj hgm
    by_cases he : er1 = 0
    · subst he
      have HST := Lib.hid (show putP s p b (pre ++ [x]) = (s1, p1, n1, 0) by rw [HSN.out]; simp)
      gi_wp2_with fail
      refine ⟨trivial, (CallsIn.inRound l (callsIn_wide.2 HADD.out)).mono ?_⟩
      rintro e W3 ⟨rfl, hp3, hf3⟩
      have z7 := boxed_fr HI.out.y7 hf3 (HNO.out b7 (by have := HBE.out; omega) (by have := HN7.out; omega))
      have z2 := boxed_fr HI.out.y2 hf3 (HNO.out _ (Nat.le_refl _) (by have := HN7.out; have := HBE.out; omega))
      have z4 := boxed_fr HI.out.y4 hf3 (HNO.out _ (by omega) (by have := HN7.out; have := HBE.out; omega))
      have z5 := boxed_fr HI.out.y5 hf3 (HNO.out _ (by omega) (by have := HN7.out; have := HBE.out; omega))
      have d7 := z7.cell
      have e7 := z7.frozen
      have HZ27 := Lib.hid z7
      have HZ22 := Lib.hid z2
      have HZ24 := Lib.hid z4
      have HZ25 := Lib.hid z5
      have HP3 := Lib.hid hp3
      have HF3 := Lib.hid hf3
      clear z7 z2 z4 z5 hp3 hf3 c2 c7
      gi_wp2_with fail
      have hsub3 : ∀ k, Plus F' W W3 k → LoopF F w7.heap.size W3 k := fun k hk => hk.elim (fun h' => LoopF.grow HF3.out.size k (HF'.out k h')) fun h' => .inr ⟨Nat.le_trans HI.out.big h'.1, h'.2⟩
      have hp4 := pgr_box (w := w) (HP3.out.mono hsub3 (LoopF.lies (w := W) HI.out.pgr.lies HB7.out HF3.out.size)) HLT7.out HBB.out b7 (by have := HBE.out; omega) (by have := HN7.out; omega) (.int .i64 n1)
      refine ⟨(tight_keeps HT.out HF3.out HGM7.out).trans ((KeepsOthers.setCell _ _ _).from _), ⟨(Below.heap_setCell _ _ _ _ (by simp)).trans (HF3.out.block _ (by have := HN7.out; have := HI.out.big; omega) (HNO.out _ (by have := HBE.out; omega) (by have := HN7.out; omega))), (Below.heap_setCell _ _ _ _ (by have := HG67.out; simp; omega)).trans (HF3.out.block _ (by have := HN7.out; have := HI.out.big; have := HG67.out; omega) (HNO.out _ (by have := HG6.out; omega) (by have := HN7.out; have := HG67.out; omega)))⟩, ?_⟩
      have HNEXT2 := HNEXT.out
      have HPCS2 := HPCS.out
      rw [HST.out] at HNEXT2 HPCS2
      refine ⟨by rw [HST.out], by rw [HST.out]; exact hp4, by rw [HST.out]; exact HNEXT2, by rw [HST.out, List.length_append]; exact Nat.le_trans HPCS2 (by have := HI.out.pcs; simp only [List.length_cons, List.length_nil]; omega), HZ22.out.other (by have := HBE.out; omega) _, HZ24.out.other (by have := HBE.out; omega) _, HZ25.out.other (by have := HBE.out; omega) _, by rw [HST.out]; exact HZ27.out.set _, fr_box (HI.out.fr.trans' HF3.out HFRJ.out) b7 (by have := HBE.out; omega) _, by simp [World.setCell]; exact Nat.le_trans HI.out.big HF3.out.size⟩
    · have HST := Lib.hid (show putP s p b (pre ++ [x]) = (s1, p1, 0, er1) by rw [HSN.out]; simp [he])
      have HE := Lib.hid he
      gi_wp2_with fail
      refine ⟨trivial, (CallsIn.inRound l (callsIn_wide.2 HADD.out)).mono ?_⟩
      rintro e W3 ⟨rfl, hp3, hf3⟩
      have z4 := boxed_fr HI.out.y4 hf3 (HNO.out _ (by omega) (by have := HN7.out; have := HBE.out; omega))
      have z5 := boxed_fr HI.out.y5 hf3 (HNO.out _ (by omega) (by have := HN7.out; have := HBE.out; omega))
      have d4 := z4.cell
      have e4 := z4.frozen
      have d5 := z5.cell
      have e5 := z5.frozen
      have HZ24 := Lib.hid z4
      have HZ25 := Lib.hid z5
      have HP3 := Lib.hid hp3
      have HF3 := Lib.hid hf3
      clear z4 z5 hp3 hf3 c2 c7
      gi_wp2_with fail
      have hsub3 : ∀ k, Plus F' W W3 k → LoopF F w7.heap.size W3 k := fun k hk => hk.elim (fun h' => LoopF.grow HF3.out.size k (HF'.out k h')) fun h' => .inr ⟨Nat.le_trans HI.out.big h'.1, h'.2⟩
      have hp4 := pgr_box (w := w) (HP3.out.mono hsub3 (LoopF.lies (w := W) HI.out.pgr.lies HB7.out HF3.out.size)) HLT7.out HBB.out (w.heap.size + 1) (by omega) (by have := HN7.out; have := HBE.out; omega) (.int .i64 0)
      have hp5 := pgr_box (w := w) hp4 HLT7.out HBB.out (w.heap.size + 1 + 1) (by omega) (by have := HN7.out; have := HBE.out; omega) (.int .i64 er1)
      refine ⟨((tight_keeps HT.out HF3.out HGM7.out).trans ((KeepsOthers.setCell _ _ _).from _)).trans ((KeepsOthers.setCell _ _ _).from _), rfl, by rw [HST.out]; exact HE.out, by rw [HST.out], by rw [HST.out]; exact hp5, (HZ24.out.set _).other (by omega) _, by rw [HST.out]; exact (HZ25.out.other (by omega) _).set _, fr_box (fr_box (HI.out.fr.trans' HF3.out HFRJ.out) _ (by omega) _) _ (by omega) _, by simp [World.setCell]; exact Nat.le_trans HI.out.big HF3.out.size⟩
  case done =>
    rintro D ys W hD hys hI hK
    have HYS := Lib.hid hys
    have c7 := hI.y7.cell
    have c4 := hI.y4.cell
    have f4 := hI.y4.frozen
    have c5 := hI.y5.cell
    have f5 := hI.y5.frozen
    have HI := Lib.hid hI
    have HK := Lib.hid hK
    have HD := Lib.hid hD
    have HLT7 := Lib.hid hlt7
    have HB7 := Lib.hid hB7
    clear hI hK hD hlt7 hB7 hys
    gi_wp2_with fail
    have hp4 := pgr_box (w := w) HI.out.pgr HLT7.out HBB.out (w.heap.size + 1) (by omega) (by have := HN7.out; have := HBE.out; omega) (.int .i64 (putP s p b ys).2.2.1)
    have hp5 := pgr_box (w := w) hp4 HLT7.out HBB.out (w.heap.size + 1 + 1) (by omega) (by have := HN7.out; have := HBE.out; omega) (.int .i64 0)
    have hfr5 := fr_box (fr_box HI.out.fr (w.heap.size + 1) (by omega) (.int .i64 (putP s p b ys).2.2.1)) (w.heap.size + 1 + 1) (by omega) (.int .i64 0)
    have hK5 := (KeepsOthers.setCell _ ⟨w.heap.size + 1 + 1, 0, none⟩ (.int .i64 0)).same D _ ((KeepsOthers.setCell W ⟨w.heap.size + 1, 0, none⟩ (.int .i64 (putP s p b ys).2.2.1)).same D _ HK.out rfl) rfl
    have y4 := (HI.out.y4.set (.int .i64 (putP s p b ys).2.2.1)).other (B' := w.heap.size + 1 + 1) (by omega) (.int .i64 0)
    have y5 := (HI.out.y5.other (B' := w.heap.size + 1) (by omega) (.int .i64 (putP s p b ys).2.2.1)).set (.int .i64 0)
    have hrow : ∀ r, some D = some r → w7.heap.size ≤ r ∧ ∃ o : Obj, ((W.setCell ⟨w.heap.size + 1, 0, none⟩ (.int .i64 (putP s p b ys).2.2.1)).setCell ⟨w.heap.size + 1 + 1, 0, none⟩ (.int .i64 0)).heap[r]? = some o ∧ o.isCells = false := fun r e => by
      cases e
      exact ⟨HD.out, _, hK5, rfl⟩
    have hgr := grownBy_putObj' ((W.setCell ⟨w.heap.size + 1, 0, none⟩ (.int .i64 (putP s p b ys).2.2.1)).setCell ⟨w.heap.size + 1 + 1, 0, none⟩ (.int .i64 0)) D (.deferred none)
    have hp6 := pgr_kept' hp5 hgr hrow (by have := HGM.out; have := HB07.out.size; omega) HB7.out
    have q4 := (boxed_own' y4 hgr fun r e => (hrow r e).2).cell
    have q5 := (boxed_own' y5 hgr fun r e => (hrow r e).2).cell
    have hfr6 := fr_grown hfr5 hgr fun r e => Nat.le_trans HB07.out.size (hrow r e).1
    refine ⟨by simp, .inl ⟨_, _, rfl, run_takeDeferred hK5, ?_⟩⟩
    rw [← HMD.out, ← HYS.out]
    refine ⟨.tuple #[.int .i64 (putP s p b ys).2.2.1, .int .i64 0], by simp [results, Try.results26, go_sem, q4, q5], by rw [HI.out.err], pgr_out hp6 HB07.out.size HBB.out hfr6.size, hfr6⟩
  case stop =>
    rintro D cd pre W hD ⟨k, hk, rfl⟩ ⟨rfl, hX⟩ hK
    gi_wp2_with fail
    have hrow : ∀ r, some D = some r → w7.heap.size ≤ r ∧ ∃ o : Obj, W.heap[r]? = some o ∧ o.isCells = false := fun r e => by
      cases e
      exact ⟨hD, _, hK, rfl⟩
    have hgr := grownBy_putObj' W D (.deferred none)
    have hp6 := pgr_kept' hX.pgr hgr hrow (by have := HGM.out; have := HB07.out.size; omega) hB7
    have q4 := (boxed_own' hX.y4 hgr fun r e => (hrow r e).2).cell
    have q5 := (boxed_own' hX.y5 hgr fun r e => (hrow r e).2).cell
    have hfr6 := fr_grown hX.fr hgr fun r e => Nat.le_trans HB07.out.size (hrow r e).1
    refine ⟨by simp, .inl ⟨_, _, rfl, run_takeDeferred hK, ?_⟩⟩
    rw [← HMD.out, putP_err s p b k 1 hk hX.err]
    refine ⟨.tuple #[.int .i64 0, .int .i64 (putP s p b (List.range k)).2.2.2], by simp [results, Try.results26, go_sem, q4, q5], by rw [hX.zero], pgr_out hp6 HB07.out.size HBB.out hfr6.size, hfr6⟩
theorem put_any {w : World} {B : Nat} {F : Nat → Prop} {gp gd gm : Nat} {s : St} {p : Pg} (h : Pgr w B F gp gd gm s p) (hB : B ≤ w.heap.size) (A : Option Addr) (c n : Nat) (b : List UInt8) (hA : BRd w A b) (hn : n = b.length) (hcap : n ≤ c) (hAF : 0 < b.length → ∀ a, A = some a → ¬ F a.block) (hlim : s.pcs.length + 10000000 ≤ 8000000000000) :
    Calls Try.prog 26 #[.pointer (some ⟨gp, 0, none⟩), .slice A n c] w (PgPost2 B F gp gd gm (putV s p b).1 (putV s p b).2.1 (putV s p b).2.2.1 (putV s p b).2.2.2 w) := by
  by_cases hl : 1048576 < b.length
  · exact put_long h hB A c n b hn hl
  · by_cases hne : 0 < b.length
    · by_cases hfull : (1022 : Int) - cntS p.st < manyOf b
      · exact put_some_full h hB A c n b hA hn hl hne hcap hfull
      · exact put_some h hB A c n b hA hn hl hne hcap hfull hAF hlim
    · by_cases hfull : (1022 : Int) - cntS p.st < manyOf b
      · exact put_none_full h hB A c n b hA hn hl (by omega) hcap hfull
      · exact put_none h hB A c n b hA hn hl (by omega) hcap hfull hAF hlim

end

section

open Go.ChangeShapes Go.WideShapes Go.ChangeAt Go.RowKit
set_option linter.unusedVariables false

set_option maxHeartbeats 1600000 in
theorem placeOf_any (g r k : Int) (w : World) (h0 : 0 ≤ g) : Calls Try.prog 66 #[.agg #[.int .i64 g, .int .i64 r, .int .i64 k]] w fun e w' => e = .returned (.int .i64 (g % 2)) ∧ Below w.heap.size w w' := by
  go_enter Try.func66, Try.ntmps66
  go_wp2
  go_ret
  exact ⟨rfl, alloc_below _ _⟩
set_option maxHeartbeats 6400000 in
set_option maxRecDepth 100000 in
theorem wh_any {w : World} {B : Nat} {F : Nat → Prop} {gp gd gm : Nat} {s : St} {p : Pg} (h : Pgr w B F gp gd gm s p) (hB : B ≤ w.heap.size) (g r k : Int) (hlim : s.pcs.length + 10000000 ≤ 7000000000000) :
    Calls Try.prog 77 #[.pointer (some ⟨gd, 0, none⟩), .agg #[.int .i64 g, .int .i64 r, .int .i64 k]] w (PgPost B F gp gd gm (whV s g r k).1 p (whV s g r k).2 w) := by
  have H := Lib.hid h
  have HBB := Lib.hid hB
  have HLIM := Lib.hid hlim
  have hb1 : Below w.heap.size w (w.alloc (.cells #[.int .i64 g, .int .i64 r, .int .i64 k] 37)) := alloc_below _ _
  have HB1 := Lib.hid hb1
  unfold PgPost
  cases hv : headB g r k with
  | false =>
    have HR := Lib.hid (show whV s g r k = (s, 1) by unfold whV; rw [if_pos hv])
    have HH := Lib.hid (header_not g r k (w.alloc (.cells #[.int .i64 g, .int .i64 r, .int .i64 k] 37)) hv)
    clear h hB hlim hv hb1
    go_enter Try.func77, Try.ntmps77
    go_wp2_with fail
    refine HH.out.mono ?_
    rintro e w2 ⟨rfl, hb2⟩
    have HB2 := Lib.hid hb2
    clear hb2
    go_wp2_with fail
    go_ret
    rw [HR.out]
    exact ⟨rfl, H.out.plus HBB.out (bt HB1.out HB2.out)⟩
  | true =>
    have hg : 0 ≤ g ∧ g ≤ 1099511627776 := by
      simp only [headB, Bool.and_eq_true, decide_eq_true_eq] at hv
      omega
    have hg0 := hg.1
    have HG := Lib.hid hg
    have HHL := Lib.hid (headerB_len hv)
    have HR := Lib.hid (show whV s g r k = if (s.write 0 (4096 * (g % 2)) (headerB g r k)).2 ≠ 0 then s.write 0 (4096 * (g % 2)) (headerB g r k) else (s.write 0 (4096 * (g % 2)) (headerB g r k)).1.sync 0 by unfold whV; rw [if_neg (by rw [hv]; simp)])
    have HH := Lib.hid (header_any g r k (w.alloc (.cells #[.int .i64 g, .int .i64 r, .int .i64 k] 37)) hv)
    have HPC := Lib.hid (write_pcs s 0 (4096 * (g % 2)) (headerB g r k))
    have hm0 : 0 ≤ g % 2 := by omega
    have hm1 : g % 2 ≤ 1 := by omega
    obtain ⟨z, hz⟩ : ∃ z, z = s.write 0 (4096 * (g % 2)) (headerB g r k) := ⟨_, rfl⟩
    have HZ := Lib.hid hz
    rw [← hz] at HR HPC
    clear h hB hlim hv hb1 hz
    go_enter Try.func77, Try.ntmps77
    go_wp2_with fail
    refine HH.out.mono ?_
    rintro e w2 ⟨a2, k2, rfl, ho2, hb2⟩
    have HB2 := Lib.hid (bt HB1.out hb2)
    have HBR : Hid (BRd w2 a2 (headerB g r k)) := by
      have h' := ho2
      rw [← HHL.out] at h'
      exact OwnB.brd h'
    have hq : w.heap.size < (w.alloc (.cells #[.int .i64 g, .int .i64 r, .int .i64 k] 37)).heap.size := by simp
    have k0 : w2.cell? ⟨w.heap.size, 0, none⟩ = some (.int .i64 g) := (hb2.cell (p := ⟨w.heap.size, 0, none⟩) hq).trans (World.cell?_alloc_at _ _ _ _ rfl)
    have k1 : w2.cell? ⟨w.heap.size, 1, none⟩ = some (.int .i64 r) := (hb2.cell (p := ⟨w.heap.size, 1, none⟩) hq).trans (World.cell?_alloc_at _ _ _ _ rfl)
    have k2' : w2.cell? ⟨w.heap.size, 2, none⟩ = some (.int .i64 k) := (hb2.cell (p := ⟨w.heap.size, 2, none⟩) hq).trans (World.cell?_alloc_at _ _ _ _ rfl)
    clear ho2 hb2 hq
    go_wp2_with fail
    refine (placeOf_any g r k w2 hg0).mono ?_
    rintro e w3 ⟨rfl, hb3⟩
    have HB3 := Lib.hid (bt HB2.out hb3)
    have HBR3 := Lib.hid (HBR.out.below hb3)
    have H3 := Lib.hid (H.out.below (bt HB2.out hb3))
    clear hb3 k0 k1 k2'
    go_wp2_with fail
    refine (pgr_write H3.out (Nat.le_trans HBB.out HB3.out.size) 0 (4096 * (g % 2)) a2 k2 512 (headerB g r k) HBR3.out HHL.out.symm (by rw [HHL.out]; omega) (by have := HLIM.out; omega)).mono ?_
    rintro e w4 ⟨rfl, hp4, hf4⟩
    rw [← HZ.out] at hp4 ⊢
    have H4 := Lib.hid (Pgr.plus_then ⟨hp4, hf4⟩ HB3.out H.out.lies HBB.out)
    clear hp4 hf4
    by_cases hz2 : z.2 = 0
    · have HR2 := Lib.hid (HR.out.trans (if_neg (by simp [hz2])))
      rw [hz2]
      clear hz2
      go_wp2_with fail
      refine (pgr_sync H4.out.1 (Nat.le_trans HBB.out H4.out.2.size) 0 (by have := HPC.out; have := HLIM.out; have := HHL.out; omega)).mono ?_
      rintro e w5 ⟨rfl, hp5, hf5⟩
      have H5 := Lib.hid (show Pgr w5 B (Plus F w w5) gp gd gm (z.1.sync 0).1 p ∧ Fr F w w5 from ⟨hp5.mono (fun k hk => by
          rcases hk with (hk | hk) | hk
          · exact .inl hk
          · exact .inr ⟨hk.1, Nat.lt_of_lt_of_le hk.2 hf5.size⟩
          · exact .inr ⟨Nat.le_trans H4.out.2.size hk.1, hk.2⟩) (H.out.lies.plus HBB.out (Nat.le_trans H4.out.2.size hf5.size)), H4.out.2.trans' hf5 fun j hj hk => hk.elim id fun h' => by omega⟩)
      clear hp5 hf5
      go_wp2_with fail
      go_ret
      rw [HR2.out]
      exact ⟨rfl, H5.out⟩
    · have HR2 := Lib.hid (HR.out.trans (if_pos hz2))
      go_wp2_with fail
      go_ret
      rw [HR2.out]
      exact ⟨rfl, H4.out⟩
/-- The states, the first k of them settled. -/
def mixS (st : List Nat) (k : Nat) : List Nat := (st.take k).map settleV ++ st.drop k
theorem mix_len (st : List Nat) (k : Nat) : (mixS st k).length = st.length := by
  unfold mixS
  rw [List.length_append, List.length_map, List.length_take, List.length_drop]
  omega
theorem mix_get (st : List Nat) (k : Nat) (h : k < st.length) : (mixS st k).getD k 0 = st[k] := by
  unfold mixS
  have e : ((st.take k).map settleV).length = k := by simp; omega
  rw [List.getD_eq_getElem?_getD, List.getElem?_append_right (by omega), e, Nat.sub_self, List.getElem?_drop, Nat.add_zero, List.getElem?_eq_getElem h]
  rfl
theorem mix_set (st : List Nat) (k : Nat) (h : k < st.length) : (mixS st k).set k (settleV st[k]) = mixS st (k + 1) := by
  unfold mixS
  have e : ((st.take k).map settleV).length = k := by simp; omega
  rw [List.set_append_right _ _ (by omega), e, Nat.sub_self, List.drop_eq_getElem_cons h, List.set_cons_zero, List.take_succ_eq_append_getElem h, List.map_append, List.append_assoc]
  rfl
theorem mix_same (st : List Nat) (k : Nat) (h : k < st.length) (hs : settleV st[k] = st[k]) : mixS st k = mixS st (k + 1) := by
  rw [← mix_set st k h, hs]
  have hl := mix_len st k
  have hg := mix_get st k h
  rw [List.getD_eq_getElem?_getD, List.getElem?_eq_getElem (by omega)] at hg
  have hg' : (mixS st k)[k]'(by omega) = st[k] := hg
  rw [← hg', List.set_getElem_self]
theorem settle_le (x : Nat) (h : x ≤ 3) : settleV x ≤ 3 := by
  unfold settleV
  split
  · omega
  · split <;> omega
theorem mix_small (st : List Nat) (k : Nat) (h : ∀ x ∈ st, x ≤ 3) : ∀ x ∈ mixS st k, x ≤ 3 := by
  intro x hx
  unfold mixS at hx
  rcases List.mem_append.1 hx with hx | hx
  · obtain ⟨y, hy, rfl⟩ := List.mem_map.1 hx
    exact settle_le y (h y (List.mem_of_mem_take hy))
  · exact h x (List.mem_of_mem_drop hx)
/-- The map has turned, and nothing else. -/
theorem Pgr.mapped {w w1 : World} {B : Nat} {F : Nat → Prop} {gp gd gm : Nat} {s : St} {p : Pg} {st : List Nat} (h : Pgr w B F gp gd gm s p) (hm : MapIn w1 gm st) (hg : w.grownBy w1 (some gm)) (hs : w1.heap.size = w.heap.size) (hl : st.length = p.st.length) (h3 : ∀ x ∈ st, x ≤ 3) : Pgr w1 B F gp gd gm s { p with st := st } ∧ Fr F w w1 := by
  obtain ⟨Fd, h1, h2, h4, h5, h6⟩ := h.disk
  have hsz : w.heap.size ≤ w1.heap.size := Nat.le_of_eq hs.symm
  refine ⟨⟨?_, hm, ⟨by rw [hl]; exact h.ok.len, h.ok.gen, h.ok.root, h.ok.hb, h3⟩, ⟨Fd, h1.same hsz fun j hj hF _ => hg.block j hj fun e => by
      cases e
      exact hF.elim h5 fun h' => by have := (h.lies gm h.fm).1; omega, h2, h4, h5, h6.size hsz⟩, h.fp, h.fm, h.ne, h.lies.size hsz⟩, grown_fr hg h.fm⟩
  rw [hg.block gp (h.lies gp h.fp).2 fun e => by cases e; exact h.ne rfl, h.box]
  unfold Pg.nb
  rw [hl]
set_option maxHeartbeats 6400000 in
set_option maxRecDepth 100000 in
theorem settle_pg {w : World} {B : Nat} {F : Nat → Prop} {gp gd gm : Nat} {s : St} {p : Pg} (h : Pgr w B F gp gd gm s p) :
    Calls Try.prog 78 #[.pointer (some ⟨gp, 0, none⟩)] w fun e w' => e = .returned (.tuple #[]) ∧ Pgr w' B F gp gd gm s { p with st := p.st.map settleV } ∧ Fr F w w' := by
  have H := Lib.hid h
  have hlen := h.ok.len
  clear h
  go_enter Try.func78, Try.ntmps78
  go_wp2_with fail
  go_loopw [2] (fun n wr => ∃ k : Nat, k ≤ p.st.length ∧ n = .int .i64 ((k : Int) + 2) ∧ Pgr wr B F gp gd gm s { p with st := mixS p.st k } ∧ Fr F w wr) (fun n _ => p.st.length + 2 - (intOf n).toNat)
  case atStart => exact ⟨0, by omega, rfl, by unfold mixS; simpa using H.out, Fr.refl _ _⟩
  case round =>
    obtain ⟨k, hk, rfl, hp, hf⟩ := hrel
    obtain ⟨⟨-, -, -, -, c4, c5⟩, -⟩ := box6 hp.box
    have hnb : (({ p with st := mixS p.st k } : Pg).nb : Int) = (p.st.length : Int) + 2 := by unfold Pg.nb; simp only [mix_len]; omega
    rw [hnb] at c4
    clear hnb
    by_cases hlt : k < p.st.length
    · have hat := hp.map.at ((k : Int) + 2) (by omega)
      rw [stAt_i, mix_get _ _ hlt] at hat
      have h3 := H.out.ok.small _ (List.getElem_mem hlt)
      obtain ⟨v, hv⟩ : ∃ v, v = p.st[k] := ⟨_, rfl⟩
      rw [← hv] at hat h3
      have hml := mix_len p.st k
      have hmset := mix_set p.st k hlt
      have hmsame := mix_same p.st k hlt
      rw [← hv] at hmset hmsame
      have HV := Lib.hid hv
      by_cases h33 : v = 3
      · subst h33
        obtain ⟨w1, hr1, hm1, hg1, hs1⟩ := hp.map.put k 1 (by simp only [hml]; omega) (by simp only [hml]; omega) (by omega) (by omega)
        have hr1' : (Instr.mapUpdate 117 (.map (some gm)) (.int .i64 ((k : Int) + 2)) (.int .i64 1)).run Try.prog wr = .ok () w1 := hr1
        have e1 : putS (mixS p.st k) k 1 = mixS p.st (k + 1) := by unfold putS; rw [if_pos (by omega)]; exact hmset
        have hpp := hp.mapped hm1 hg1 hs1 (by simp only [e1, mix_len]) (by simp only [e1]; exact mix_small _ _ H.out.ok.small)
        simp only [e1] at hpp
        have HPP := Lib.hid hpp
        have HF := Lib.hid hf
        clear hv hml hmset hmsame hr1 hm1 hg1 hs1 e1 hpp hp hf
        go_wp2_with fail
        go_roundw
        case rel => exact ⟨k + 1, by omega, by go_num, HPP.out.1, HF.out.trans HPP.out.2⟩
        case measure => simp [intOf]; omega
      · by_cases h32 : v = 2
        · subst h32
          have hdel := fun ty => hp.map.del k (by simp only [hml]; omega) (by simp only [hml]; omega) ty
          obtain ⟨w1, hr1, hm1, hg1, hs1⟩ := hdel 0
          have e1 : putS (mixS p.st k) k 0 = mixS p.st (k + 1) := by unfold putS; rw [if_pos (by omega)]; exact hmset
          have hpp := hp.mapped hm1 hg1 hs1 (by simp only [e1, mix_len]) (by simp only [e1]; exact mix_small _ _ H.out.ok.small)
          simp only [e1] at hpp
          have HPP := Lib.hid hpp
          have HF := Lib.hid hf
          clear hv hml hmset hmsame hm1 hg1 hs1 e1 hpp hp hf hdel
          go_wp2_with fail
          first | (refine ⟨⟨k + 1, by omega, by go_num, HPP.out.1, HF.out.trans HPP.out.2⟩, ?_⟩; simp [intOf]; omega) | (go_roundw; (case rel => exact ⟨k + 1, by omega, by go_num, HPP.out.1, HF.out.trans HPP.out.2⟩); (case measure => simp [intOf]; omega))
        · have hvs : settleV v = v := by unfold settleV; rw [if_neg h33, if_neg h32]
          have HPP := Lib.hid hp
          have HMS := Lib.hid (hmsame hvs)
          have HF := Lib.hid hf
          clear hv hml hmset hmsame hp hf hvs
          go_wp2_with fail
          go_roundw
          case rel => exact ⟨k + 1, by omega, by go_num, by rw [← HMS.out]; exact HPP.out, HF.out⟩
          case measure => simp [intOf]; omega
    · obtain rfl : k = p.st.length := by omega
      have e1 : mixS p.st p.st.length = p.st.map settleV := by unfold mixS; simp
      rw [e1] at hp
      have HPP := Lib.hid hp
      have HF := Lib.hid hf
      clear hp hf e1
      go_wp2_with fail
      go_end0
      exact ⟨rfl, HPP.out, HF.out⟩
theorem fr_cellB {G : Nat → Prop} {W W' : World} (hf : Fr G W W') (b o : Nat) (hb : b < W.heap.size) (hn : ¬ G b) : W'.cell? ⟨b, o, none⟩ = W.cell? ⟨b, o, none⟩ := World.cell?_of_block (w := W) (w' := W') (a := ⟨b, o, none⟩) (hf.block b hb hn)
theorem plus2 {w w1 W w3 : World} {B : Nat} {F : Nat → Prop} {gp gd gm : Nat} {s : St} {p : Pg} (hp : Pgr w3 B (Plus (Plus F w w1) W w3) gp gd gm s p) (hf : Fr (Plus F w w1) W w3) (h1 : Fr F w w1) (hb : Below w1.heap.size w1 W) (hl : Lies w B F) (hB : B ≤ w.heap.size) : Pgr w3 B (Plus F w w3) gp gd gm s p ∧ Fr F w w3 :=
  ⟨hp.mono (fun k hk => by
      have := h1.size
      have := hb.size
      have := hf.size
      rcases hk with (hk | hk) | hk
      · exact .inl hk
      · exact .inr ⟨hk.1, by omega⟩
      · exact .inr ⟨by omega, hk.2⟩) (hl.plus hB (Nat.le_trans h1.size (Nat.le_trans hb.size hf.size))), (h1.trans (.of_below hb)).trans' hf fun j hj hk => hk.elim id fun h' => by omega⟩
/-- The head is another one. -/
theorem Pgr.headed {w : World} {B : Nat} {F : Nat → Prop} {gp gd gm : Nat} {s : St} {p : Pg} (h : Pgr w B F gp gd gm s p) (g r k : Int) (hk : headB g r k = true) : Pgr (((w.setCell ⟨gp, 1, none⟩ (.int .i64 g)).setCell ⟨gp, 2, none⟩ (.int .i64 r)).setCell ⟨gp, 3, none⟩ (.int .i64 k)) B F gp gd gm s { p with gen := g, root := r, hb := k } ∧ Fr F w (((w.setCell ⟨gp, 1, none⟩ (.int .i64 g)).setCell ⟨gp, 2, none⟩ (.int .i64 r)).setCell ⟨gp, 3, none⟩ (.int .i64 k)) := by
  have hf : Fr (fun j => j = gp) w (((w.setCell ⟨gp, 1, none⟩ (.int .i64 g)).setCell ⟨gp, 2, none⟩ (.int .i64 r)).setCell ⟨gp, 3, none⟩ (.int .i64 k)) := ((Fr.set (F := fun j => j = gp) w gp 1 _ rfl).trans (Fr.set (F := fun j => j = gp) _ gp 2 _ rfl)).trans (Fr.set (F := fun j => j = gp) _ gp 3 _ rfl)
  have hb := set6 (set6 (set6 h.box 1 (.int .i64 g)) 2 (.int .i64 r)) 3 (.int .i64 k)
  obtain ⟨Fd, h1, h2, h4, h5, h6⟩ := h.disk
  have hB : ∀ j, j < B → j ≠ gp := fun j hj e => by have := (h.lies gp h.fp).1; omega
  simp only [headB, Bool.and_eq_true, Bool.or_eq_true, decide_eq_true_eq] at hk
  refine ⟨⟨hb, h.map.block (hf.block gm h.map.lt h.ne.symm), ⟨h.ok.len, by simp only []; omega, by simp only []; omega, by simp only []; omega, h.ok.small⟩, ⟨Fd, h1.same hf.size fun j hj hF _ => hf.block j hj fun e => hF.elim (fun h' => h4 (e ▸ h')) fun h' => hB j h' e, h2, h4, h5, h6.size hf.size⟩, h.fp, h.fm, h.ne, h.lies.size hf.size⟩, hf.mono fun j _ e => e ▸ h.fp⟩
theorem whV_head {s : St} {g r k : Int} (h : (whV s g r k).2 = 0) : headB g r k = true := by
  cases hh : headB g r k with
  | true => rfl
  | false =>
    unfold whV at h
    rw [if_pos hh] at h
    cases h
set_option maxHeartbeats 6400000 in
set_option maxRecDepth 100000 in
theorem commit_any {w : World} {B : Nat} {F : Nat → Prop} {gp gd gm : Nat} {s : St} {p : Pg} (h : Pgr w B F gp gd gm s p) (hB : B ≤ w.heap.size) (root : Int) (hlim : s.pcs.length + 10000000 ≤ 7000000000000) :
    Calls Try.prog 27 #[.pointer (some ⟨gp, 0, none⟩), .int .i64 root] w (PgPost B F gp gd gm (commitV s p root).1 (commitV s p root).2.1 (commitV s p root).2.2 w) := by
  have HM := Lib.hid (pmade_any h.made)
  have HX := Lib.hid (exists_any root h)
  have H := Lib.hid h
  have HBB := Lib.hid hB
  have HLIM := Lib.hid hlim
  obtain ⟨⟨c0, c1, c2, c3, c4, c5⟩, f0⟩ := box6 h.box
  have hgpl := (h.lies gp h.fp).2
  have hgen := h.ok.gen
  have hg1 := hgen.1
  have hg2 := hgen.2
  unfold PgPost
  by_cases hr : root ≠ 0 ∧ p.is root = false
  · have HR := Lib.hid (show commitV s p root = (s, p, 1) by unfold commitV; rw [if_pos hr])
    obtain ⟨hr0, hr1⟩ := hr
    rw [hr1] at HX
    clear h hB hlim hr1 hgen
    go_enter Try.func27, Try.ntmps27
    go_wp2_with fail
    refine HM.out.mono ?_
    rintro e w' ⟨rfl, rfl⟩
    go_wp2_with fail
    refine HX.out.mono ?_
    rintro e w' ⟨rfl, rfl⟩
    go_wp2_with fail
    go_ret
    rw [HR.out]
    exact ⟨rfl, H.out.plus HBB.out (Below.refl _ _)⟩
  · have HR := Lib.hid (show commitV s p root = if (s.sync 0).2 ≠ 0 then ((s.sync 0).1, p, (s.sync 0).2) else if (whV (s.sync 0).1 (p.gen + 1) root p.nb).2 ≠ 0 then ((whV (s.sync 0).1 (p.gen + 1) root p.nb).1, p, (whV (s.sync 0).1 (p.gen + 1) root p.nb).2) else ((whV (s.sync 0).1 (p.gen + 1) root p.nb).1, ⟨p.gen + 1, root, p.nb, p.st.map settleV⟩, 0) by unfold commitV; rw [if_neg hr])
    have HSP := Lib.hid (sync_pcs s 0)
    have HSY := Lib.hid (pgr_sync h hB 0 (by omega))
    obtain ⟨y, hy⟩ : ∃ y, y = s.sync 0 := ⟨_, rfl⟩
    rw [← hy] at HR HSP HSY
    have HRT : Hid (root = 0 ∨ p.is root = true) := by
      by_cases h0 : root = 0
      · exact .inl h0
      · exact .inr (by cases hi : p.is root with
          | true => rfl
          | false => exact absurd ⟨h0, hi⟩ hr)
    clear h hB hlim hr hgen hy
    by_cases hr0 : root = 0
    · subst hr0
      by_cases hy2 : y.2 = 0
      · have HR2 := Lib.hid (HR.out.trans (if_neg (by simp [hy2])))
        rw [hy2] at HSY
        clear hy2
        go_enter Try.func27, Try.ntmps27
        go_wp2_with fail
        refine HM.out.mono ?_
        rintro e w' ⟨rfl, rfl⟩
        go_wp2_with fail
        refine HSY.out.mono ?_
        rintro e w1 ⟨rfl, hp1, hf1⟩
        obtain ⟨⟨d0, d1, d2, d3, d4, d5⟩, g0⟩ := box6 hp1.box
        have hgp1 := (hp1.lies gp hp1.fp).2
        have HP1 := Lib.hid hp1
        have HF1 := Lib.hid hf1
        have HGPL := Lib.hid hgp1
        clear hp1 hf1 c0 c1 c2 c3 c4 c5 f0 hgpl
        go_wp2_with fail
        go_region
        obtain ⟨W2, hW2⟩ : ∃ W2, (w1.alloc (.cells #[.int .i64 (p.gen + 1), .int .i64 0, .int .i64 p.nb] 37)).drew = W2 := ⟨_, rfl⟩
        rw [hW2]
        have hb12 : Below w1.heap.size w1 W2 := by rw [← hW2]; exact (alloc_below _ _).drew
        have m0 : W2.cell? ⟨w1.heap.size, 0, none⟩ = some (.int .i64 (p.gen + 1)) := by rw [← hW2]; exact World.cell?_alloc_at _ _ _ _ rfl
        have m1 : W2.cell? ⟨w1.heap.size, 1, none⟩ = some (.int .i64 0) := by rw [← hW2]; exact World.cell?_alloc_at _ _ _ _ rfl
        have m2 : W2.cell? ⟨w1.heap.size, 2, none⟩ = some (.int .i64 p.nb) := by rw [← hW2]; exact World.cell?_alloc_at _ _ _ _ rfl
        have n0 : W2.cell? ⟨gp, 0, none⟩ = some (.pointer (some ⟨gd, 0, none⟩)) := (hb12.cell (p := ⟨gp, 0, none⟩) hgp1).trans d0
        have hs12 : w1.heap.size < W2.heap.size := by rw [← hW2]; simp
        have HB12 := Lib.hid hb12
        have HWH := Lib.hid (fun W (hW : Below w1.heap.size w1 W) => wh_any (HP1.out.below hW) (Nat.le_trans (Nat.le_trans HBB.out HF1.out.size) hW.size) (p.gen + 1) 0 p.nb (by have := HSP.out; have := HLIM.out; omega))
        have HNP := Lib.hid (show ¬ Plus F w w1 w1.heap.size from fun h' => h'.elim (fun h'' => by have := (H.out.lies _ h'').2; have := HF1.out.size; omega) fun h'' => by omega)
        obtain ⟨z, hz⟩ : ∃ z, z = whV y.1 (p.gen + 1) 0 p.nb := ⟨_, rfl⟩
        unfold PgPost at HWH
        rw [← hz] at HWH HR2
        have HZ := Lib.hid hz
        clear hW2 hb12 hz d0 d1 d2 d3 d4 d5 g0
        go_wp2_with fail
        go_region_with (go_at_call 77; refine (HWH.out _ (by first | exact HB12.out | exact HB12.out.drew)).mono ?_; rintro e w3 ⟨rfl, hp3, hf3⟩; have m30 : w3.cell? ⟨w1.heap.size, 0, none⟩ = some (.int .i64 (p.gen + 1)) := (fr_cellB hf3 _ _ hs12 HNP.out).trans m0; have m31 : w3.cell? ⟨w1.heap.size, 1, none⟩ = some (.int .i64 0) := (fr_cellB hf3 _ _ hs12 HNP.out).trans m1; have m32 : w3.cell? ⟨w1.heap.size, 2, none⟩ = some (.int .i64 p.nb) := (fr_cellB hf3 _ _ hs12 HNP.out).trans m2; have HP3 := Lib.hid hp3; have HF3 := Lib.hid hf3; clear hp3 hf3)
        all_goals
          have HE := Lib.hid (plus2 HP3.out HF3.out HF1.out HB12.out.drew H.out.lies HBB.out)
          clear HP3 HF3
          by_cases hz2 : z.2 = 0
          · have HR3 := Lib.hid (HR2.out.trans (if_neg (by simp [hz2])))
            have hhd : headB (p.gen + 1) 0 p.nb = true := whV_head (by rw [← HZ.out]; exact hz2)
            have HS := Lib.hid (HE.out.1.headed (p.gen + 1) 0 p.nb hhd)
            obtain ⟨⟨e0, e1, e2, e3, e4, e5⟩, q0⟩ := box6 HE.out.1.box
            rw [hz2]
            clear hz2 hhd e0 e4 e5
            go_wp2_with fail
            refine (settle_pg HS.out.1).mono ?_
            rintro e w5 ⟨rfl, hp5, hf5⟩
            have hs5 : w3.heap.size ≤ w5.heap.size := Nat.le_trans HS.out.2.size hf5.size
            have H5 := Lib.hid (show Pgr w5 B (Plus F w w5) gp gd gm z.1 ⟨p.gen + 1, 0, p.nb, p.st.map settleV⟩ ∧ Fr F w w5 from ⟨hp5.mono (fun k hk => hk.imp id fun h' => ⟨h'.1, Nat.lt_of_lt_of_le h'.2 hs5⟩) (H.out.lies.plus HBB.out (Nat.le_trans HE.out.2.size hs5)), (HE.out.2.trans' HS.out.2 fun j hj hk => hk.elim id fun h' => by omega).trans' hf5 fun j hj hk => hk.elim id fun h' => by omega⟩)
            clear hp5 hf5 hs5
            go_wp2_with fail
            go_ret
            rw [HR3.out]
            exact ⟨rfl, H5.out⟩
          · have HR3 := Lib.hid (HR2.out.trans (if_pos hz2))
            go_wp2_with fail
            go_ret
            rw [HR3.out]
            exact ⟨rfl, HE.out⟩
      · have HR2 := Lib.hid (HR.out.trans (if_pos hy2))
        go_enter Try.func27, Try.ntmps27
        go_wp2_with fail
        refine HM.out.mono ?_
        rintro e w' ⟨rfl, rfl⟩
        go_wp2_with fail
        refine HSY.out.mono ?_
        rintro e w1 ⟨rfl, hp1, hf1⟩
        have HP1 := Lib.hid hp1
        have HF1 := Lib.hid hf1
        clear hp1 hf1
        go_wp2_with fail
        go_ret
        rw [HR2.out]
        exact ⟨rfl, HP1.out, HF1.out⟩
    · have hri : p.is root = true := HRT.out.elim (fun h' => absurd h' hr0) id
      rw [hri] at HX
      clear hri
      by_cases hy2 : y.2 = 0
      · have HR2 := Lib.hid (HR.out.trans (if_neg (by simp [hy2])))
        rw [hy2] at HSY
        clear hy2
        go_enter Try.func27, Try.ntmps27
        go_wp2_with fail
        refine HM.out.mono ?_
        rintro e w' ⟨rfl, rfl⟩
        go_wp2_with fail
        refine HX.out.mono ?_
        rintro e w' ⟨rfl, rfl⟩
        go_wp2_with fail
        refine HSY.out.mono ?_
        rintro e w1 ⟨rfl, hp1, hf1⟩
        obtain ⟨⟨d0, d1, d2, d3, d4, d5⟩, g0⟩ := box6 hp1.box
        have hgp1 := (hp1.lies gp hp1.fp).2
        have HP1 := Lib.hid hp1
        have HF1 := Lib.hid hf1
        have HGPL := Lib.hid hgp1
        clear hp1 hf1 c0 c1 c2 c3 c4 c5 f0 hgpl
        go_wp2_with fail
        go_region
        obtain ⟨W2, hW2⟩ : ∃ W2, (w1.alloc (.cells #[.int .i64 (p.gen + 1), .int .i64 root, .int .i64 p.nb] 37)).drew = W2 := ⟨_, rfl⟩
        rw [hW2]
        have hb12 : Below w1.heap.size w1 W2 := by rw [← hW2]; exact (alloc_below _ _).drew
        have m0 : W2.cell? ⟨w1.heap.size, 0, none⟩ = some (.int .i64 (p.gen + 1)) := by rw [← hW2]; exact World.cell?_alloc_at _ _ _ _ rfl
        have m1 : W2.cell? ⟨w1.heap.size, 1, none⟩ = some (.int .i64 root) := by rw [← hW2]; exact World.cell?_alloc_at _ _ _ _ rfl
        have m2 : W2.cell? ⟨w1.heap.size, 2, none⟩ = some (.int .i64 p.nb) := by rw [← hW2]; exact World.cell?_alloc_at _ _ _ _ rfl
        have n0 : W2.cell? ⟨gp, 0, none⟩ = some (.pointer (some ⟨gd, 0, none⟩)) := (hb12.cell (p := ⟨gp, 0, none⟩) hgp1).trans d0
        have hs12 : w1.heap.size < W2.heap.size := by rw [← hW2]; simp
        have HB12 := Lib.hid hb12
        have HWH := Lib.hid (fun W (hW : Below w1.heap.size w1 W) => wh_any (HP1.out.below hW) (Nat.le_trans (Nat.le_trans HBB.out HF1.out.size) hW.size) (p.gen + 1) root p.nb (by have := HSP.out; have := HLIM.out; omega))
        have HNP := Lib.hid (show ¬ Plus F w w1 w1.heap.size from fun h' => h'.elim (fun h'' => by have := (H.out.lies _ h'').2; have := HF1.out.size; omega) fun h'' => by omega)
        obtain ⟨z, hz⟩ : ∃ z, z = whV y.1 (p.gen + 1) root p.nb := ⟨_, rfl⟩
        unfold PgPost at HWH
        rw [← hz] at HWH HR2
        have HZ := Lib.hid hz
        clear hW2 hb12 hz d0 d1 d2 d3 d4 d5 g0
        go_wp2_with fail
        go_region_with (go_at_call 77; refine (HWH.out _ (by first | exact HB12.out | exact HB12.out.drew)).mono ?_; rintro e w3 ⟨rfl, hp3, hf3⟩; have m30 : w3.cell? ⟨w1.heap.size, 0, none⟩ = some (.int .i64 (p.gen + 1)) := (fr_cellB hf3 _ _ hs12 HNP.out).trans m0; have m31 : w3.cell? ⟨w1.heap.size, 1, none⟩ = some (.int .i64 root) := (fr_cellB hf3 _ _ hs12 HNP.out).trans m1; have m32 : w3.cell? ⟨w1.heap.size, 2, none⟩ = some (.int .i64 p.nb) := (fr_cellB hf3 _ _ hs12 HNP.out).trans m2; have HP3 := Lib.hid hp3; have HF3 := Lib.hid hf3; clear hp3 hf3)
        all_goals
          have HE := Lib.hid (plus2 HP3.out HF3.out HF1.out HB12.out.drew H.out.lies HBB.out)
          clear HP3 HF3
          by_cases hz2 : z.2 = 0
          · have HR3 := Lib.hid (HR2.out.trans (if_neg (by simp [hz2])))
            have hhd : headB (p.gen + 1) root p.nb = true := whV_head (by rw [← HZ.out]; exact hz2)
            have HS := Lib.hid (HE.out.1.headed (p.gen + 1) root p.nb hhd)
            obtain ⟨⟨e0, e1, e2, e3, e4, e5⟩, q0⟩ := box6 HE.out.1.box
            rw [hz2]
            clear hz2 hhd e0 e4 e5
            go_wp2_with fail
            refine (settle_pg HS.out.1).mono ?_
            rintro e w5 ⟨rfl, hp5, hf5⟩
            have hs5 : w3.heap.size ≤ w5.heap.size := Nat.le_trans HS.out.2.size hf5.size
            have H5 := Lib.hid (show Pgr w5 B (Plus F w w5) gp gd gm z.1 ⟨p.gen + 1, root, p.nb, p.st.map settleV⟩ ∧ Fr F w w5 from ⟨hp5.mono (fun k hk => hk.imp id fun h' => ⟨h'.1, Nat.lt_of_lt_of_le h'.2 hs5⟩) (H.out.lies.plus HBB.out (Nat.le_trans HE.out.2.size hs5)), (HE.out.2.trans' HS.out.2 fun j hj hk => hk.elim id fun h' => by omega).trans' hf5 fun j hj hk => hk.elim id fun h' => by omega⟩)
            clear hp5 hf5 hs5
            go_wp2_with fail
            go_ret
            rw [HR3.out]
            exact ⟨rfl, H5.out⟩
          · have HR3 := Lib.hid (HR2.out.trans (if_pos hz2))
            go_wp2_with fail
            go_ret
            rw [HR3.out]
            exact ⟨rfl, HE.out⟩
      · have HR2 := Lib.hid (HR.out.trans (if_pos hy2))
        go_enter Try.func27, Try.ntmps27
        go_wp2_with fail
        refine HM.out.mono ?_
        rintro e w' ⟨rfl, rfl⟩
        go_wp2_with fail
        refine HX.out.mono ?_
        rintro e w' ⟨rfl, rfl⟩
        go_wp2_with fail
        refine HSY.out.mono ?_
        rintro e w1 ⟨rfl, hp1, hf1⟩
        have HP1 := Lib.hid hp1
        have HF1 := Lib.hid hf1
        clear hp1 hf1
        go_wp2_with fail
        go_ret
        rw [HR2.out]
        exact ⟨rfl, HP1.out, HF1.out⟩

end

section

open Go.ChangeShapes Go.WideShapes Go.ChangeAt Go.RowKit
set_option linter.unusedVariables false

/-- How often the byte 0 stands in a slice. -/
theorem bcount_any (A : Option Addr) (c : Nat) (l : List UInt8) (b2 d : Nat) (w : World) (hA : BRd w A l) (hN : A = none → c = 0) (hc2 : w.cell? ⟨b2, 0, none⟩ = some (.int .u8 0)) :
    Calls Try.prog 64 #[.slice A l.length c, .slice (some ⟨b2, 0, none⟩) 1 d] w fun e w' => e = .returned (.int .i64 (l.count 0 : Nat)) ∧ w = w' := by
  cases A with
  | none =>
    have hl0 : l = [] := by
      rcases Nat.eq_zero_or_pos l.length with h | h
      · exact List.length_eq_zero_iff.1 h
      · obtain ⟨g, off, e, _⟩ := hA h
        cases e
    subst hl0
    obtain rfl := hN rfl
    exact (Try.bytes_Count_one_nil b2 0 d 0 w hc2).mono fun e w' ⟨he, hw⟩ => ⟨he, hw.symm⟩
  | some a =>
    have h := Try.bytes_Count_one_at a l.length c b2 0 d (nums l) 0 w (nums_len l) (fun i hi => by
      obtain ⟨a', e, h⟩ := hA.cells (by omega)
      obtain rfl : a = a' := Option.some.inj e
      exact h i hi) hc2
    rw [nums_bytes] at h
    exact h.mono fun e w' ⟨he, hw⟩ => ⟨he, hw.symm⟩
theorem zero_count (l : List UInt8) : (l.count 0 = l.length) ↔ zeroB l = true := by
  unfold zeroB
  rw [List.count_eq_length, List.all_eq_true]
  constructor
  · intro h x hx
    simpa using (h x hx).symm
  · intro h x hx
    have := h x hx
    exact (by simpa using this : x = 0).symm
/-- What is left behind the first k ints, and the k-th int. -/
def restB (b : List UInt8) : Nat → List UInt8
  | 0 => b
  | k + 1 => (restB b k).drop (rdI (restB b k)).2.1
def valB (b : List UInt8) (k : Nat) : Int := (rdI (restB b k)).1
theorem rest_len (b : List UInt8) : ∀ k, (restB b k).length ≤ b.length
  | 0 => Nat.le_refl _
  | k + 1 => by
    have := rest_len b k
    simp only [restB, List.length_drop]
    omega
theorem RdS.set_other {w : World} {g q t : Nat} {l : List UInt8} (h : RdS w g q l) (hg : t ≠ g) (hq : t ≠ q) (i : Nat) (u : Value) : RdS (w.setCell ⟨t, i, none⟩ u) g q l := by
  obtain ⟨A, cap, h1, h2, h3, hn, h4⟩ := h
  exact ⟨A, cap, (Below.heap_setCell _ _ _ _ hg.symm).trans h1, h2.fr (Fr.set (F := fun k => k = t) w t i u rfl) (fun a e => by have := (h4 a e).1; rw [this]; exact hq.symm), h3, hn, fun a e => ⟨(h4 a e).1, (h4 a e).2.1, by simp [World.setCell]; exact (h4 a e).2.2⟩⟩
def arr3 (b : List UInt8) (k : Nat) : Array Value := #[.int .i64 (if 0 < k then valB b 0 else 0), .int .i64 (if 1 < k then valB b 1 else 0), .int .i64 (if 2 < k then valB b 2 else 0)]
theorem arr3_set (b : List UInt8) (k : Nat) (hk : k < 3) : (arr3 b k).set! k (.int .i64 (valB b k)) = arr3 b (k + 1) := by
  match k, hk with
  | 0, _ => rfl
  | 1, _ => rfl
  | 2, _ => rfl
theorem rgr_below {w w' : World} {g n : Nat} (h : RGr w w' g) (hg : n ≤ g) (hn : n ≤ w.heap.size) : Below n w w' := ⟨h.os, h.tape, h.output, h.size, fun k hk => h.block k (by omega) (by omega)⟩
set_option maxHeartbeats 6400000 in
set_option maxRecDepth 100000 in
theorem announced_any (A : Option Addr) (c n : Nat) (b : List UInt8) (w : World) (hA : BRd w A b) (hn : n = b.length) (hl : n ≤ 1000000) :
    Calls Try.prog 65 #[.slice A n c] w fun e w' => e = .returned (.agg #[.int .i64 (valB b 0), .int .i64 (valB b 1), .int .i64 (valB b 2)]) ∧ Below w.heap.size w w' := by
  subst hn
  have HA := Lib.hid hA
  have HL := Lib.hid hl
  clear hA hl
  go_enter Try.func65, Try.ntmps65
  go_wp2_with fail
  obtain ⟨W0, hW0, hb0, x2, x3, hs0⟩ : ∃ W0, ((w.alloc (.cells #[.int .i64 0, .int .i64 0, .int .i64 0] 37)).alloc (.cells #[.int .i64 0, .int .i64 0, .int .i64 0] 113)) = W0 ∧ Below w.heap.size w W0 ∧ W0.heap[w.heap.size]? = some (.cells #[.int .i64 0, .int .i64 0, .int .i64 0] 37 (0, 0)) ∧ W0.heap[w.heap.size + 1]? = some (.cells (arr3 b 0) 113 (0, 0)) ∧ W0.heap.size = w.heap.size + 2 := by
    refine ⟨_, rfl, bt (alloc_below _ _) (alloc_below _ _), ?_, ?_, by simp⟩
    · exact (Below.heap_alloc _ _ _ (by simp)).trans (World.alloc_heap_new w _)
    · have := World.alloc_heap_new (w.alloc (.cells #[.int .i64 0, .int .i64 0, .int .i64 0] 37)) (.cells #[.int .i64 0, .int .i64 0, .int .i64 0] 113)
      rw [World.size_alloc] at this
      exact this
  rw [hW0]
  refine (newReader_any A c b W0 (HA.out.below hb0) (by have := HL.out; omega)).mono ?_
  rintro e w1 ⟨g, q, rfl, hg1, hq1, -, hr1, hb1⟩
  have HR1 := Lib.hid hr1
  have HB1 := Lib.hid (bt hb0 hb1)
  have HX2 := Lib.hid ((hb1.block _ (by omega)).trans x2)
  have HX3 := Lib.hid ((hb1.block _ (by omega)).trans x3)
  have HG := Lib.hid (show w.heap.size + 2 ≤ g by omega)
  have HQ := Lib.hid (show w.heap.size + 2 ≤ q by omega)
  clear hW0 hb0 x2 x3 hs0 hg1 hq1 hr1 hb1
  go_wp2_with fail
  go_loopw [8] (fun i wr => ∃ k : Nat, k ≤ 3 ∧ i = .int .i64 k ∧ RdS wr g q (restB b k) ∧ wr.heap[w.heap.size]? = some (.cells #[.int .i64 0, .int .i64 0, .int .i64 0] 37 (0, 0)) ∧ wr.heap[w.heap.size + 1]? = some (.cells (arr3 b k) 113 (0, 0)) ∧ Below w.heap.size w wr) (fun i _ => 3 - (intOf i).toNat)
  case atStart => exact ⟨0, by omega, rfl, HR1.out, HX2.out, HX3.out, HB1.out⟩
  case round =>
    obtain ⟨k, hk, rfl, hr, h2, h3, hb⟩ := hrel
    by_cases hlt : k < 3
    · have hrl := rest_len b k
      have HI := Lib.hid (rInt_any wr g q (restB b k) hr (by have := HL.out; omega))
      have H2 := Lib.hid h2
      have H3 := Lib.hid h3
      have HB := Lib.hid hb
      have hltI : (k : Int) < 3 := by omega
      have hk0 : (0 : Int) ≤ (k : Int) := by omega
      clear hr h2 h3 hb hrl
      go_wp2_with fail
      refine HI.out.mono ?_
      rintro e w2 ⟨rfl, hr2, hg2⟩
      have hne : w.heap.size + 1 ≠ g := by have := HG.out; omega
      have y3 := (hg2.block _ (Array.getElem?_eq_some_iff.1 H3.out).1 hne).trans H3.out
      have y2 := (hg2.block _ (Array.getElem?_eq_some_iff.1 H2.out).1 (by have := HG.out; omega)).trans H2.out
      have z3 : w2.cell? ⟨w.heap.size + 1, k, none⟩ = some (.int .i64 0) := by
        rw [cell_of_row w2 _ _ _ _ (0, 0) y3]
        match k, hlt with
        | 0, _ => rfl
        | 1, _ => rfl
        | 2, _ => rfl
      have f3 : w2.frozen? ⟨w.heap.size + 1, k, none⟩ = false := by simp [World.frozen?, y3]
      have HY3 := Lib.hid (set6 y3 k (.int .i64 (valB b k)))
      have HSB := Lib.hid (show RdS (w2.setCell ⟨w.heap.size + 1, k, none⟩ (.int .i64 (valB b k))) g q (restB b (k + 1)) from hr2.set_other (by have := HG.out; omega) (by have := HQ.out; omega) _ _)
      have HY2 := Lib.hid ((Below.heap_setCell w2 ⟨w.heap.size + 1, k, none⟩ (.int .i64 (valB b k)) w.heap.size (by simp)).trans y2)
      have HBB := Lib.hid ((below_tr HB.out (rgr_below hg2 (by have := HG.out; omega) HB.out.size)).setCell (p := ⟨w.heap.size + 1, k, none⟩) (Nat.le_succ _) (.int .i64 (valB b k)))
      have HVB : Hid ((rdI (restB b k)).1 = valB b k) := rfl
      rw [HVB.out]
      have HA3 := Lib.hid (arr3_set b k hlt)
      clear hr2 hg2 y3 y2
      go_wp2_with fail
      go_roundw
      case rel => exact ⟨k + 1, by omega, by go_num, HSB.out, HY2.out, by rw [← HA3.out]; exact HY3.out, HBB.out⟩
      case measure => simp [intOf]; omega
    · obtain rfl : k = 3 := by omega
      have q0 : wr.cell? ⟨w.heap.size + 1, 0, none⟩ = some (.int .i64 (valB b 0)) := by rw [cell_of_row wr _ _ _ _ (0, 0) h3]; rfl
      have q1 : wr.cell? ⟨w.heap.size + 1, 1, none⟩ = some (.int .i64 (valB b 1)) := by rw [cell_of_row wr _ _ _ _ (0, 0) h3]; rfl
      have q2 : wr.cell? ⟨w.heap.size + 1, 2, none⟩ = some (.int .i64 (valB b 2)) := by rw [cell_of_row wr _ _ _ _ (0, 0) h3]; rfl
      have p0 : wr.cell? ⟨w.heap.size, 0, none⟩ = some (.int .i64 0) := by rw [cell_of_row wr _ _ _ _ (0, 0) h2]; rfl
      have p1 : wr.cell? ⟨w.heap.size, 1, none⟩ = some (.int .i64 0) := by rw [cell_of_row wr _ _ _ _ (0, 0) h2]; rfl
      have p2 : wr.cell? ⟨w.heap.size, 2, none⟩ = some (.int .i64 0) := by rw [cell_of_row wr _ _ _ _ (0, 0) h2]; rfl
      have pf : ∀ i, wr.frozen? ⟨w.heap.size, i, none⟩ = false := fun i => by simp [World.frozen?, h2]
      have HB := Lib.hid hb
      clear hr h2 h3 hb
      go_wp2_with fail
      refine bodyPost_ret (v := .agg #[.int .i64 (valB b 0), .int .i64 (valB b 1), .int .i64 (valB b 2)]) (by simp [results, Try.results65, go_sem, p0, p1, p2]) rfl ⟨rfl, ?_⟩
      exact ((HB.out.setCell (p := ⟨w.heap.size, 0, none⟩) (Nat.le_refl _) _).setCell (p := ⟨w.heap.size, 1, none⟩) (Nat.le_refl _) _).setCell (p := ⟨w.heap.size, 2, none⟩) (Nat.le_refl _) _
theorem box3' {w : World} {g : Nat} {a0 a1 a2 : Value} {T : TypeId} (h : w.heap[g]? = some (.cells #[a0, a1, a2] T (0, 0))) : (w.cell? ⟨g, 0, none⟩ = some a0 ∧ w.cell? ⟨g, 1, none⟩ = some a1 ∧ w.cell? ⟨g, 2, none⟩ = some a2) ∧ ∀ i, w.frozen? ⟨g, i, none⟩ = false := by
  refine ⟨⟨?_, ?_, ?_⟩, fun i => ?_⟩ <;> simp [World.cell?, World.frozen?, h]
theorem new2 (w : World) (o : Obj) (u : Value) (T : TypeId) : ((w.alloc o).alloc (.cells #[u] T)).cell? ⟨w.heap.size + 1, 0, none⟩ = some u := by
  have := World.alloc_heap_new (w.alloc o) (.cells #[u] T)
  rw [World.size_alloc] at this
  rw [cell_of_row _ _ _ _ _ (0, 0) this]
  rfl
/-- What bytes are as a header at a place. -/
def headV (b : List UInt8) (place : Int) : (Int × Int × Int) × Bool × Int := headingV b (valB b 0) (valB b 1) (valB b 2) place
def HeadPost (x : (Int × Int × Int) × Bool × Int) (w : World) (e : Ending) (w' : World) : Prop := e = .returned (.tuple #[.agg #[.int .i64 x.1.1, .int .i64 x.1.2.1, .int .i64 x.1.2.2], .bool x.2.1, .int .i64 x.2.2]) ∧ Below w.heap.size w w'
set_option maxHeartbeats 6400000 in
set_option maxRecDepth 100000 in
theorem heading_any (A : Option Addr) (c n : Nat) (b : List UInt8) (place : Int) (w : World) (hA : BRd w A b) (hn : n = b.length) (hl : n ≤ 1000000) (hN : A = none → c = 0) (hc : n ≤ c) :
    Calls Try.prog 22 #[.slice A n c, .int .i64 place] w (HeadPost (headV b place) w) := by
  unfold HeadPost
  by_cases h5 : b.length = 512
  · obtain rfl : n = 512 := by omega
    have HCO := Lib.hid (fun W (hW : Below w.heap.size w W) b2 d hc2 => bcount_any A c b b2 d W (hA.below hW) hN hc2)
    rw [h5] at HCO
    have hcz := zero_count b
    rw [h5] at hcz
    obtain ⟨C, hC⟩ : ∃ C, C = b.count 0 := ⟨_, rfl⟩
    rw [← hC] at HCO hcz
    by_cases hz : zeroB b = true
    · have HR := Lib.hid (show headV b place = ((0, 0, 0), false, 0) by unfold headV headingV; rw [if_neg (by omega), if_pos hz])
      obtain rfl : C = 512 := hcz.2 hz
      clear hC hcz hz hA hn hN
      go_enter Try.func22, Try.ntmps22
      go_wp2_with fail
      refine (HCO.out _ (bt (alloc_below _ _) (alloc_below _ _)) _ _ (new2 _ _ _ _)).mono ?_
      rintro e w' ⟨rfl, rfl⟩
      go_wp2_with fail
      refine bodyPost_ret (v := .tuple #[.agg #[.int .i64 0, .int .i64 0, .int .i64 0], .bool false, .int .i64 0]) (by simp [results, Try.results22, go_sem]) rfl ⟨by rw [HR.out], ?_⟩
      exact bt (alloc_below _ _) (alloc_below _ _)
    · have hCn : ¬ C = 512 := fun e => hz (hcz.1 e)
      have hCI : ¬ (C : Int) = 512 := by omega
      have HAN := Lib.hid (fun W (hW : Below w.heap.size w W) => announced_any A c 512 b W (hA.below hW) hn hl)
      have HR := Lib.hid (show headV b place = if headB (valB b 0) (valB b 1) (valB b 2) = true ∧ headerB (valB b 0) (valB b 1) (valB b 2) = b ∧ valB b 0 % 2 = place then ((valB b 0, valB b 1, valB b 2), true, 0) else ((0, 0, 0), false, 50) by unfold headV headingV; rw [if_neg (by omega), if_neg hz])
      have HA := Lib.hid hA
      have H5 := Lib.hid h5
      generalize valB b 0 = g at *
      generalize valB b 1 = r at *
      generalize valB b 2 = k at *
      clear hC hcz hz hA hn hN h5
      cases hv : headB g r k with
      | false =>
        have HR2 := Lib.hid (HR.out.trans (if_neg (by rw [hv]; simp)))
        have HH := Lib.hid (fun W => header_not g r k W hv)
        clear hv
        go_enter Try.func22, Try.ntmps22
        go_wp2_with fail
        refine (HCO.out _ (bt (alloc_below _ _) (alloc_below _ _)) _ _ (new2 _ _ _ _)).mono ?_
        rintro e w' ⟨rfl, rfl⟩
        go_wp2_with fail
        refine (HAN.out _ (bt (alloc_below _ _) (alloc_below _ _))).mono ?_
        rintro e w3 ⟨rfl, hb3⟩
        have bx3 : w3.heap[w.heap.size]? = some (.cells #[.int .i64 0, .int .i64 0, .int .i64 0] 37 (0, 0)) := (hb3.block _ (by simp; omega)).trans ((Below.heap_alloc _ _ _ (by simp)).trans (World.alloc_heap_new w _))
        have HB3 := Lib.hid (bt (bt (alloc_below w (.cells #[.int .i64 0, .int .i64 0, .int .i64 0] 37)) (alloc_below _ _)) hb3)
        have HBX3 := Lib.hid bx3
        have hq3 : w.heap.size < w3.heap.size := (Array.getElem?_eq_some_iff.1 bx3).1
        clear hb3 bx3
        go_wp2_with fail
        refine (HH.out _).mono ?_
        rintro e w4 ⟨rfl, hb4⟩
        have bx4 := (hb4.block w.heap.size (by simp; omega)).trans ((Below.heap_alloc w3 _ _ hq3).trans HBX3.out)
        have HB4 := Lib.hid (bt (bt HB3.out (alloc_below _ _)) hb4)
        obtain ⟨⟨u0, u1, u2⟩, uf⟩ := box3' bx4
        clear hb4 bx4
        go_wp2_with fail
        refine bodyPost_ret (v := .tuple #[.agg #[.int .i64 0, .int .i64 0, .int .i64 0], .bool false, .int .i64 50]) (by simp [results, Try.results22, go_sem, u0, u1, u2]) rfl ⟨by rw [HR2.out], ?_⟩
        exact (((HB4.out.setCell (p := ⟨w.heap.size, 0, none⟩) (Nat.le_refl _) _).setCell (p := ⟨w.heap.size, 1, none⟩) (Nat.le_refl _) _).setCell (p := ⟨w.heap.size, 2, none⟩) (Nat.le_refl _) _)
      | true =>
        have HHL := Lib.hid (headerB_len hv)
        have HH := Lib.hid (fun W => header_any g r k W hv)
        have hg0 : 0 ≤ g := by
          simp only [headB, Bool.and_eq_true, decide_eq_true_eq] at hv
          omega
        by_cases heq : headerB g r k = b
        · by_cases hpl : g % 2 = place
          · have HR2 := Lib.hid (HR.out.trans (if_pos ⟨hv, heq, hpl⟩))
            have HEQ := Lib.hid heq
            clear hv heq
            go_enter Try.func22, Try.ntmps22
            go_wp2_with fail
            refine (HCO.out _ (bt (alloc_below _ _) (alloc_below _ _)) _ _ (new2 _ _ _ _)).mono ?_
            rintro e w' ⟨rfl, rfl⟩
            go_wp2_with fail
            refine (HAN.out _ (bt (alloc_below _ _) (alloc_below _ _))).mono ?_
            rintro e w3 ⟨rfl, hb3⟩
            have bx3 : w3.heap[w.heap.size]? = some (.cells #[.int .i64 0, .int .i64 0, .int .i64 0] 37 (0, 0)) := (hb3.block _ (by simp; omega)).trans ((Below.heap_alloc _ _ _ (by simp)).trans (World.alloc_heap_new w _))
            have HB3 := Lib.hid (bt (bt (alloc_below w (.cells #[.int .i64 0, .int .i64 0, .int .i64 0] 37)) (alloc_below _ _)) hb3)
            have HBX3 := Lib.hid bx3
            have hq3 : w.heap.size < w3.heap.size := (Array.getElem?_eq_some_iff.1 bx3).1
            clear hb3 bx3
            go_wp2_with fail
            refine (HH.out _).mono ?_
            rintro e w4 ⟨a4, k4, rfl, ho4, hb4⟩
            have bx4 := (hb4.block w.heap.size (by simp; omega)).trans ((Below.heap_alloc w3 _ _ hq3).trans HBX3.out)
            have HB4 := Lib.hid (bt (bt HB3.out (alloc_below _ _)) hb4)
            obtain ⟨⟨u0, u1, u2⟩, uf⟩ := box3' bx4
            have hq4 : w3.heap.size < (w3.alloc (.cells #[.int .i64 g, .int .i64 r, .int .i64 k] 37)).heap.size := by simp
            have v0 : w4.cell? ⟨w3.heap.size, 0, none⟩ = some (.int .i64 g) := (hb4.cell (p := ⟨w3.heap.size, 0, none⟩) hq4).trans (World.cell?_alloc_at _ _ _ _ rfl)
            have v1 : w4.cell? ⟨w3.heap.size, 1, none⟩ = some (.int .i64 r) := (hb4.cell (p := ⟨w3.heap.size, 1, none⟩) hq4).trans (World.cell?_alloc_at _ _ _ _ rfl)
            have v2 : w4.cell? ⟨w3.heap.size, 2, none⟩ = some (.int .i64 k) := (hb4.cell (p := ⟨w3.heap.size, 2, none⟩) hq4).trans (World.cell?_alloc_at _ _ _ _ rfl)
            have HBR4 : Hid (BRd w4 a4 (headerB g r k)) := by
              have h' := ho4
              rw [← HHL.out] at h'
              exact OwnB.brd h'
            have HE := Lib.hid (equal_at (w := w4) (W := w4) (c1 := k4) (c2 := c) HBR4.out (HA.out.below HB4.out) HHL.out.symm H5.out.symm (Below.refl _ _))
            rw [HEQ.out, beq_self_eq_true] at HE
            have hq4' : w3.heap.size < w4.heap.size := Nat.lt_of_lt_of_le hq4 hb4.size
            clear hb4 ho4 hq4
            go_wp2_with fail
            refine HE.out.mono ?_
            rintro e w' ⟨rfl, rfl⟩
            go_wp2_with fail
            refine (placeOf_any g r k w4 hg0).mono ?_
            rintro e w5 ⟨rfl, hb5⟩
            have bx5 := (hb5.block w.heap.size (by omega)).trans bx4
            obtain ⟨⟨s0, s1, s2⟩, sf⟩ := box3' bx5
            have y0 := (hb5.cell (p := ⟨w3.heap.size, 0, none⟩) hq4').trans v0
            have y1 := (hb5.cell (p := ⟨w3.heap.size, 1, none⟩) hq4').trans v1
            have y2 := (hb5.cell (p := ⟨w3.heap.size, 2, none⟩) hq4').trans v2
            have HB5 := Lib.hid (bt HB4.out hb5)
            clear hb5 bx4 bx5 u0 u1 u2 uf v0 v1 v2
            go_wp2_with fail
            refine bodyPost_ret (v := .tuple #[.agg #[.int .i64 g, .int .i64 r, .int .i64 k], .bool true, .int .i64 0]) (by simp [results, Try.results22, go_sem, s0, s1, s2]) rfl ⟨by rw [HR2.out], ?_⟩
            exact (((HB5.out.setCell (p := ⟨w.heap.size, 0, none⟩) (Nat.le_refl _) _).setCell (p := ⟨w.heap.size, 1, none⟩) (Nat.le_refl _) _).setCell (p := ⟨w.heap.size, 2, none⟩) (Nat.le_refl _) _)
          · have HR2 := Lib.hid (HR.out.trans (if_neg fun h' => hpl h'.2.2))
            have HEQ := Lib.hid heq
            clear hv heq
            go_enter Try.func22, Try.ntmps22
            go_wp2_with fail
            refine (HCO.out _ (bt (alloc_below _ _) (alloc_below _ _)) _ _ (new2 _ _ _ _)).mono ?_
            rintro e w' ⟨rfl, rfl⟩
            go_wp2_with fail
            refine (HAN.out _ (bt (alloc_below _ _) (alloc_below _ _))).mono ?_
            rintro e w3 ⟨rfl, hb3⟩
            have bx3 : w3.heap[w.heap.size]? = some (.cells #[.int .i64 0, .int .i64 0, .int .i64 0] 37 (0, 0)) := (hb3.block _ (by simp; omega)).trans ((Below.heap_alloc _ _ _ (by simp)).trans (World.alloc_heap_new w _))
            have HB3 := Lib.hid (bt (bt (alloc_below w (.cells #[.int .i64 0, .int .i64 0, .int .i64 0] 37)) (alloc_below _ _)) hb3)
            have HBX3 := Lib.hid bx3
            have hq3 : w.heap.size < w3.heap.size := (Array.getElem?_eq_some_iff.1 bx3).1
            clear hb3 bx3
            go_wp2_with fail
            refine (HH.out _).mono ?_
            rintro e w4 ⟨a4, k4, rfl, ho4, hb4⟩
            have bx4 := (hb4.block w.heap.size (by simp; omega)).trans ((Below.heap_alloc w3 _ _ hq3).trans HBX3.out)
            have HB4 := Lib.hid (bt (bt HB3.out (alloc_below _ _)) hb4)
            obtain ⟨⟨u0, u1, u2⟩, uf⟩ := box3' bx4
            have hq4 : w3.heap.size < (w3.alloc (.cells #[.int .i64 g, .int .i64 r, .int .i64 k] 37)).heap.size := by simp
            have v0 : w4.cell? ⟨w3.heap.size, 0, none⟩ = some (.int .i64 g) := (hb4.cell (p := ⟨w3.heap.size, 0, none⟩) hq4).trans (World.cell?_alloc_at _ _ _ _ rfl)
            have v1 : w4.cell? ⟨w3.heap.size, 1, none⟩ = some (.int .i64 r) := (hb4.cell (p := ⟨w3.heap.size, 1, none⟩) hq4).trans (World.cell?_alloc_at _ _ _ _ rfl)
            have v2 : w4.cell? ⟨w3.heap.size, 2, none⟩ = some (.int .i64 k) := (hb4.cell (p := ⟨w3.heap.size, 2, none⟩) hq4).trans (World.cell?_alloc_at _ _ _ _ rfl)
            have HBR4 : Hid (BRd w4 a4 (headerB g r k)) := by
              have h' := ho4
              rw [← HHL.out] at h'
              exact OwnB.brd h'
            have HE := Lib.hid (equal_at (w := w4) (W := w4) (c1 := k4) (c2 := c) HBR4.out (HA.out.below HB4.out) HHL.out.symm H5.out.symm (Below.refl _ _))
            rw [HEQ.out, beq_self_eq_true] at HE
            have hq4' : w3.heap.size < w4.heap.size := Nat.lt_of_lt_of_le hq4 hb4.size
            clear hb4 ho4 hq4
            go_wp2_with fail
            refine HE.out.mono ?_
            rintro e w' ⟨rfl, rfl⟩
            go_wp2_with fail
            refine (placeOf_any g r k w4 hg0).mono ?_
            rintro e w5 ⟨rfl, hb5⟩
            have bx5 := (hb5.block w.heap.size (by omega)).trans bx4
            obtain ⟨⟨s0, s1, s2⟩, sf⟩ := box3' bx5
            have HB5 := Lib.hid (bt HB4.out hb5)
            clear hb5 bx4 bx5 u0 u1 u2 uf v0 v1 v2
            go_wp2_with fail
            refine bodyPost_ret (v := .tuple #[.agg #[.int .i64 0, .int .i64 0, .int .i64 0], .bool false, .int .i64 50]) (by simp [results, Try.results22, go_sem, s0, s1, s2]) rfl ⟨by rw [HR2.out], ?_⟩
            exact (((HB5.out.setCell (p := ⟨w.heap.size, 0, none⟩) (Nat.le_refl _) _).setCell (p := ⟨w.heap.size, 1, none⟩) (Nat.le_refl _) _).setCell (p := ⟨w.heap.size, 2, none⟩) (Nat.le_refl _) _)
        · have HR2 := Lib.hid (HR.out.trans (if_neg fun h' => heq h'.2.1))
          have HNE := Lib.hid (show (headerB g r k == b) = false by simpa using heq)
          clear hv heq
          go_enter Try.func22, Try.ntmps22
          go_wp2_with fail
          refine (HCO.out _ (bt (alloc_below _ _) (alloc_below _ _)) _ _ (new2 _ _ _ _)).mono ?_
          rintro e w' ⟨rfl, rfl⟩
          go_wp2_with fail
          refine (HAN.out _ (bt (alloc_below _ _) (alloc_below _ _))).mono ?_
          rintro e w3 ⟨rfl, hb3⟩
          have bx3 : w3.heap[w.heap.size]? = some (.cells #[.int .i64 0, .int .i64 0, .int .i64 0] 37 (0, 0)) := (hb3.block _ (by simp; omega)).trans ((Below.heap_alloc _ _ _ (by simp)).trans (World.alloc_heap_new w _))
          have HB3 := Lib.hid (bt (bt (alloc_below w (.cells #[.int .i64 0, .int .i64 0, .int .i64 0] 37)) (alloc_below _ _)) hb3)
          have HBX3 := Lib.hid bx3
          have hq3 : w.heap.size < w3.heap.size := (Array.getElem?_eq_some_iff.1 bx3).1
          clear hb3 bx3
          go_wp2_with fail
          refine (HH.out _).mono ?_
          rintro e w4 ⟨a4, k4, rfl, ho4, hb4⟩
          have bx4 := (hb4.block w.heap.size (by simp; omega)).trans ((Below.heap_alloc w3 _ _ hq3).trans HBX3.out)
          have HB4 := Lib.hid (bt (bt HB3.out (alloc_below _ _)) hb4)
          obtain ⟨⟨u0, u1, u2⟩, uf⟩ := box3' bx4
          have HBR4 : Hid (BRd w4 a4 (headerB g r k)) := by
            have h' := ho4
            rw [← HHL.out] at h'
            exact OwnB.brd h'
          have HE := Lib.hid (equal_at (w := w4) (W := w4) (c1 := k4) (c2 := c) HBR4.out (HA.out.below HB4.out) HHL.out.symm H5.out.symm (Below.refl _ _))
          rw [HNE.out] at HE
          clear hb4 ho4 bx4
          go_wp2_with fail
          refine HE.out.mono ?_
          rintro e w' ⟨rfl, rfl⟩
          go_wp2_with fail
          refine bodyPost_ret (v := .tuple #[.agg #[.int .i64 0, .int .i64 0, .int .i64 0], .bool false, .int .i64 50]) (by simp [results, Try.results22, go_sem, u0, u1, u2]) rfl ⟨by rw [HR2.out], ?_⟩
          exact (((HB4.out.setCell (p := ⟨w.heap.size, 0, none⟩) (Nat.le_refl _) _).setCell (p := ⟨w.heap.size, 1, none⟩) (Nat.le_refl _) _).setCell (p := ⟨w.heap.size, 2, none⟩) (Nat.le_refl _) _)
  · have HR := Lib.hid (show headV b place = ((0, 0, 0), false, 1) by unfold headV headingV; rw [if_pos (by omega)])
    have hnI : ¬ (n : Int) = 512 := by omega
    have hnN : ¬ n = 512 := by omega
    clear hA hn hN h5
    go_enter Try.func22, Try.ntmps22
    go_wp2_with fail
    refine bodyPost_ret (v := .tuple #[.agg #[.int .i64 0, .int .i64 0, .int .i64 0], .bool false, .int .i64 1]) (by simp [results, Try.results22, go_sem]) rfl ⟨by rw [HR.out], ?_⟩
    exact alloc_below _ _

end

section

open Go.ChangeShapes Go.WideShapes Go.ChangeAt Go.RowKit
set_option linter.unusedVariables false

def padB (l : List UInt8) : List UInt8 := l ++ List.replicate (512 - l.length) 0
/-- What the header at a place of a disk says. -/
def rhV (s : St) (place : Int) : (Int × Int × Int) × Bool × Int := if (s.read 0 (4096 * place) 512).2 ≠ 0 then ((0, 0, 0), false, (s.read 0 (4096 * place) 512).2) else headV (padB (s.read 0 (4096 * place) 512).1) place
theorem read_le (s : St) (f k n : Int) : (s.read f k n).1.length ≤ n.toNat := by
  unfold St.read
  split
  · simp
  · split
    · simp
    · simp only [List.length_take]
      omega
set_option maxHeartbeats 6400000 in
set_option maxRecDepth 100000 in
theorem rh_any {w : World} {B : Nat} {F : Nat → Prop} {g : Nat} {s : St} (h : Dsk w B F g s) (place : Nat) (hp : place ≤ 1) :
    Calls Try.prog 68 #[.pointer (some ⟨g, 0, none⟩), .int .i64 place] w (HeadPost (rhV s place) w) := by
  have HD := Lib.hid (fun W (hW : Below w.heap.size w W) => dsk_read (h.below hW) 0 (4096 * place) 512)
  have HRL := Lib.hid (read_le s 0 (4096 * place) 512)
  have hpI : (place : Int) ≤ 1 := by omega
  have hmk := run_make_row' (P := Try.prog) 23 5 (.int .u8 0) 1 Try.underlying23 byteInfo rfl .i64 .i64 512 (by omega) (by omega)
  rw [show ((512 : Nat) : Int) = 512 from rfl] at hmk
  unfold rhV HeadPost
  generalize s.read 0 (4096 * place) 512 = x at *
  unfold ReadPost at HD
  by_cases h0 : x.2 = 0
  · rw [if_neg (by simp [h0])]
    rw [h0] at HD
    clear h h0
    have HPL := Lib.hid (show (padB x.1).length = 512 by unfold padB; rw [List.length_append, List.length_replicate]; have := HRL.out; omega)
    obtain ⟨y, hy⟩ : ∃ y, y = headV (padB x.1) place := ⟨_, rfl⟩
    rw [← hy]
    have HY := Lib.hid hy
    clear hy
    by_cases hz : x.1.length = 0
    · have hpz : padB x.1 = List.replicate 512 0 := by unfold padB; rw [List.eq_nil_of_length_eq_zero hz]; rfl
      go_enter Try.func68, Try.ntmps68
      go_wp2_with fail
      refine (HD.out _ (alloc_below _ _)).mono ?_
      rintro e w1 ⟨v1, rfl, ho1, hb1⟩
      have bx := (hb1.block w.heap.size (by simp)).trans (World.alloc_heap_new w (.cells #[.int .i64 0, .int .i64 0, .int .i64 0] 37))
      have hq1 := (Array.getElem?_eq_some_iff.1 bx).1
      have bx2 := (Below.heap_alloc w1 (.cells (madeCells #[.int .u8 0] 512) 5) _ hq1).trans bx
      have HB := Lib.hid (bt (bt (alloc_below w (.cells #[.int .i64 0, .int .i64 0, .int .i64 0] 37)) hb1) (alloc_below w1 (.cells (madeCells #[.int .u8 0] 512) 5)))
      have hO2 : OwnB (w1.alloc (.cells (madeCells #[.int .u8 0] 512) 5)) 0 (.slice (some ⟨w1.heap.size, 0, none⟩) 512 512) (List.replicate 512 0) := (OwnB.made w1 512 (by omega)).low (Nat.zero_le _)
      obtain ⟨a1, k1, rfl, -, -⟩ := ho1.slice
      have HBR : Hid (BRd (w1.alloc (.cells (madeCells #[.int .u8 0] 512) 5)) (some ⟨w1.heap.size, 0, none⟩) (padB x.1)) := by
        rw [hpz]
        exact OwnB.brd (by rw [List.length_replicate]; exact hO2)
      have hcp := fun ty => copy_none (w1.alloc (.cells (madeCells #[.int .u8 0] 512) 5)) ty (.slice (some ⟨w1.heap.size, 0, none⟩) 512 512) a1 k1 w1.heap.size 512 512 0 rfl
      have HHE := Lib.hid (heading_any (some ⟨w1.heap.size, 0, none⟩) 512 512 (padB x.1) place _ HBR.out HPL.out.symm (by omega) (fun h => by cases h) (by omega))
      unfold HeadPost at HHE
      rw [← HY.out] at HHE
      have HBX2 := Lib.hid bx2
      rw [hz]
      clear ho1 hb1 bx bx2 hO2 hz hpz
      go_wp2_with fail
      refine HHE.out.mono ?_
      rintro e w3 ⟨rfl, hb3⟩
      have bx3 := (hb3.block _ (Array.getElem?_eq_some_iff.1 HBX2.out).1).trans HBX2.out
      obtain ⟨⟨u0, u1, u2⟩, uf⟩ := box3' bx3
      have HB3 := Lib.hid (bt HB.out hb3)
      clear hb3 bx3
      go_wp2_with fail
      refine bodyPost_ret (v := .tuple #[.agg #[.int .i64 y.1.1, .int .i64 y.1.2.1, .int .i64 y.1.2.2], .bool y.2.1, .int .i64 y.2.2]) (by simp [results, Try.results68, go_sem, u0, u1, u2]) rfl ⟨rfl, ?_⟩
      exact ((HB3.out.setCell (p := ⟨w.heap.size, 0, none⟩) (Nat.le_refl _) _).setCell (p := ⟨w.heap.size, 1, none⟩) (Nat.le_refl _) _).setCell (p := ⟨w.heap.size, 2, none⟩) (Nat.le_refl _) _
    · go_enter Try.func68, Try.ntmps68
      go_wp2_with fail
      refine (HD.out _ (alloc_below _ _)).mono ?_
      rintro e w1 ⟨v1, rfl, ho1, hb1⟩
      have bx := (hb1.block w.heap.size (by simp)).trans (World.alloc_heap_new w (.cells #[.int .i64 0, .int .i64 0, .int .i64 0] 37))
      have hq1 := (Array.getElem?_eq_some_iff.1 bx).1
      have bx2 := (Below.heap_alloc w1 (.cells (madeCells #[.int .u8 0] 512) 5) _ hq1).trans bx
      have HB := Lib.hid (bt (bt (alloc_below w (.cells #[.int .i64 0, .int .i64 0, .int .i64 0] 37)) hb1) (alloc_below w1 (.cells (madeCells #[.int .u8 0] 512) 5)))
      have hO2 : OwnB (w1.alloc (.cells (madeCells #[.int .u8 0] 512) 5)) 0 (.slice (some ⟨w1.heap.size, 0, none⟩) 512 512) (List.replicate 512 0) := (OwnB.made w1 512 (by omega)).low (Nat.zero_le _)
      obtain ⟨a1, k1, rfl, -, -⟩ := ho1.slice
      obtain ⟨w2, hcp, ho2, hf2⟩ := own_copyN hO2 (by simp) (by omega) (ho1.brd.alloc (.cells (madeCells #[.int .u8 0] 512) 5)) (Nat.pos_of_ne_zero hz) 0 (by have := HRL.out; omega)
      have hcp1 := fun sc => hcp 3 512 sc 512 rfl
      have e6 : (List.replicate 512 (0 : UInt8)).take 0 ++ x.1 ++ (List.replicate 512 (0 : UInt8)).drop (0 + x.1.length) = padB x.1 := by rw [List.take_zero, List.nil_append, Nat.zero_add, List.drop_replicate]; rfl
      rw [e6] at ho2
      have HBR : Hid (BRd w2 (some ⟨w1.heap.size, 0, none⟩) (padB x.1)) := OwnB.brd (by rw [HPL.out]; exact ho2)
      have HHE := Lib.hid (heading_any (some ⟨w1.heap.size, 0, none⟩) 512 512 (padB x.1) place _ HBR.out HPL.out.symm (by omega) (fun h => by cases h) (by omega))
      unfold HeadPost at HHE
      rw [← HY.out] at HHE
      have HBX2 := Lib.hid ((hf2.block w.heap.size (by simp; omega) (by omega)).trans bx2)
      have HB2 : Hid (Below w.heap.size w w2) := below_tr HB.out (hf2.below (fun k hk => by omega) (by simp; omega))
      clear HB
      have HB := Lib.hid HB2.out
      clear ho1 hb1 bx bx2 hO2 e6 ho2 hf2 hcp hz HB2
      generalize x.1.length = n1 at *
      go_wp2_with fail
      refine HHE.out.mono ?_
      rintro e w3 ⟨rfl, hb3⟩
      have bx3 := (hb3.block _ (Array.getElem?_eq_some_iff.1 HBX2.out).1).trans HBX2.out
      obtain ⟨⟨u0, u1, u2⟩, uf⟩ := box3' bx3
      have HB3 := Lib.hid (bt HB.out hb3)
      clear hb3 bx3
      go_wp2_with fail
      refine bodyPost_ret (v := .tuple #[.agg #[.int .i64 y.1.1, .int .i64 y.1.2.1, .int .i64 y.1.2.2], .bool y.2.1, .int .i64 y.2.2]) (by simp [results, Try.results68, go_sem, u0, u1, u2]) rfl ⟨rfl, ?_⟩
      exact ((HB3.out.setCell (p := ⟨w.heap.size, 0, none⟩) (Nat.le_refl _) _).setCell (p := ⟨w.heap.size, 1, none⟩) (Nat.le_refl _) _).setCell (p := ⟨w.heap.size, 2, none⟩) (Nat.le_refl _) _
  · rw [if_pos h0]
    clear h
    go_enter Try.func68, Try.ntmps68
    go_wp2_with fail
    refine (HD.out _ (alloc_below _ _)).mono ?_
    rintro e w1 ⟨v1, rfl, ho1, hb1⟩
    have bx := (hb1.block w.heap.size (by simp)).trans (World.alloc_heap_new w (.cells #[.int .i64 0, .int .i64 0, .int .i64 0] 37))
    obtain ⟨⟨u0, u1, u2⟩, uf⟩ := box3' bx
    have HB := Lib.hid (bt (alloc_below _ _) hb1)
    obtain ⟨a1, k1, rfl, -, -⟩ := ho1.slice
    clear ho1 hb1 bx
    go_wp2_with fail
    refine bodyPost_ret (v := .tuple #[.agg #[.int .i64 0, .int .i64 0, .int .i64 0], .bool false, .int .i64 x.2]) (by simp [results, Try.results68, go_sem, u0, u1, u2]) rfl ⟨rfl, ?_⟩
    exact ((HB.out.setCell (p := ⟨w.heap.size, 0, none⟩) (Nat.le_refl _) _).setCell (p := ⟨w.heap.size, 1, none⟩) (Nat.le_refl _) _).setCell (p := ⟨w.heap.size, 2, none⟩) (Nat.le_refl _) _

end

section

open Go.ChangeShapes Go.WideShapes Go.ChangeAt Go.RowKit
set_option linter.unusedVariables false

/-- The newest of the first k heads. -/
def hdK (s : St) : Nat → Int × Int × Int
  | 0 => (0, 0, 2)
  | k + 1 => if (rhV s k).2.1 = true ∧ (hdK s k).1 < (rhV s k).1.1 then (rhV s k).1 else hdK s k
def openE (s : St) : Int := if (rhV s 0).2.2 ≠ 0 then (rhV s 0).2.2 else (rhV s 1).2.2
def pgOf (h : Int × Int × Int) : Pg := ⟨h.1, h.2.1, h.2.2, List.replicate (h.2.2.toNat - 2) 1⟩
def HdOk (h : Int × Int × Int) : Prop := (0 ≤ h.1 ∧ h.1 ≤ 1099511627776) ∧ (0 ≤ h.2.1 ∧ h.2.1 ≤ 1024) ∧ (2 ≤ h.2.2 ∧ h.2.2 ≤ 1024)
theorem rhV_ok {s : St} {k : Int} (h : (rhV s k).2.1 = true) : HdOk (rhV s k).1 := by
  unfold rhV at h ⊢
  split at h
  · cases h
  · rename_i h0
    rw [if_neg h0]
    unfold headV headingV at h ⊢
    split at h
    · cases h
    · rename_i h1
      rw [if_neg h1]
      split at h
      · cases h
      · rename_i h2
        rw [if_neg h2]
        split at h
        · rename_i h3
          rw [if_pos h3]
          have hb := h3.1
          simp only [headB, Bool.and_eq_true, Bool.or_eq_true, decide_eq_true_eq] at hb
          unfold HdOk
          simp only []
          omega
        · cases h
theorem hdK_ok (s : St) : ∀ k, HdOk (hdK s k)
  | 0 => by unfold HdOk hdK; simp
  | k + 1 => by
    unfold hdK
    split
    · rename_i h
      exact rhV_ok h.1
    · exact hdK_ok s k
theorem pgOf_ok {h : Int × Int × Int} (hh : HdOk h) : (pgOf h).Ok := by
  obtain ⟨h1, h2, h3⟩ := hh
  refine ⟨by unfold pgOf; simp; omega, h1, h2, h3, fun x hx => ?_⟩
  unfold pgOf at hx
  have := List.eq_of_mem_replicate hx
  omega
def OpenPost (B : Nat) (F : Nat → Prop) (g : Nat) (s : St) (w : World) (e : Ending) (w' : World) : Prop :=
  (openE s ≠ 0 ∧ e = .returned (.tuple #[.pointer none, .int .i64 (openE s)]) ∧ Below w.heap.size w w') ∨
  (openE s = 0 ∧ ∃ gp gm, e = .returned (.tuple #[.pointer (some ⟨gp, 0, none⟩), .int .i64 0]) ∧ Pgr w' B (Plus F w w') gp g gm s (pgOf (hdK s 2)) ∧ Below w.heap.size w w')
theorem openE_at {s : St} {k : Nat} (hk : k < 2) (h : ∀ j : Nat, j < k → (rhV s j).2.2 = 0) (he : (rhV s k).2.2 ≠ 0) : openE s = (rhV s k).2.2 := by
  unfold openE
  match k, hk with
  | 0, _ => exact if_pos he
  | 1, _ => exact if_neg (by have := h 0 (by omega); simpa using this)
theorem openE_all {s : St} (h : ∀ j : Nat, j < 2 → (rhV s j).2.2 = 0) : openE s = 0 := by
  unfold openE
  rw [if_neg (by have := h 0 (by omega); simpa using this)]
  exact h 1 (by omega)
theorem rep_put (k : Nat) : putS (List.replicate k 1) k 1 = List.replicate (k + 1) 1 := by
  unfold putS
  rw [if_neg (by simp), List.replicate_succ']
set_option maxHeartbeats 6400000 in
set_option maxRecDepth 100000 in
theorem open_any {w : World} {B : Nat} {F : Nat → Prop} {g : Nat} {s : St} (h : Dsk w B F g s) (hl : Lies w B F) (hB : B ≤ w.heap.size) : Calls Try.prog 25 #[.pointer (some ⟨g, 0, none⟩)] w (OpenPost B F g s w) := by
  have H := Lib.hid h
  have HLI := Lib.hid hl
  have HBB := Lib.hid hB
  have hmm := @run_makeMap Try.prog
  have HM := Lib.hid hmm
  clear h hl hB hmm
  go_enter Try.func25, Try.ntmps25
  go_wp2_with fail
  go_loopw [12] (fun i wr => ∃ k : Nat, k ≤ 2 ∧ i = .int .i64 k ∧ (∀ j : Nat, j < k → (rhV s j).2.2 = 0) ∧ wr.heap[w.heap.size]? = some (.cells #[.int .i64 (hdK s k).1, .int .i64 (hdK s k).2.1, .int .i64 (hdK s k).2.2] 37 (0, 0)) ∧ Below w.heap.size w wr) (fun i _ => 2 - (intOf i).toNat)
  case atStart => exact ⟨0, by omega, rfl, fun j hj => by omega, World.alloc_heap_new w _, alloc_below _ _⟩
  case round =>
    obtain ⟨k, hk, rfl, hers, hbx, hb⟩ := hrel
    by_cases hlt : k < 2
    · have HRH := Lib.hid (rh_any (H.out.below hb) k (by omega))
      have HK1 : Hid (hdK s (k + 1) = if (rhV s k).2.1 = true ∧ (hdK s k).1 < (rhV s k).1.1 then (rhV s k).1 else hdK s k) := rfl
      have HERS := Lib.hid hers
      have HBX := Lib.hid hbx
      have HB := Lib.hid hb
      have HOE := Lib.hid (openE_at hlt hers)
      obtain ⟨⟨⟨xg, xr, xb⟩, ok, er⟩, hx⟩ : ∃ x, x = rhV s k := ⟨_, rfl⟩
      rw [← hx] at HRH HK1 HOE
      dsimp only at HRH HK1 HOE
      have HX := Lib.hid hx
      have hkI : (k : Int) < 2 := by omega
      unfold HeadPost at HRH
      dsimp only at HRH
      clear hers hbx hb hx
      go_wp2_with fail
      refine HRH.out.mono ?_
      rintro e w2 ⟨rfl, hb2⟩
      have hq := (Array.getElem?_eq_some_iff.1 HBX.out).1
      have bx2 := (hb2.block _ hq).trans HBX.out
      have hq2 := (Array.getElem?_eq_some_iff.1 bx2).1
      have HB2 := Lib.hid (below_tr HB.out (hb2.mono HB.out.size))
      have HBX2 := Lib.hid bx2
      clear hb2 bx2 hq
      by_cases he : er = 0
      · subst he
        have HERS2 : Hid (∀ j : Nat, j < k + 1 → (rhV s j).2.2 = 0) := fun j hj => by
          by_cases e : j = k
          · subst e; rw [← HX.out]
          · exact HERS.out j (by omega)
        obtain ⟨⟨u0, u1, u2⟩, uf⟩ := box3' HBX2.out
        have bx3 := Lib.hid ((Below.heap_alloc w2 (.cells #[.int .i64 xg, .int .i64 xr, .int .i64 xb] 37) _ hq2).trans HBX2.out)
        have HB3 := Lib.hid (below_tr HB2.out ((alloc_below w2 (.cells #[.int .i64 xg, .int .i64 xr, .int .i64 xb] 37)).mono HB2.out.size))
        cases ok with
        | false =>
          have HK2 := Lib.hid (show hdK s (k + 1) = hdK s k by rw [HK1.out, if_neg (by simp)])
          go_wp2_with fail
          go_roundw
          case rel => exact ⟨k + 1, by omega, by go_num, HERS2.out, by rw [HK2.out]; exact bx3.out, HB3.out⟩
          case measure => simp [intOf]; omega
        | true =>
          by_cases hgt : (hdK s k).1 < xg
          · have HK2 := Lib.hid (show hdK s (k + 1) = (xg, xr, xb) by rw [HK1.out, if_pos ⟨rfl, hgt⟩])
            go_wp2_with fail
            go_roundw
            case rel => exact ⟨k + 1, by omega, by go_num, HERS2.out, by rw [HK2.out]; exact (Below.heap_alloc _ _ _ (by simp [World.setCell]; exact hq2)).trans (set6 (set6 (set6 HBX2.out 0 (.int .i64 xg)) 1 (.int .i64 xr)) 2 (.int .i64 xb)), (((HB2.out.setCell (p := ⟨w.heap.size, 0, none⟩) (Nat.le_refl _) _).setCell (p := ⟨w.heap.size, 1, none⟩) (Nat.le_refl _) _).setCell (p := ⟨w.heap.size, 2, none⟩) (Nat.le_refl _) _).alloc (by simp [World.setCell]; exact HB2.out.size) _⟩
            case measure => simp [intOf]; omega
          · have HK2 := Lib.hid (show hdK s (k + 1) = hdK s k by rw [HK1.out, if_neg (by simpa using hgt)])
            go_wp2_with fail
            go_roundw
            case rel => exact ⟨k + 1, by omega, by go_num, HERS2.out, by rw [HK2.out]; exact bx3.out, HB3.out⟩
            case measure => simp [intOf]; omega
      · have HE := Lib.hid (HOE.out he)
        have HE0 := Lib.hid he
        go_wp2_with fail
        go_ret2
        exact .inl ⟨by rw [HE.out]; exact HE0.out, by rw [HE.out]; exact rfl, below_tr HB2.out ((alloc_below _ _).mono HB2.out.size)⟩
    · obtain rfl : k = 2 := by omega
      have HOE := Lib.hid (openE_all hers)
      have hho := hdK_ok s 2
      have HPG := Lib.hid (show pgOf (hdK s 2) = ⟨(hdK s 2).1, (hdK s 2).2.1, (hdK s 2).2.2, List.replicate ((hdK s 2).2.2.toNat - 2) 1⟩ from rfl)
      have HPOK := Lib.hid (pgOf_ok hho)
      obtain ⟨⟨u0, u1, u2⟩, uf⟩ := box3' hbx
      have hq := (Array.getElem?_eq_some_iff.1 hbx).1
      have HB := Lib.hid hb
      have hmm := HM.out
      obtain ⟨⟨hg, hr, hb'⟩, hh⟩ : ∃ x, x = hdK s 2 := ⟨_, rfl⟩
      rw [← hh] at u0 u1 u2 hho HPG HPOK
      dsimp only at u0 u1 u2 hho
      obtain ⟨K, hK⟩ : ∃ K : Nat, hb' = (K : Int) + 2 := ⟨(hb' - 2).toNat, by have := hho.2.2; unfold HdOk at hho; simp only [] at hho; omega⟩
      subst hK
      have HH := Lib.hid hh
      have hK22 : K ≤ 1022 := by have := hho.2.2; simp only [] at this; omega
      clear hers hbx hb hh hho
      go_wp2_with fail
      obtain ⟨gm, hgm⟩ : ∃ gm, gm = wr.heap.size := ⟨_, rfl⟩
      rw [← hgm]
      obtain ⟨W1, hW1⟩ : ∃ W1, ((wr.alloc (.map #[] 0)).alloc (.cells #[.pointer (some ⟨g, 0, none⟩), .int .i64 hg, .int .i64 hr, .int .i64 ((K : Int) + 2), .int .i64 ((K : Int) + 2), .map (some gm)] 119)) = W1 := ⟨_, rfl⟩
      rw [hW1]
      have bxp : W1.heap[gm + 1]? = some (.cells #[.pointer (some ⟨g, 0, none⟩), .int .i64 hg, .int .i64 hr, .int .i64 ((K : Int) + 2), .int .i64 ((K : Int) + 2), .map (some gm)] 119 (0, 0)) := by
        have := World.alloc_heap_new (wr.alloc (.map #[] 0)) (.cells #[.pointer (some ⟨g, 0, none⟩), .int .i64 hg, .int .i64 hr, .int .i64 ((K : Int) + 2), .int .i64 ((K : Int) + 2), .map (some gm)] 119)
        rw [World.size_alloc, hW1, ← hgm] at this
        exact this
      have hmp : MapIn W1 gm [] := by rw [← hW1, hgm]; exact (MapIn.made wr).below (alloc_below _ _)
      have hbw : Below w.heap.size w W1 := by rw [← hW1]; exact below_tr HB.out ((bt (alloc_below _ _) (alloc_below _ _)).mono HB.out.size)
      have hgml : w.heap.size ≤ gm := by rw [hgm]; exact HB.out.size
      have HGM := Lib.hid hgml
      have HBW := Lib.hid hbw
      have HMP := Lib.hid hmp
      have HBX := Lib.hid bxp
      have HD1 := Lib.hid (H.out.below hbw)
      clear hW1 hgm hbw hmp bxp hgml hmm uf hq u0 u1 u2 HB
      rename World => WA
      go_loopw [10] (fun i wr => ∃ k : Nat, k ≤ K ∧ i = .int .i64 ((k : Int) + 2) ∧ wr.heap[gm + 1]? = some (.cells #[.pointer (some ⟨g, 0, none⟩), .int .i64 hg, .int .i64 hr, .int .i64 ((K : Int) + 2), .int .i64 ((K : Int) + 2), .map (some gm)] 119 (0, 0)) ∧ MapIn wr gm (List.replicate k 1) ∧ Below w.heap.size w wr) (fun i _ => K + 2 - (intOf i).toNat)
      case atStart => exact ⟨0, by omega, rfl, HBX.out, HMP.out, HBW.out⟩
      case round =>
        obtain ⟨k, hk, rfl, hbx, hmp, hb⟩ := hrel
        obtain ⟨⟨c0, c1, c2, c3, c4, c5⟩, f0⟩ := box6 hbx
        by_cases hlt : k < K
        · obtain ⟨w1, hr1, hm1, hg1, hs1⟩ := hmp.put k 1 (by simp) (by simp; omega) (by omega) (by omega)
          have hr1' : (Instr.mapUpdate 117 (.map (some gm)) (.int .i64 ((k : Int) + 2)) (.int .i64 1)).run Try.prog wr = .ok () w1 := hr1
          rw [rep_put] at hm1
          have HM1 := Lib.hid hm1
          have HX1 := Lib.hid ((hg1.block (gm + 1) (Array.getElem?_eq_some_iff.1 hbx).1 (by simp)).trans hbx)
          have HB1 := Lib.hid (hb.grown hg1 hb.size (fun j e => by cases e; exact HGM.out))
          clear hbx hmp hb hr1 hm1 hg1 hs1
          go_wp2_with fail
          go_roundw
          case rel => exact ⟨k + 1, by omega, by go_num, HX1.out, HM1.out, HB1.out⟩
          case measure => simp [intOf]; omega
        · obtain rfl : k = K := by omega
          have HX1 := Lib.hid hbx
          have HM1 := Lib.hid hmp
          have HB1 := Lib.hid hb
          clear hbx hmp hb
          go_wp2_with fail
          go_ret2
          have hs1 := HB1.out.size
          have hgp1 := (Array.getElem?_eq_some_iff.1 HX1.out).1
          have hgm1 := HM1.out.lt
          have hno : ∀ j, w.heap.size ≤ j → ¬ F j := fun j hj hF => by have := (HLI.out j hF).2; omega
          refine .inr ⟨HOE.out, gm + 1, gm, rfl, ⟨?_, ?_, ?_, ⟨F, H.out.below HB1.out, fun j hj => .inl hj, hno _ (by have := HGM.out; omega), hno _ HGM.out, HLI.out.size hs1⟩, .inr ⟨by have := HGM.out; omega, hgp1⟩, .inr ⟨HGM.out, hgm1⟩, by omega, HLI.out.plus HBB.out hs1⟩, HB1.out⟩
          · rw [← HH.out, HPG.out, HX1.out]
            unfold Pg.nb
            have e : ((k : Int) + 2).toNat - 2 = k := by omega
            simp only [e, List.length_replicate]
            rfl
          · rw [← HH.out, HPG.out]
            have e : ((k : Int) + 2).toNat - 2 = k := by omega
            simp only [e]
            exact HM1.out
          · rw [← HH.out]
            exact HPOK.out

end
end Go.Proofs.Ytellmmgiabfacaa
