/-
  Of bits: slices of bytes, of truths and of ints of the call's own; what is kept.
-/
import Derived.Test.YtpdffcopigajgaaDLib
import Derived.Test.YtpdffcopigajgaaKMath
import Derived.Deep.OwnRows
import Derived.Laws.CopyOwn
import Derived.Deep.RegionHeld3
import Derived.Laws.BitsAllLaws
import Derived.Handy
import Derived.Lib.SlBuf
namespace Go.Proofs.Ytpdffcopigajgaa
open Go.ChangeShapes Go.WideShapes Go.ChangeAt Go.RowKit Go.Deep
set_option linter.unusedVariables false

/-- Of the blocks that were there only those of F may have been written. -/
structure Fr (F : Nat → Prop) (w w' : World) : Prop where
  os : w'.os = w.os
  tape : w'.tape = w.tape
  output : w'.output = w.output
  size : w.heap.size ≤ w'.heap.size
  block : ∀ k, k < w.heap.size → ¬ F k → w'.heap[k]? = w.heap[k]?
theorem Fr.refl (F : Nat → Prop) (w : World) : Fr F w w := ⟨rfl, rfl, rfl, Nat.le_refl _, fun _ _ _ => rfl⟩
theorem Fr.trans' {F F1 : Nat → Prop} {w w1 w2 : World} (h : Fr F w w1) (k : Fr F1 w1 w2) (hF : ∀ j, j < w.heap.size → F1 j → F j) : Fr F w w2 :=
  ⟨k.os.trans h.os, k.tape.trans h.tape, k.output.trans h.output, Nat.le_trans h.size k.size, fun j hj hn => (k.block j (Nat.lt_of_lt_of_le hj h.size) fun h' => hn (hF j hj h')).trans (h.block j hj hn)⟩
theorem Fr.trans {F : Nat → Prop} {w w1 w2 : World} (h : Fr F w w1) (k : Fr F w1 w2) : Fr F w w2 := h.trans' k fun _ _ h => h
theorem Fr.mono {F F1 : Nat → Prop} {w w' : World} (h : Fr F w w') (hF : ∀ k, k < w.heap.size → F k → F1 k) : Fr F1 w w' := ⟨h.os, h.tape, h.output, h.size, fun k hk hn => h.block k hk fun h' => hn (hF k hk h')⟩
theorem Fr.of_below {F : Nat → Prop} {w w' : World} (h : Below w.heap.size w w') : Fr F w w' := ⟨h.os, h.tape, h.output, h.size, fun k hk _ => h.block k hk⟩
theorem Fr.set {F : Nat → Prop} (w : World) (g i : Nat) (u : Value) (hg : F g) : Fr F w (w.setCell ⟨g, i, none⟩ u) := ⟨rfl, rfl, rfl, by simp [World.setCell], fun k hk hn => Below.heap_setCell _ _ _ _ fun e => hn (e ▸ hg)⟩
theorem Fr.alloc (F : Nat → Prop) (w : World) (o : Obj) : Fr F w (w.alloc o) := .of_below (alloc_below w o)
theorem Fr.drew (F : Nat → Prop) (w : World) : Fr F w w.drew := .of_below ((Below.refl _ w).drew)
theorem Fr.below {F : Nat → Prop} {w w' : World} {B : Nat} (h : Fr F w w') (hF : ∀ k, F k → B ≤ k) (hB : B ≤ w.heap.size) : Below B w w' := ⟨h.os, h.tape, h.output, h.size, fun k hk => h.block k (by omega) fun h' => by have := hF k h'; omega⟩
theorem below_drew {B : Nat} {w w' : World} (h : Below B w w') : Below B w w'.drew := h.drew
theorem below_drewN {B : Nat} {w w' : World} (h : Below B w w') : ∀ m, Below B w (w'.drewN m) := fun m => ⟨h.os, h.tape, h.output, h.size, h.block⟩
theorem below_mono {B B' : Nat} {w w' : World} (h : Below B w w') (hb : B' ≤ B) : Below B' w w' := h.mono hb
theorem ownsRow_same {w w' : World} {B : Nat} {e : TypeId} {s n : Nat} {v : Value} {xs : List Value} (h : w.ownsRow B e s v n xs) (hs : ∀ k, k < w.heap.size → v.ownBlock = some k → w'.heap[k]? = w.heap[k]?) : w'.ownsRow B e s v n xs := by
  refine ⟨h.1, ?_⟩
  rcases h.2 with h2 | ⟨g, cap, cur, hv, hb, hg, rest⟩
  · exact .inl h2
  · have hlt : g < w.heap.size := (Array.getElem?_eq_some_iff.1 hg).1
    exact .inr ⟨g, cap, cur, hv, hb, by rw [hs g hlt (by rw [hv]; rfl)]; exact hg, rest⟩
theorem ownsRow_low {w : World} {B B' : Nat} {e : TypeId} {s n : Nat} {v : Value} {xs : List Value} (h : w.ownsRow B e s v n xs) (hb : B' ≤ B) : w.ownsRow B' e s v n xs := by
  refine ⟨h.1, ?_⟩
  rcases h.2 with h2 | ⟨g, cap, cur, hv, hg, rest⟩
  · exact .inl h2
  · exact .inr ⟨g, cap, cur, hv, Nat.le_trans hb hg, rest⟩
theorem own_type {w : World} {B : Nat} {e : TypeId} {s n : Nat} {v : Value} {xs : List Value} (h : w.ownsRow B e s v n xs) : ∀ g, v.ownBlock = some g → ∃ c, w.heap[g]? = some (.cells c e (0, 0)) := by
  intro g hg
  rcases h.2 with ⟨rfl, _⟩ | ⟨g', cap, cur, hv, hb, hg', rest⟩
  · simp [Value.ownBlock] at hg
  · rw [hv] at hg
    simp [Value.ownBlock] at hg
    subst hg
    exact ⟨cur, hg'⟩
theorem own_slice {w : World} {B : Nat} {e : TypeId} {s n : Nat} {v : Value} {xs : List Value} (h : w.ownsRow B e s v n xs) : ∃ a cap, v = .slice a n cap ∧ n ≤ cap ∧ (a = none → cap = 0) := by
  rcases h.2 with ⟨rfl, h0⟩ | ⟨g, cap, cur, rfl, hb, hg, hn, rest⟩
  · exact ⟨none, 0, by rw [h0], by omega, fun _ => rfl⟩
  · exact ⟨_, cap, rfl, hn, fun h => by cases h⟩
/-- A box, and cells of another type. -/
theorem box_off {w : World} {B : Nat} {e T : TypeId} {s n b : Nat} {v : Value} {xs : List Value} {cs : Array Value} {fz : Nat × Nat} (ho : w.ownsRow B e s v n xs) (hb : w.heap[b]? = some (.cells cs T fz)) (hT : T ≠ e) : v.ownBlock ≠ some b := fun h => by
  obtain ⟨c, h1⟩ := own_type ho b h
  rw [h1] at hb
  exact hT (Obj.cells.inj (Option.some.inj hb)).2.1.symm
theorem box_new (w : World) (o : Obj) : (w.alloc o).heap[w.heap.size]? = some o := Array.getElem?_push_size
theorem box_lt {w : World} {b : Nat} {o : Obj} (h : w.heap[b]? = some o) : b < w.heap.size := (Array.getElem?_eq_some_iff.1 h).1
theorem box_next {w w' : World} {b : Nat} {o : Obj} (h : w.heap[b]? = some o) (hb : Below w.heap.size w w') : w'.heap[b]? = some o := (hb.block b (box_lt h)).trans h
theorem box_fr {w w' : World} {b : Nat} {o : Obj} {F : Nat → Prop} (h : w.heap[b]? = some o) (hf : Fr F w w') (hn : ¬ F b) : w'.heap[b]? = some o := (hf.block b (box_lt h) hn).trans h
theorem box_set2 {w : World} {b : Nat} {a0 a1 : Value} {T : TypeId} {f : Nat × Nat} (h : w.heap[b]? = some (.cells #[a0, a1] T f)) (u0 u1 : Value) : ((w.setCell ⟨b, 0, none⟩ u0).setCell ⟨b, 1, none⟩ u1).heap[b]? = some (.cells #[u0, u1] T f) := by
  simp only [World.setCell, Array.getElem?_modify, if_pos, h, Option.map_some]
  rfl
theorem box_set1 {w : World} {b : Nat} {a0 : Value} {T : TypeId} {f : Nat × Nat} (h : w.heap[b]? = some (.cells #[a0] T f)) (u0 : Value) : (w.setCell ⟨b, 0, none⟩ u0).heap[b]? = some (.cells #[u0] T f) := by
  simp only [World.setCell, Array.getElem?_modify, if_pos, h, Option.map_some]
  rfl
theorem box_cells2 {w : World} {b : Nat} {a0 a1 : Value} {t : TypeId} (hb : w.heap[b]? = some (.cells #[a0, a1] t (0, 0))) : (w.cell? ⟨b, 0, none⟩ = some a0 ∧ w.cell? ⟨b, 1, none⟩ = some a1) ∧ ∀ i, w.frozen? ⟨b, i, none⟩ = false := by
  simp [World.cell?, World.frozen?, hb]
theorem box_cell1 {w : World} {b : Nat} {a0 : Value} {t : TypeId} (hb : w.heap[b]? = some (.cells #[a0] t (0, 0))) : w.cell? ⟨b, 0, none⟩ = some a0 ∧ ∀ i, w.frozen? ⟨b, i, none⟩ = false := by
  simp [World.cell?, World.frozen?, hb]

/-! Bytes. -/
theorem OwnB.low {w : World} {B B' : Nat} {v : Value} {l : List UInt8} (h : OwnB w B v l) (hb : B' ≤ B) : OwnB w B' v l := ownsRow_low h hb
theorem OwnB.fr {w w' : World} {B : Nat} {v : Value} {l : List UInt8} {F : Nat → Prop} (h : OwnB w B v l) (hf : Fr F w w') (hn : ∀ k, v.ownBlock = some k → ¬ F k) : OwnB w' B v l := h.same fun k hk e => hf.block k hk (hn k e)
theorem OwnB.made (w : World) (n : Nat) (hn : n ≤ 140737488355328) : OwnB (w.alloc (.cells (madeCells #[.int .u8 0] n) 5)) w.heap.size (.slice (some ⟨w.heap.size, 0, none⟩) n n) (List.replicate n 0) := by
  unfold OwnB
  rw [List.length_replicate]
  refine ⟨by simp [Lib.byteCells], .inr ⟨w.heap.size, n, _, by simp, Nat.le_refl _, heap_alloc_new w _, by simp, by unfold maxLen; omega, ?_, ?_⟩⟩
  · unfold madeCells; simp
  · unfold madeCells
    apply List.ext_getElem?
    intro i
    simp [List.getElem?_take, List.getElem?_replicate, Lib.byteCells]
    split
    · next h => rw [List.getElem?_range h]; simp [Nat.mod_one]
    · rfl
theorem OwnB.put {w : World} {B n cap : Nat} {a : Option Addr} {l : List UInt8} (h : OwnB w B (.slice a n cap) l) (hn : n = l.length) (i : Nat) (hi : i < n) : ∃ g, a = some ⟨g, 0, none⟩ ∧ B ≤ g ∧ g < w.heap.size ∧ w.frozen? ⟨g, i, none⟩ = false ∧ w.cell? ⟨g, i, none⟩ = some (.int .u8 ((l.getD i 0).toNat : Int)) ∧ ∀ c : UInt8, OwnB (w.setCell ⟨g, i, none⟩ (.int .u8 (c.toNat : Int))) B (.slice a n cap) (l.set i c) ∧ Fr (fun k => k = g) w (w.setCell ⟨g, i, none⟩ (.int .u8 (c.toNat : Int))) := by
  subst hn
  obtain ⟨g, cap', hv, hb, hg⟩ := World.ownsRow.form h (by omega)
  obtain ⟨rfl, rfl⟩ : a = some ⟨g, 0, none⟩ ∧ cap = cap' := by simpa using hv
  have hc := World.ownsRow.cells h (g := g) rfl i (.int .u8 (l[i].toNat : Int)) (by rw [Lib.byteCells, List.getElem?_map, List.getElem?_eq_getElem hi]; rfl)
  rw [Go.WideShapes.add_plain, Nat.zero_add] at hc
  refine ⟨g, rfl, hb, hg, World.ownsRow.frozenAt h i, by rw [getD_lt hi]; exact hc, fun c => ⟨?_, Fr.set _ _ _ _ rfl⟩⟩
  have := (World.ownsRow.stored h i (.int .u8 (c.toNat : Int))).1
  unfold OwnB
  rw [List.length_set]
  have e : Lib.byteCells (l.set i c) = (Lib.byteCells l).set i (.int .u8 (c.toNat : Int)) := by
    unfold Lib.byteCells
    rw [List.map_set]
  rw [e]
  exact this
theorem conv_brd {w : World} {a : Option Addr} {n k : Nat} {l : List UInt8} (h : BRd w a l) (hn : n = l.length) : (convert 23 9 (.slice a n k)).run Try.prog w = .ok (.string ⟨l.toArray⟩) w := by
  subst hn
  by_cases h0 : 0 < l.length
  · obtain ⟨g, off, rfl, hg, hc⟩ := h h0
    refine run_convert_bytes_back w _ _ 5 ⟨g, off, none⟩ k l Try.underlying23 Try.underlying5 Try.underlying9 (fun j hj => ?_)
    rw [Go.WideShapes.add_plain]
    exact hc j hj
  · obtain rfl : l = [] := List.length_eq_zero_iff.1 (by omega)
    cases a with
    | none => exact Lib.run_convert_nil_bytes w _ _ 5 k Try.underlying23 Try.underlying5 Try.underlying9
    | some a => exact run_convert_bytes_back w _ _ 5 a k [] Try.underlying23 Try.underlying5 Try.underlying9 (fun j hj => by simp at hj)
theorem own_form {w : World} {v : Value} {l : List UInt8} (h : OwnB w 0 v l) (h0 : 0 < l.length) : ∃ g cap cur, v = .slice (some ⟨g, 0, none⟩) l.length cap ∧ w.heap[g]? = some (.cells cur 5 (0, 0)) ∧ l.length ≤ cap ∧ cap ≤ maxLen ∧ cur.size = cap ∧ cur.toList.take l.length = Lib.byteCells l := by
  rcases h.2 with ⟨_, h1⟩ | ⟨g, cap, cur, hv, hbg, hg, hnc, hcm, hcs, htake⟩
  · omega
  · exact ⟨g, cap, cur, hv, hg, hnc, hcm, by omega, by rwa [Nat.mul_one] at htake⟩
theorem take_splice {α : Type} (L B : List α) (pos n : Nat) (h : pos + B.length ≤ n) (hn : n ≤ L.length) : (L.take pos ++ (B ++ L.drop (pos + B.length))).take n = (L.take n).take pos ++ (B ++ (L.take n).drop (pos + B.length)) := by
  have h1 : (L.take pos).length = pos := by simp; omega
  rw [List.take_append, List.take_append, h1, List.take_take, List.take_take, List.take_of_length_le (l := B) (by omega), List.drop_take, Nat.min_comm, Nat.sub_sub]
theorem copy_none (w : World) (ty : TypeId) (d : Value) (A : Option Addr) (c : Nat) (g n cap o : Nat) (hd : d = .slice (some ⟨g, o, none⟩) n cap) : (Builtin.copy_ #[23, 23] ty #[d, .slice A 0 c]).run Try.prog w = .ok (goInt 0) w := by
  obtain ⟨i, hi, hz, hs, hbb⟩ := info_parts byteInfo
  have ht := Try.underlying23
  subst hd
  cases A <;> simp [Builtin.copy_, run_underlying ht, sizeOf, typeInfo, hi, Builtin.lenOf, Builtin.firstCells, loadCells, loadCellsFrom, storeCells]
theorem brd_take' {w : World} {A : Option Addr} {l : List UInt8} (h : BRd w A l) (n : Nat) : BRd w A (l.take n) := fun h0 => by
  have h1 : 0 < l.length := by simp at h0; omega
  obtain ⟨g, off, hA, hg, hc⟩ := h h1
  refine ⟨g, off, hA, hg, fun i hi => ?_⟩
  have hi' : i < l.length := by simp at hi; omega
  rw [hc i hi']
  simp
/-- Bytes are copied to the head of a slice of the call's own, as many as go in. -/
theorem own_copyT {w : World} {B g cap n : Nat} {m : List UInt8} (hown : OwnB w B (.slice (some ⟨g, 0, none⟩) n cap) m) (hn : n = m.length) (h0 : 0 < n) {A : Option Addr} {r : List UInt8} (hA : BRd w A r) :
    ∃ w1 k, (∀ ty dc sc, (Builtin.copy_ #[23, 23] ty #[.slice (some ⟨g, 0, none⟩) n dc, .slice A r.length sc]).run Try.prog w = .ok (goInt k) w1) ∧
      OwnB w1 B (.slice (some ⟨g, 0, none⟩) n cap) (r.take n ++ m.drop r.length) ∧ Fr (fun k => k = g) w w1 := by
  subst hn
  by_cases hr : r.length = 0
  · obtain rfl := List.eq_nil_of_length_eq_zero hr
    exact ⟨w, 0, fun ty dc sc => copy_none w ty _ A sc g m.length dc 0 rfl, by simpa using hown, Fr.refl _ _⟩
  · obtain ⟨b, hb⟩ : ∃ b, b = r.take m.length := ⟨_, rfl⟩
    have hbl0 : b.length = min m.length r.length := by rw [hb, List.length_take]
    have hb0 : 0 < b.length := by omega
    have hAb : BRd w A b := by rw [hb]; exact brd_take' hA _
    have hdrop : m.drop r.length = m.drop b.length := by
      by_cases h : r.length ≤ m.length
      · rw [hbl0, Nat.min_eq_right h]
      · rw [List.drop_eq_nil_of_le (by omega), List.drop_eq_nil_of_le (by omega)]
    rw [← hb, hdrop]
    obtain ⟨g', cap', cur, hv, hg, hc1, hc2, hc3, hc4⟩ := own_form (hown.low (Nat.zero_le _)) h0
    obtain ⟨rfl, rfl⟩ : g = g' ∧ cap = cap' := by simpa using hv
    obtain ⟨i0, hi, hz0, hz1, hz2⟩ := info_parts byteInfo
    obtain ⟨q, off, rfl, hq, hcells⟩ := hAb hb0
    have hBg := (World.ownsRow.lt hown g rfl).1
    have hcl : cur.toList.length = cur.size := Array.length_toList
    have hcs' : m.length ≤ cur.toList.length := by omega
    have hbl : (Lib.byteCells b).length = b.length := by simp [Lib.byteCells]
    have hml : (Lib.byteCells m).length = m.length := by simp [Lib.byteCells]
    refine ⟨w.setRow g (cur.toList.take 0 ++ (Lib.byteCells b ++ cur.toList.drop (0 + (Lib.byteCells b).length))).toArray, b.length, fun ty dc sc => ?_, ?_, ?_⟩
    · have := run_copy_row (P := Try.prog) w 23 23 ty 5 g 0 m.length dc ⟨q, off, none⟩ r.length sc cur 5 (Lib.byteCells b) Try.underlying23 (by rw [hi]; simp [hz1]) hg (by rw [hbl, hbl0]; exact Nat.min_comm _ _) (fun j u hj => by
        obtain ⟨hj', rfl⟩ := byteCells_get hj
        rw [Go.WideShapes.add_plain, hcells j hj']) (by rw [hbl]; omega) (fun u hu => by simp [Lib.byteCells] at hu; obtain ⟨c, _, rfl⟩ := hu; rfl)
      rw [this, hbl, List.append_assoc]
    · have hL : (b ++ m.drop b.length).length = m.length := by simp; omega
      unfold OwnB
      rw [hL]
      refine ⟨by simp [Lib.byteCells]; omega, .inr ⟨g, cap, _, rfl, hBg, setRow_heap w g cur _ 5 _ hg, hc1, hc2, ?_, ?_⟩⟩
      · simp only [List.size_toArray, List.length_append, List.length_take, List.length_drop, Array.length_toList, hbl]
        omega
      · have hB : Lib.byteCells (b ++ m.drop b.length) = (Lib.byteCells m).take 0 ++ (Lib.byteCells b ++ (Lib.byteCells m).drop (0 + b.length)) := by simp [Lib.byteCells]
        rw [hB, ← hc4, Nat.mul_one, ← hbl]
        exact take_splice cur.toList (Lib.byteCells b) 0 m.length (by rw [hbl]; omega) (by have := hcs'; omega)
    · exact ⟨rfl, rfl, rfl, by simp, fun j _ hj => setRow_other w g j _ (fun e => hj e)⟩
theorem step_copy {P : Program} {ops : Array Oper} {o : Oper} {a : Act} {w : World} {K : Act → World → Prop} {Q : Exit → Act → World → Prop} {E : Prop} (hg : o.guard = none) (d s : Operand) (t t' : TypeId)
    (ho : o.op = .call { callee := .builtin .copy, args := #[d, s], argTypes := #[t, t'] }) (v u : Value) (hd : a.eval d = v) (hs : a.eval s = u) {v' : Value} {w' : World}
    (hr : (Builtin.copy_ #[t, t'] o.type #[v, u]).run P w = .ok v' w') (h : K (a.put o.dst v') w') : if Region.wanted o (yielded ops a.tmps) = true then Oper.wp P o a w K Q else E := by
  have hw : Region.wanted o (yielded ops a.tmps) = true := by simp [Region.wanted, hg]
  rw [if_pos hw]
  exact Lib.wp_copy_run w d s t t' ho v u hd hs hr h

/-! Truths. -/
theorem boolInfo : (Try.prog.info? 4).map (fun i => (i.zero, i.size, i.bytes)) = some (some (.bool false), 1, 1) := by kernel_rfl
/-- A slice of truths, wherever it lies. -/
def KRd (w : World) (A : Option Addr) (l : List Bool) : Prop := 0 < l.length → ∃ g off, A = some ⟨g, off, none⟩ ∧ g < w.heap.size ∧ ∀ i (h : i < l.length), w.cell? ⟨g, off + i, none⟩ = some (.bool l[i])
theorem KRd.below {w w' : World} {A : Option Addr} {l : List Bool} (h : KRd w A l) (hb : Below w.heap.size w w') : KRd w' A l := fun h0 => by
  obtain ⟨g, off, hA, hg, hc⟩ := h h0
  refine ⟨g, off, hA, Nat.lt_of_lt_of_le hg hb.size, fun i hi => ?_⟩
  rw [(bcell hb).1 _ _ hg]
  exact hc i hi
/-- A slice of the call's own that holds these truths. -/
def OwnT (w : World) (B : Nat) (v : Value) (t : List Bool) : Prop := w.ownsRow B 4 1 v t.length (t.map Value.bool)
theorem OwnT.nil (w : World) (B : Nat) : OwnT w B (.slice none 0 0) [] := World.ownsRow_nil _ _ _ _
theorem OwnT.below {w w' : World} {B : Nat} {v : Value} {t : List Bool} (h : OwnT w B v t) (hb : Below w.heap.size w w') : OwnT w' B v t := ownsRow_same h fun k hk _ => hb.block k hk
theorem OwnT.alloc {w : World} {B : Nat} {v : Value} {t : List Bool} (h : OwnT w B v t) (o : Obj) : OwnT (w.alloc o) B v t := h.below (alloc_below w o)
theorem OwnT.low {w : World} {B B' : Nat} {v : Value} {t : List Bool} (h : OwnT w B v t) (hb : B' ≤ B) : OwnT w B' v t := ownsRow_low h hb
theorem OwnT.krd {w : World} {B cap n : Nat} {a : Option Addr} {l : List Bool} (h : OwnT w B (.slice a n cap) l) : KRd w a l := fun hn => by
  obtain ⟨a', cap', e, -⟩ := own_slice h
  obtain ⟨rfl, rfl, rfl⟩ : a = a' ∧ n = l.length ∧ cap = cap' := by simpa using e
  obtain ⟨g, cap', hv, hb, hg⟩ := World.ownsRow.form h hn
  obtain ⟨rfl, rfl⟩ : a = some ⟨g, 0, none⟩ ∧ cap = cap' := by simpa using hv
  refine ⟨g, 0, rfl, hg, fun j hj => ?_⟩
  have hc := World.ownsRow.cells h (g := g) rfl j _ (by rw [List.getElem?_map, List.getElem?_eq_getElem hj]; rfl)
  rw [show (⟨g, 0, none⟩ : Addr).add j = ⟨g, 0 + j, none⟩ from Go.WideShapes.add_plain g 0 j] at hc
  exact hc
theorem OwnT.made (w : World) (n : Nat) (hn : n ≤ 140737488355328) : OwnT (w.alloc (.cells (madeCells #[.bool false] n) 4)) w.heap.size (.slice (some ⟨w.heap.size, 0, none⟩) n n) (List.replicate n false) := by
  unfold OwnT
  rw [List.length_replicate]
  refine ⟨by simp, .inr ⟨w.heap.size, n, _, by simp, Nat.le_refl _, heap_alloc_new w _, by simp, by unfold maxLen; omega, ?_, ?_⟩⟩
  · unfold madeCells; simp
  · unfold madeCells
    apply List.ext_getElem?
    intro i
    simp [List.getElem?_take, List.getElem?_replicate]
    split
    · next h => rw [List.getElem?_range h]; simp [Nat.mod_one]
    · rfl
theorem OwnT.put {w : World} {B n cap : Nat} {a : Option Addr} {l : List Bool} (h : OwnT w B (.slice a n cap) l) (hn : n = l.length) (i : Nat) (hi : i < n) : ∃ g, a = some ⟨g, 0, none⟩ ∧ B ≤ g ∧ g < w.heap.size ∧ w.frozen? ⟨g, i, none⟩ = false ∧ w.cell? ⟨g, i, none⟩ = some (.bool (l.getD i false)) ∧ ∀ c : Bool, OwnT (w.setCell ⟨g, i, none⟩ (.bool c)) B (.slice a n cap) (l.set i c) ∧ Fr (fun k => k = g) w (w.setCell ⟨g, i, none⟩ (.bool c)) := by
  subst hn
  obtain ⟨g, cap', hv, hb, hg⟩ := World.ownsRow.form h (by omega)
  obtain ⟨rfl, rfl⟩ : a = some ⟨g, 0, none⟩ ∧ cap = cap' := by simpa using hv
  have hc := World.ownsRow.cells h (g := g) rfl i (.bool l[i]) (by rw [List.getElem?_map, List.getElem?_eq_getElem hi]; rfl)
  rw [Go.WideShapes.add_plain, Nat.zero_add] at hc
  refine ⟨g, rfl, hb, hg, World.ownsRow.frozenAt h i, by rw [getD_lt hi]; exact hc, fun c => ⟨?_, Fr.set _ _ _ _ rfl⟩⟩
  have := (World.ownsRow.stored h i (.bool c)).1
  unfold OwnT
  rw [List.length_set, List.map_set]
  exact this
/-- One truth is appended to a slice of the call's own. -/
theorem wpList_bool {w0 : World} {T : TypeId} {z : Bool} {ops : Array Oper} {rest : List Oper} {o : Oper} {a : Act} {Q : Exit → Act → World → Prop} (hgd : o.guard = none) (s x : Operand)
    (ho : o.op = .call { callee := .builtin .append, args := #[s, x], argTypes := #[22, 22] }) (B : Nat) (v : Value) (zs : List Bool) (hs : a.eval s = v) (hx : a.eval x = .slice (some ⟨w0.heap.size, 0, none⟩) 1 1)
    (hown : OwnT w0 B v zs) (hB : B ≤ w0.heap.size) (hlim : zs.length + 1 ≤ 140737488355328)
    (h : ∀ v' w', OwnT w' B v' (zs ++ [z]) → Grw w0 w' v v' → wpList Try.prog ops Q rest (a.put o.dst v') w') : wpList Try.prog ops Q (o :: rest) a (w0.alloc (.cells #[.bool z] T)) := by
  obtain ⟨i0, hi, hz0, hz1, hz2⟩ := info_parts boolInfo
  refine wpList_append_lies _ hgd s x 22 ho B 4 i0 (.bool false) 1 1 Try.underlying22 hi hz0 hz1 hz2 rfl (by decide) v _ _ hs (hown.alloc _) ⟨w0.heap.size, 0, none⟩ 1 1 [.bool z] hx rfl (fun j u hj => by match j, hj with | 0, hj => (simp at hj; subst hj; simp [Addr.add])) (fun u hu => by simp at hu; subst hu; rfl) (by decide) (by unfold maxLen; omega) (by omega) (by simp; omega) _ rfl ?_
  intro g cap w1 hown1 hgrow hat hlt
  have hg : w0.grownBy w1 v.ownBlock := ⟨hgrow.os, hgrow.tape, hgrow.output, Nat.le_trans (by simp) hgrow.size, fun k hk hr => (hgrow.block k (by simp; omega) hr).trans (Below.heap_alloc _ _ _ hk)⟩
  refine h _ w1 ?_ ⟨hg, ?_⟩
  · unfold OwnT
    rw [List.length_append, List.map_append]
    exact hown1
  · rcases hat with e | e
    · exact .inl e.symm
    · exact .inr fun k hk => by simp [Value.ownBlock] at hk; simp at e; omega

/-! Ints. -/
theorem intInfo : (Try.prog.info? 3).map (fun i => (i.zero, i.size, i.bytes)) = some (some (.int .i64 0), 1, 8) := by kernel_rfl
/-- A slice of ints, wherever it lies. -/
def IRd (w : World) (A : Option Addr) (zs : List Int) : Prop := 0 < zs.length → ∃ g off, A = some ⟨g, off, none⟩ ∧ g < w.heap.size ∧ ∀ i (h : i < zs.length), w.cell? ⟨g, off + i, none⟩ = some (.int .i64 zs[i])
theorem IRd.below {w w' : World} {A : Option Addr} {zs : List Int} (h : IRd w A zs) (hb : Below w.heap.size w w') : IRd w' A zs := fun hn => by
  obtain ⟨g, off, hA, hg, hc⟩ := h hn
  refine ⟨g, off, hA, Nat.lt_of_lt_of_le hg hb.size, fun i hi => ?_⟩
  rw [(bcell hb).1 _ _ hg]
  exact hc i hi
/-- A slice of the call's own that holds these ints. -/
def OwnI (w : World) (B : Nat) (v : Value) (zs : List Int) : Prop := w.ownsRow B 3 1 v zs.length (zs.map (Value.int .i64))
theorem OwnI.nil (w : World) (B : Nat) : OwnI w B (.slice none 0 0) [] := World.ownsRow_nil _ _ _ _
theorem OwnI.ird {w : World} {B cap n : Nat} {a : Option Addr} {l : List Int} (h : OwnI w B (.slice a n cap) l) : IRd w a l := fun hn => by
  obtain ⟨a', cap', e, -⟩ := own_slice h
  obtain ⟨rfl, rfl, rfl⟩ : a = a' ∧ n = l.length ∧ cap = cap' := by simpa using e
  obtain ⟨g, cap', hv, hb, hg⟩ := World.ownsRow.form h hn
  obtain ⟨rfl, rfl⟩ : a = some ⟨g, 0, none⟩ ∧ cap = cap' := by simpa using hv
  refine ⟨g, 0, rfl, hg, fun j hj => ?_⟩
  have hc := World.ownsRow.cells h (g := g) rfl j _ (by rw [List.getElem?_map, List.getElem?_eq_getElem hj]; rfl)
  rw [show (⟨g, 0, none⟩ : Addr).add j = ⟨g, 0 + j, none⟩ from Go.WideShapes.add_plain g 0 j] at hc
  exact hc
theorem OwnI.below {w w' : World} {B : Nat} {v : Value} {l : List Int} (h : OwnI w B v l) (hb : Below w.heap.size w w') : OwnI w' B v l := ownsRow_same h fun k hk _ => hb.block k hk
theorem OwnI.alloc {w : World} {B : Nat} {v : Value} {t : List Int} (h : OwnI w B v t) (o : Obj) : OwnI (w.alloc o) B v t := h.below (alloc_below w o)
/-- One int is appended to a slice of the call's own. -/
theorem wpList_int {w0 : World} {T : TypeId} {z : Int} {ops : Array Oper} {rest : List Oper} {o : Oper} {a : Act} {Q : Exit → Act → World → Prop} (hgd : o.guard = none) (s x : Operand)
    (ho : o.op = .call { callee := .builtin .append, args := #[s, x], argTypes := #[50, 50] }) (B : Nat) (v : Value) (zs : List Int) (hs : a.eval s = v) (hx : a.eval x = .slice (some ⟨w0.heap.size, 0, none⟩) 1 1)
    (hown : OwnI w0 B v zs) (hB : B ≤ w0.heap.size) (hlim : zs.length ≤ 1000000)
    (h : ∀ v' w', OwnI w' B v' (zs ++ [z]) → Grw w0 w' v v' → wpList Try.prog ops Q rest (a.put o.dst v') w') : wpList Try.prog ops Q (o :: rest) a (w0.alloc (.cells #[.int .i64 z] T)) := by
  obtain ⟨i0, hi, hz0, hz1, hz2⟩ := info_parts intInfo
  refine wpList_append_lies _ hgd s x 50 ho B 3 i0 (.int .i64 0) 1 8 Try.underlying50 hi hz0 hz1 hz2 rfl (by decide) v _ _ hs (hown.alloc _) ⟨w0.heap.size, 0, none⟩ 1 1 [.int .i64 z] hx rfl (fun j u hj => by match j, hj with | 0, hj => (simp at hj; subst hj; simp [Addr.add])) (fun u hu => by simp at hu; subst hu; rfl) (by decide) (by unfold maxLen; omega) (by omega) (by simp; omega) _ rfl ?_
  intro g cap w1 hown1 hgrow hat hlt
  have hg : w0.grownBy w1 v.ownBlock := ⟨hgrow.os, hgrow.tape, hgrow.output, Nat.le_trans (by simp) hgrow.size, fun k hk hr => (hgrow.block k (by simp; omega) hr).trans (Below.heap_alloc _ _ _ hk)⟩
  refine h _ w1 ?_ ⟨hg, ?_⟩
  · unfold OwnI
    rw [List.length_append, List.map_append]
    exact hown1
  · rcases hat with e | e
    · exact .inl e.symm
    · exact .inr fun k hk => by simp [Value.ownBlock] at hk; simp at e; omega
end Go.Proofs.Ytpdffcopigajgaa
