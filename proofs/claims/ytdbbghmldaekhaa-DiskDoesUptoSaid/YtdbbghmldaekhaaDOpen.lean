/-
  Of disk: what the statements are handed, out of memory: bytes, truths, operations of a script; the row's last step.
-/
import Derived.Test.YtdbbghmldaekhaaDBegun
import Derived.SizedLaws
import Derived.ChangeSame
import Derived.ChangeSlices
import Derived.Carry
import Derived.WideKeyArgs
import Derived.Deep.Slices
import Derived.Deep.Grids
import Derived.JoinedOf
import Derived.JoinedCond
import Derived.Deep.CondSized
namespace Go.Proofs.Ytdbbghmldaekhaa
open Go.ChangeShapes Go.WideShapes Go.ChangeAt Go.RowKit Go.Deep
set_option linter.unusedVariables false

theorem own : ownKnob Try.prog.godebug = none := by kernel_rfl
theorem laidOut : laidOutB Try.prog = true := by kernel_rfl
def In64 (a : Int) : Prop := -9223372036854775808 ≤ a ∧ a ≤ 9223372036854775807
theorem in64_of {a : Int} (h : (Lit.int .i64 a).wf = true) : In64 a := by
  have := Go.bounds_i64 h
  unfold In64; omega
theorem u8_of {a : Int} (h : (Lit.int .u8 a).wf = true) : 0 ≤ a ∧ a < 256 := by
  have hx : 0 ≤ a ∧ a ≤ 255 := by simpa [Lit.wf, IntKind.min, IntKind.max, IntKind.signed, IntKind.bits] using h
  omega

section
variable {H : Type} {enc : TypeId × Value → H} {P : Program}
theorem post_of_below {f : Func} {s : ChangeSpec} {apart fresh handsOn again : Bool} {W W' : World} {args : Array Value} {v : Value} {ds gs : List (DataW H)} {before pa pv : List MemPlace}
    (hW : DataW.Whole enc P f.params.toList s.vars apart W args.toList ds gs before)
    (hres : ∀ (b : Nat) (sp : Nat → Bool) (hd : Bool), DataW.TrodAll enc P W' b sp hd f.resultTypes.toList (v.resultList f.resultTypes.size) (s.fn H (ds ++ gs)).results [])
    (hargs : ∀ sp : Nat → Bool, (∀ p ∈ before, sp p.block = true) → DataW.TrodAll enc P W' 0 sp true f.params.toList args.toList (s.fn H (ds ++ gs)).args pa)
    (hvars : ∀ sp : Nat → Bool, (∀ p ∈ before, sp p.block = true) → DataW.TrodVars enc P W' sp s.vars (s.fn H (ds ++ gs)).vars pv)
    (hps : before = pa ++ pv) (hb : Below W.heap.size W W')
    (hok : ∀ (j : Nat) (t : TypeId) (r : Value), f.resultTypes[j]? = some t → (v.resultList f.resultTypes.size)[j]? = some r → Value.okWide P W' .any 0 t r) :
    s.post enc P f apart fresh handsOn again W args v W' := by
  have hlt : ∀ p ∈ before, p.block < W.heap.size := fun p hp => hW.lt p hp
  have hold : ∀ p ∈ before, (fun b => decide (b < W.heap.size)) p.block = true := fun p hp => by simpa using hlt p hp
  refine ⟨ds, gs, before, [], pa, pv, hW, hres _ _ _, hargs _ hold, hvars _ hold, World.keptBut_mono (fun p hp => ⟨hp, ?_⟩) (hb.frame (· ∈ before)), fun _ => ?_⟩
  · rw [hps, List.mem_append] at hp
    exact Or.inr hp
  · obtain ⟨_, _, _, _, _, hz, hn⟩ := hW
    refine ⟨hok, _, _, ([] ++ pa) ++ pv, ⟨[] ++ pa, pv, trodAll_append (hargs _ (fun _ _ => rfl)) (hres _ _ _), hvars _ (fun _ _ => rfl), rfl, ?_, ?_⟩, ?_⟩
    · intro b off hp
      have hin : MemPlace.cell b off ∈ before := by rw [hps]; simpa using hp
      rw [hb.frozen (hlt _ hin)]
      exact hz b off hin
    · intro ha
      have := hn ha
      rw [hps] at this
      simpa using this
    · intro p hp _
      rw [hps]
      simpa using hp
end

theorem cell_spot {w : World} {a : Addr} {v : Value} (h : w.cell? a = some v) : a = ⟨a.block, a.off, none⟩ ∧ a.block < w.heap.size := by
  unfold World.cell? at h
  split at h
  · rename_i hb
    split at h
    · cases h
    · rename_i hs
      refine ⟨?_, (Array.getElem?_eq_some_iff.1 hb).1⟩
      obtain ⟨b, o, s⟩ := a
      cases s <;> simp_all
  · cases h
section
variable {H : Type} {enc : TypeId × Value → H} {W : World} {base : Nat} {sp : Nat → Bool} {held : Bool}
set_option maxRecDepth 100000 in
theorem bytes_cell {fuel : Nat} {v : Value} {x : DataW H × List MemPlace} (hf : DataW.trod enc Try.prog W 0 (fun _ => true) true fuel 29 [v] = some x) :
    ∃ (A : Option Addr) (cap : Nat) (l : List UInt8), v = .slice A l.length cap ∧ BRd W A l ∧ l.length ≤ cap ∧ (A = none → cap = 0) ∧ (l.length = 0 ∨ ∃ el sp, x.1 = .slice el sp ∧ el.length = l.length) := by
  rcases open_ints Try.underlying29 Try.underlying5 (by kernel_rfl) hf with ⟨hcs, hx⟩ | ⟨a, len, cap, zs, hcs, hlc, hl, hc, hm, hx, hi, hw⟩
  · simp at hcs
    subst hcs
    exact ⟨none, 0, [], rfl, BRd.nil _ _, by simp, fun _ => rfl, .inl rfl⟩
  · simp at hcs
    subst hcs
    simp only [if_true] at hm
    have hlen : ((zs.take len).map fun z => UInt8.ofNat z.toNat).length = len := by rw [List.length_map, List.length_take]; omega
    refine ⟨some a, cap, (zs.take len).map fun z => UInt8.ofNat z.toNat, by rw [hlen], fun hn => ?_, by rw [hlen]; omega, fun e => (by cases e), .inr ⟨_, _, congrArg Prod.fst hx, by simp [lits]⟩⟩
    have h0 := hi 0 (by omega)
    have hs := cell_spot (by simpa [Addr.add] using h0)
    refine ⟨a.block, a.off, by rw [← hs.1], hs.2, fun i hil => ?_⟩
    have h1 := hi i (by omega)
    have e : a.add i = ⟨a.block, a.off + i, none⟩ := by
      unfold Addr.add
      split
      · rename_i hj; subst hj; exact hs.1
      · rfl
    rw [e] at h1
    have hz := u8_of (hw zs[i] (List.getElem_mem (by omega)))
    rw [h1, List.getD_eq_getElem?_getD, List.getElem?_eq_getElem (show i < zs.length by omega)]
    simp
    omega
set_option maxRecDepth 100000 in
theorem open_bytes {v : Value} {d : DataW H} {p : List MemPlace}
    (hv : Value.okWide Try.prog W .any base 29 v) (h : DataW.Trod enc Try.prog W 0 (fun _ => true) true 29 v d p) :
    ∃ (A : Option Addr) (cap : Nat) (l : List UInt8), v = .slice A l.length cap ∧ BRd W A l ∧ l.length ≤ cap ∧ (A = none → cap = 0) ∧ (l.length = 0 ∨ ∃ el sp, d = .slice el sp ∧ el.length = l.length) := by
  obtain ⟨a0, len, cap, rfl⟩ := okWide_slice Try.underlying29 hv
  obtain ⟨fuel, hf⟩ := h
  exact bytes_cell hf
set_option maxRecDepth 100000 in
theorem bools_cell {fuel : Nat} {v : Value} {x : DataW H × List MemPlace} (hf : DataW.trod enc Try.prog W 0 (fun _ => true) true fuel 23 [v] = some x) :
    ∃ (A : Option Addr) (cap : Nat) (l : List Bool), v = .slice A l.length cap ∧ KRd W A l ∧ l.length ≤ cap ∧ (A = none → cap = 0) ∧ (l.length = 0 ∨ ∃ el sp, x.1 = .slice el sp ∧ el.length = l.length) := by
  rcases open_bools Try.underlying23 Try.underlying4 (by kernel_rfl) hf with ⟨hcs, hx⟩ | ⟨a, len, cap, B, hcs, hb0, hlc, hm, hx, hi⟩
  · simp at hcs
    subst hcs
    exact ⟨none, 0, [], rfl, fun h => by simp at h, by simp, fun _ => rfl, .inl rfl⟩
  · simp at hcs
    subst hcs
    have hlen : ((List.range len).map B).length = len := by simp
    refine ⟨some a, cap, (List.range len).map B, by rw [hlen], fun hn => ?_, by rw [hlen]; omega, fun e => (by cases e), .inr ⟨(List.range len).map fun i => .lit (.bool (B i)), (List.range (cap - len)).map fun i => .lit (.bool (B (len + i))), congrArg Prod.fst hx, by simp⟩⟩
    have h0 := hi 0 (by omega)
    have hs := cell_spot (by simpa [Addr.add] using h0)
    refine ⟨a.block, a.off, by rw [← hs.1], hs.2, fun i hil => ?_⟩
    have h1 := hi i (by omega)
    have e : a.add i = ⟨a.block, a.off + i, none⟩ := by
      unfold Addr.add
      split
      · rename_i hj; subst hj; exact hs.1
      · rfl
    rw [e] at h1
    rw [h1]
    simp
set_option maxRecDepth 100000 in
theorem open_bools_ {v : Value} {d : DataW H} {p : List MemPlace}
    (hv : Value.okWide Try.prog W .any base 23 v) (h : DataW.Trod enc Try.prog W 0 (fun _ => true) true 23 v d p) :
    ∃ (A : Option Addr) (cap : Nat) (l : List Bool), v = .slice A l.length cap ∧ KRd W A l ∧ l.length ≤ cap ∧ (A = none → cap = 0) ∧ (l.length = 0 ∨ ∃ el sp, d = .slice el sp ∧ el.length = l.length) := by
  obtain ⟨a0, len, cap, rfl⟩ := okWide_slice Try.underlying23 hv
  obtain ⟨fuel, hf⟩ := h
  exact bools_cell hf
/-- An operation of a script, in memory. -/
structure OpV where
  d : Int
  f : Int
  k : Int
  n : Int
  A : Option Addr
  b : List UInt8
  ac : Nat
  K : Option Addr
  ks : List Bool
  kc : Nat
def OpV.cells (o : OpV) : List Value := [.int .i64 o.d, .int .i64 o.f, .int .i64 o.k, .int .i64 o.n, .slice o.A o.b.length o.ac, .slice o.K o.ks.length o.kc]
structure OpV.Reads (o : OpV) (W : World) : Prop where
  b : BRd W o.A o.b
  ks : KRd W o.K o.ks
  n : In64 o.n
theorem KRd.below {w w' : World} {A : Option Addr} {l : List Bool} (h : KRd w A l) (hb : Below w.heap.size w w') : KRd w' A l := fun h0 => by
  obtain ⟨g, off, hA, hg, hc⟩ := h h0
  refine ⟨g, off, hA, Nat.lt_of_lt_of_le hg hb.size, fun i hi => ?_⟩
  rw [(bcell hb).1 _ _ hg]
  exact hc i hi
theorem OpV.Reads.below {o : OpV} {W W' : World} (h : o.Reads W) (hb : Below W.heap.size W W') : o.Reads W' := ⟨h.b.below hb, h.ks.below hb, h.n⟩
/-- What the reading of an operation says of its sizes. -/
structure OpV.Says (o : OpV) (x : DataW H) : Prop where
  weightB : o.b.length = 0 ∨ ∃ n ∈ x.weights Try.prog 42, o.b.length ≤ n
  weightK : o.ks.length = 0 ∨ ∃ n ∈ x.weights Try.prog 42, o.ks.length ≤ n
  bulk : o.b.length + o.ks.length + 1 ≤ Rows.uptoBulk x
theorem cellsOp : Try.prog.cellsOf 42 = 6 := by kernel_rfl
theorem cells1 : Try.prog.cellsOf 3 = 1 ∧ Try.prog.cellsOf 29 = 1 ∧ Try.prog.cellsOf 23 = 1 := ⟨by kernel_rfl, by kernel_rfl, by kernel_rfl⟩
theorem bulk_all (l : List (DataW H)) : l.length ≤ Rows.uptoBulkAll l := by
  induction l with
  | nil => simp
  | cons x l ih =>
    have hx : 1 ≤ Rows.uptoBulk x := by
      cases x with
      | lit b => cases b <;> simp [Rows.uptoBulk]
      | _ => simp [Rows.uptoBulk]
    simp only [Rows.uptoBulkAll, List.length_cons]
    omega
set_option maxRecDepth 100000 in
theorem op_of_cells {fuel : Nat} {cs : List Value} {x : DataW H × List MemPlace} (h : DataW.trod enc Try.prog W 0 (fun _ => true) true fuel 42 cs = some x) : ∃ o : OpV, cs = o.cells ∧ o.Reads W ∧ o.Says x.1 := by
  obtain ⟨xs, n, _, hx, hl, hlen, hg⟩ := DataW.trod_struct Try.underlying42 h
  rw [cellsOp] at hl
  match xs, hlen with
  | [y0, y1, y2, y3, y4, y5], _ =>
    match cs, hl with
    | [c0, c1, c2, c3, c4, c5], _ =>
      have g0 : DataW.trod enc Try.prog W 0 (fun _ => true) true n 3 (([c0, c1, c2, c3, c4, c5].drop 0).take (Try.prog.cellsOf 3)) = some y0 := hg 0 _ rfl
      have g1 : DataW.trod enc Try.prog W 0 (fun _ => true) true n 3 (([c0, c1, c2, c3, c4, c5].drop 1).take (Try.prog.cellsOf 3)) = some y1 := hg 1 _ rfl
      have g2 : DataW.trod enc Try.prog W 0 (fun _ => true) true n 3 (([c0, c1, c2, c3, c4, c5].drop 2).take (Try.prog.cellsOf 3)) = some y2 := hg 2 _ rfl
      have g3 : DataW.trod enc Try.prog W 0 (fun _ => true) true n 3 (([c0, c1, c2, c3, c4, c5].drop 3).take (Try.prog.cellsOf 3)) = some y3 := hg 3 _ rfl
      have g4 : DataW.trod enc Try.prog W 0 (fun _ => true) true n 29 (([c0, c1, c2, c3, c4, c5].drop 4).take (Try.prog.cellsOf 29)) = some y4 := hg 4 _ rfl
      have g5 : DataW.trod enc Try.prog W 0 (fun _ => true) true n 23 (([c0, c1, c2, c3, c4, c5].drop 5).take (Try.prog.cellsOf 23)) = some y5 := hg 5 _ rfl
      rw [cells1.1] at g0 g1 g2 g3
      rw [cells1.2.1] at g4
      rw [cells1.2.2] at g5
      change DataW.trod enc Try.prog W 0 _ true n _ [c0] = _ at g0
      change DataW.trod enc Try.prog W 0 _ true n _ [c1] = _ at g1
      change DataW.trod enc Try.prog W 0 _ true n _ [c2] = _ at g2
      change DataW.trod enc Try.prog W 0 _ true n _ [c3] = _ at g3
      change DataW.trod enc Try.prog W 0 _ true n _ [c4] = _ at g4
      change DataW.trod enc Try.prog W 0 _ true n _ [c5] = _ at g5
      obtain ⟨z0, e0, _, w0⟩ := DataW.trod_int Try.underlying3 g0
      obtain ⟨z1, e1, _, w1⟩ := DataW.trod_int Try.underlying3 g1
      obtain ⟨z2, e2, _, w2⟩ := DataW.trod_int Try.underlying3 g2
      obtain ⟨z3, e3, _, w3⟩ := DataW.trod_int Try.underlying3 g3
      simp only [List.cons.injEq, and_true] at e0 e1 e2 e3
      obtain ⟨A, ac, b, e4, hb, -, -, hbd⟩ := bytes_cell g4
      obtain ⟨K, kc, ks, e5, hk, -, -, hkd⟩ := bools_cell g5
      refine ⟨⟨z0, z1, z2, z3, A, b, ac, K, ks, kc⟩, by rw [e0, e1, e2, e3, e4, e5]; rfl, ⟨hb, hk, in64_of w3⟩, ?_⟩
      rw [hx]
      have hb1 : Try.prog.bytesOf 5 = 1 := by kernel_rfl
      have hb2 : Try.prog.bytesOf 4 = 1 := by kernel_rfl
      refine ⟨?_, ?_, ?_⟩
      · rcases hbd with h0 | ⟨el, sp, e, he⟩
        · exact .inl h0
        · refine .inr ⟨(el.length + sp.length) * 1, ?_, by show b.length ≤ _; omega⟩
          unfold DataW.weights
          rw [Try.underlying42]
          simp [DataW.weightsEach, e, DataW.weights, Try.underlying29, hb1]
      · rcases hkd with h0 | ⟨el, sp, e, he⟩
        · exact .inl h0
        · refine .inr ⟨(el.length + sp.length) * 1, ?_, by show ks.length ≤ _; omega⟩
          unfold DataW.weights
          rw [Try.underlying42]
          simp [DataW.weightsEach, e, DataW.weights, Try.underlying23, hb2]
      · have h4 : b.length + 1 ≤ Rows.uptoBulk y4.1 ∨ b.length = 0 := by
          rcases hbd with h0 | ⟨el, sp, e, he⟩
          · exact .inr h0
          · rw [e]
            simp only [Rows.uptoBulk]
            have := bulk_all el
            omega
        have h5 : ks.length + 1 ≤ Rows.uptoBulk y5.1 ∨ ks.length = 0 := by
          rcases hkd with h0 | ⟨el, sp, e, he⟩
          · exact .inr h0
          · rw [e]
            simp only [Rows.uptoBulk]
            have := bulk_all el
            omega
        show b.length + ks.length + 1 ≤ _
        simp only [List.map_cons, List.map_nil, Rows.uptoBulk, Rows.uptoBulkAll]
        omega
set_option maxRecDepth 100000 in
theorem open_op {v : Value} {d : DataW H} {p : List MemPlace} (hv : Value.okWide Try.prog W .any base 42 v) (h : DataW.Trod enc Try.prog W 0 (fun _ => true) true 42 v d p) : ∃ o : OpV, v = .agg o.cells.toArray ∧ o.Reads W ∧ o.Says d := by
  obtain ⟨cs, rfl, _⟩ := okWide_struct Try.underlying42 hv
  obtain ⟨fuel, hf⟩ := h
  obtain ⟨o, ha, h1, h2⟩ := op_of_cells hf
  refine ⟨o, ?_, h1, h2⟩
  obtain ⟨l⟩ := cs
  have e : l = o.cells := by simpa [Value.cells] using ha
  rw [e]
/-- A slice of operations, wherever it lies. -/
def OpsRd (w : World) (A : Option Addr) (os : List OpV) : Prop := 0 < os.length → ∃ g off, A = some ⟨g, off, none⟩ ∧ g < w.heap.size ∧ ∀ i (h : i < os.length), ∀ j, j < 6 → w.cell? ⟨g, off + i * 6 + j, none⟩ = os[i].cells[j]?
theorem OpsRd.below {w w' : World} {A : Option Addr} {os : List OpV} (h : OpsRd w A os) (hb : Below w.heap.size w w') : OpsRd w' A os := fun hn => by
  obtain ⟨g, off, hA, hg, hc⟩ := h hn
  refine ⟨g, off, hA, Nat.lt_of_lt_of_le hg hb.size, fun i hi j hj => ?_⟩
  rw [(bcell hb).1 _ _ hg]
  exact hc i hi j hj
theorem list_of {α : Type} (Q : Nat → α → Prop) : ∀ n, (∀ i, i < n → ∃ a, Q i a) → ∃ xs : List α, xs.length = n ∧ ∀ i (h : i < xs.length), Q i xs[i]
  | 0, _ => ⟨[], rfl, fun i h => by cases h⟩
  | n + 1, H => by
    obtain ⟨xs, hl, hx⟩ := list_of Q n fun i hi => H i (by omega)
    obtain ⟨a, ha⟩ := H n (by omega)
    refine ⟨xs ++ [a], by simp [hl], fun i hi => ?_⟩
    by_cases h : i < xs.length
    · rw [List.getElem_append_left h]; exact hx i h
    · obtain rfl : i = n := by simp [hl] at hi h; omega
      rw [List.getElem_append_right (by omega)]
      simpa [hl] using ha
set_option maxRecDepth 100000 in
theorem open_ops {v : Value} {d : DataW H} {p : List MemPlace}
    (hv : Value.okWide Try.prog W .any base 38 v) (h : DataW.Trod enc Try.prog W 0 (fun _ => true) true 38 v d p) :
    ∃ (A : Option Addr) (cap : Nat) (os : List OpV), v = .slice A os.length cap ∧ OpsRd W A os ∧ (∀ o ∈ os, o.Reads W) ∧ (os = [] ∨ ∃ (D : Nat → DataW H) (spare : List (DataW H)), d = .slice ((List.range os.length).map D) spare ∧ ∀ i (hi : i < os.length), os[i].Says (D i)) := by
  obtain ⟨a0, len, cap, rfl⟩ := okWide_slice Try.underlying38 hv
  obtain ⟨fuel, hf⟩ := h
  rcases open_slice Try.underlying38 hf with ⟨hcs, hx⟩ | ⟨a, len', cap', m, n, D, Pl, hcs, hb, hl, hm, hmm, hx, hi⟩
  · simp [Value.cells] at hcs
    obtain ⟨rfl, rfl, rfl⟩ := hcs
    exact ⟨none, 0, [], rfl, fun h => by simp at h, fun p hp => by simp at hp, .inl rfl⟩
  · simp [Value.cells] at hcs
    obtain ⟨rfl, rfl, rfl⟩ := hcs
    simp only [if_true] at hmm
    rw [cellsOp] at hi
    obtain ⟨os, hpl, hps⟩ := list_of (fun i (q : OpV) => q.Reads W ∧ q.Says (D i) ∧ ∀ j, j < 6 → W.cell? ((a.add (i * 6)).add j) = q.cells[j]?) len fun i hil => by
      obtain ⟨cs', hc, ht'⟩ := hi i (by omega)
      obtain ⟨q, hq, o1, o2⟩ := op_of_cells ht'
      obtain ⟨_, hcl, hat⟩ := World.cells?_some hc
      subst hq
      refine ⟨q, o1, o2, fun j hj => ?_⟩
      by_cases h0 : j = 0
      · subst h0
        have h1 := hat 0 (by omega)
        exact h1
      · exact hat j hj
    refine ⟨some a, cap, os, by rw [hpl], fun hn => ?_, fun q hq => ?_, .inr ⟨D, _, (congrArg Prod.fst hx).trans (by rw [hpl]), fun i hi => (hps i hi).2.1⟩⟩
    · have h0 := (hps 0 hn).2.2 0 (by omega)
      have hs := cell_spot (a := a) (w := W) (v := .int .i64 os[0].d) (by simpa [Addr.add, OpV.cells] using h0)
      have e : ∀ j, a.add j = ⟨a.block, a.off + j, none⟩ := fun j => by
        unfold Addr.add
        split
        · rename_i hj; subst hj; exact hs.1
        · rfl
      have e2 : ∀ (o j : Nat), (⟨a.block, o, none⟩ : Addr).add j = ⟨a.block, o + j, none⟩ := fun o j => by
        unfold Addr.add
        split
        · rename_i hj; subst hj; rfl
        · rfl
      refine ⟨a.block, a.off, by rw [← hs.1], hs.2, fun i hil j hj => ?_⟩
      have h1 := (hps i hil).2.2 j hj
      rw [e, e2] at h1
      exact h1
    · obtain ⟨i, hil, rfl⟩ := List.getElem_of_mem hq
      exact (hps i hil).1
theorem weightsAll_mem {P : Program} {e : TypeId} : ∀ {l : List (DataW H)} {d : DataW H} {n : Nat}, d ∈ l → n ∈ d.weights P e → n ∈ DataW.weightsAll P e l
  | x :: r, d, n, hd, hn => by
    simp only [DataW.weightsAll, List.mem_append]
    rcases List.mem_cons.1 hd with rfl | h
    · exact .inl hn
    · exact .inr (weightsAll_mem h hn)
end
end Go.Proofs.Ytdbbghmldaekhaa
