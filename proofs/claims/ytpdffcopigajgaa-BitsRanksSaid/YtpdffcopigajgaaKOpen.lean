/-
  Of bits: what the statements are handed, out of memory.
-/
import Derived.Test.YtpdffcopigajgaaKEq
namespace Go.Proofs.Ytpdffcopigajgaa
open Go.ChangeShapes Go.WideShapes Go.ChangeAt Go.RowKit Go.Deep
set_option linter.unusedVariables false

theorem own : ownKnob Try.prog.godebug = none := by kernel_rfl
theorem laidOut : laidOutB Try.prog = true := by kernel_rfl
def In64 (a : Int) : Prop := -9223372036854775808 ≤ a ∧ a ≤ 9223372036854775807
theorem in64_of {a : Int} (h : (Lit.int .i64 a).wf = true) : In64 a := by
  have := Go.bounds_i64 h
  unfold In64; omega
theorem u8_of {a : Int} (h : (Lit.int .u8 a).wf = true) : 0 ≤ a ∧ a < 256 := by
  have hx : 0 ≤ a ∧ a ≤ 255 := by simpa [Lit.wf, IntKind.min, IntKind.max, IntKind.signed, IntKind.bits] using h
  omega

section
variable {H : Type} {enc : TypeId × Value → H} {P : Program}
theorem post_of_below {f : Func} {s : ChangeSpec} {apart fresh handsOn again : Bool} {W W' : World} {args : Array Value} {v : Value} {ds gs : List (DataW H)} {before pa pv : List MemPlace}
    (hW : DataW.Whole enc P f.params.toList s.vars apart W args.toList ds gs before)
    (hres : ∀ (b : Nat) (sp : Nat → Bool) (hd : Bool), DataW.TrodAll enc P W' b sp hd f.resultTypes.toList (v.resultList f.resultTypes.size) (s.fn H (ds ++ gs)).results [])
    (hargs : ∀ sp : Nat → Bool, (∀ p ∈ before, sp p.block = true) → DataW.TrodAll enc P W' 0 sp true f.params.toList args.toList (s.fn H (ds ++ gs)).args pa)
    (hvars : ∀ sp : Nat → Bool, (∀ p ∈ before, sp p.block = true) → DataW.TrodVars enc P W' sp s.vars (s.fn H (ds ++ gs)).vars pv)
    (hps : before = pa ++ pv) (hb : Below W.heap.size W W')
    (hok : ∀ (j : Nat) (t : TypeId) (r : Value), f.resultTypes[j]? = some t → (v.resultList f.resultTypes.size)[j]? = some r → Value.okWide P W' .any 0 t r) :
    s.post enc P f apart fresh handsOn again W args v W' := by
  have hlt : ∀ p ∈ before, p.block < W.heap.size := fun p hp => hW.lt p hp
  have hold : ∀ p ∈ before, (fun b => decide (b < W.heap.size)) p.block = true := fun p hp => by simpa using hlt p hp
  refine ⟨ds, gs, before, [], pa, pv, hW, hres _ _ _, hargs _ hold, hvars _ hold, World.keptBut_mono (fun p hp => ⟨hp, ?_⟩) (hb.frame (· ∈ before)), fun _ => ?_⟩
  · rw [hps, List.mem_append] at hp
    exact Or.inr hp
  · obtain ⟨_, _, _, _, _, hz, hn⟩ := hW
    refine ⟨hok, _, _, ([] ++ pa) ++ pv, ⟨[] ++ pa, pv, trodAll_append (hargs _ (fun _ _ => rfl)) (hres _ _ _), hvars _ (fun _ _ => rfl), rfl, ?_, ?_⟩, ?_⟩
    · intro b off hp
      have hin : MemPlace.cell b off ∈ before := by rw [hps]; simpa using hp
      rw [hb.frozen (hlt _ hin)]
      exact hz b off hin
    · intro ha
      have := hn ha
      rw [hps] at this
      simpa using this
    · intro p hp _
      rw [hps]
      simpa using hp
end

theorem cell_spot {w : World} {a : Addr} {v : Value} (h : w.cell? a = some v) : a = ⟨a.block, a.off, none⟩ ∧ a.block < w.heap.size := by
  unfold World.cell? at h
  split at h
  · rename_i hb
    split at h
    · cases h
    · rename_i hs
      refine ⟨?_, (Array.getElem?_eq_some_iff.1 hb).1⟩
      obtain ⟨b, o, s⟩ := a
      cases s <;> simp_all
  · cases h
section
variable {H : Type} {enc : TypeId × Value → H} {W : World} {base : Nat} {sp : Nat → Bool} {held : Bool}
set_option maxRecDepth 100000 in
theorem bytes_cell {fuel : Nat} {v : Value} {x : DataW H × List MemPlace} (hf : DataW.trod enc Try.prog W 0 (fun _ => true) true fuel 23 [v] = some x) :
    ∃ (A : Option Addr) (cap : Nat) (l : List UInt8), v = .slice A l.length cap ∧ BRd W A l ∧ l.length ≤ cap ∧ (A = none → cap = 0) ∧ (l.length = 0 ∨ ∃ el sp, x.1 = .slice el sp ∧ el.length = l.length) := by
  rcases open_ints Try.underlying23 Try.underlying5 (by kernel_rfl) hf with ⟨hcs, hx⟩ | ⟨a, len, cap, zs, hcs, hlc, hl, hc, hm, hx, hi, hw⟩
  · simp at hcs
    subst hcs
    exact ⟨none, 0, [], rfl, BRd.nil _ _, by simp, fun _ => rfl, .inl rfl⟩
  · simp at hcs
    subst hcs
    simp only [if_true] at hm
    have hlen : ((zs.take len).map fun z => UInt8.ofNat z.toNat).length = len := by rw [List.length_map, List.length_take]; omega
    refine ⟨some a, cap, (zs.take len).map fun z => UInt8.ofNat z.toNat, by rw [hlen], fun hn => ?_, by rw [hlen]; omega, fun e => (by cases e), .inr ⟨_, _, congrArg Prod.fst hx, by simp [lits]⟩⟩
    have h0 := hi 0 (by omega)
    have hs := cell_spot (by simpa [Addr.add] using h0)
    refine ⟨a.block, a.off, by rw [← hs.1], hs.2, fun i hil => ?_⟩
    have h1 := hi i (by omega)
    have e : a.add i = ⟨a.block, a.off + i, none⟩ := by
      unfold Addr.add
      split
      · rename_i hj; subst hj; exact hs.1
      · rfl
    rw [e] at h1
    have hz := u8_of (hw zs[i] (List.getElem_mem (by omega)))
    rw [h1, List.getD_eq_getElem?_getD, List.getElem?_eq_getElem (show i < zs.length by omega)]
    simp
    omega
set_option maxRecDepth 100000 in
theorem open_bytes {v : Value} {d : DataW H} {p : List MemPlace}
    (hv : Value.okWide Try.prog W .any base 23 v) (h : DataW.Trod enc Try.prog W 0 (fun _ => true) true 23 v d p) :
    ∃ (A : Option Addr) (cap : Nat) (l : List UInt8), v = .slice A l.length cap ∧ BRd W A l ∧ l.length ≤ cap ∧ (A = none → cap = 0) ∧ (l.length = 0 ∨ ∃ el sp, d = .slice el sp ∧ el.length = l.length) := by
  obtain ⟨a0, len, cap, rfl⟩ := okWide_slice Try.underlying23 hv
  obtain ⟨fuel, hf⟩ := h
  exact bytes_cell hf
set_option maxRecDepth 100000 in
theorem bools_cell {fuel : Nat} {v : Value} {x : DataW H × List MemPlace} (hf : DataW.trod enc Try.prog W 0 (fun _ => true) true fuel 22 [v] = some x) :
    ∃ (A : Option Addr) (cap : Nat) (l : List Bool), v = .slice A l.length cap ∧ KRd W A l ∧ l.length ≤ cap ∧ (A = none → cap = 0) ∧ (l.length = 0 ∨ ∃ el sp, x.1 = .slice el sp ∧ el.length = l.length) := by
  rcases open_bools Try.underlying22 Try.underlying4 (by kernel_rfl) hf with ⟨hcs, hx⟩ | ⟨a, len, cap, B, hcs, hb0, hlc, hm, hx, hi⟩
  · simp at hcs
    subst hcs
    exact ⟨none, 0, [], rfl, fun h => by simp at h, by simp, fun _ => rfl, .inl rfl⟩
  · simp at hcs
    subst hcs
    have hlen : ((List.range len).map B).length = len := by simp
    refine ⟨some a, cap, (List.range len).map B, by rw [hlen], fun hn => ?_, by rw [hlen]; omega, fun e => (by cases e), .inr ⟨(List.range len).map fun i => .lit (.bool (B i)), (List.range (cap - len)).map fun i => .lit (.bool (B (len + i))), congrArg Prod.fst hx, by simp⟩⟩
    have h0 := hi 0 (by omega)
    have hs := cell_spot (by simpa [Addr.add] using h0)
    refine ⟨a.block, a.off, by rw [← hs.1], hs.2, fun i hil => ?_⟩
    have h1 := hi i (by omega)
    have e : a.add i = ⟨a.block, a.off + i, none⟩ := by
      unfold Addr.add
      split
      · rename_i hj; subst hj; exact hs.1
      · rfl
    rw [e] at h1
    rw [h1]
    simp
set_option maxRecDepth 100000 in
theorem open_bools_ {v : Value} {d : DataW H} {p : List MemPlace}
    (hv : Value.okWide Try.prog W .any base 22 v) (h : DataW.Trod enc Try.prog W 0 (fun _ => true) true 22 v d p) :
    ∃ (A : Option Addr) (cap : Nat) (l : List Bool), v = .slice A l.length cap ∧ KRd W A l ∧ l.length ≤ cap ∧ (A = none → cap = 0) ∧ (l.length = 0 ∨ ∃ el sp, d = .slice el sp ∧ el.length = l.length) := by
  obtain ⟨a0, len, cap, rfl⟩ := okWide_slice Try.underlying22 hv
  obtain ⟨fuel, hf⟩ := h
  exact bools_cell hf
theorem bulk_all (l : List (DataW H)) : l.length ≤ Rows.uptoBulkAll l := by
  induction l with
  | nil => simp
  | cons x l ih =>
    have hx : 1 ≤ Rows.uptoBulk x := by
      cases x with
      | lit b => cases b <;> simp [Rows.uptoBulk]
      | _ => simp [Rows.uptoBulk]
    simp only [Rows.uptoBulkAll, List.length_cons]
    omega
/-- Bits in memory. -/
structure BV where
  N : Int
  A : Option Addr
  c : Nat
  l : List UInt8
def BV.cells (b : BV) : List Value := [.int .i64 b.N, .slice b.A b.l.length b.c]
structure BV.Ok (b : BV) : Prop where
  n : In64 b.N
  c : b.l.length ≤ b.c
  a : b.A = none → b.c = 0
structure BV.Says (b : BV) (x : DataW H) : Prop where
  weight : b.l.length = 0 ∨ ∃ n ∈ x.weights Try.prog 25, b.l.length ≤ n
  bulk : b.l.length + 1 ≤ Rows.uptoBulk x
theorem cellsB : Try.prog.cellsOf 25 = 2 := by kernel_rfl
theorem cells1 : Try.prog.cellsOf 3 = 1 ∧ Try.prog.cellsOf 23 = 1 := ⟨by kernel_rfl, by kernel_rfl⟩
set_option maxRecDepth 100000 in
theorem bits_of_cells {fuel : Nat} {cs : List Value} {x : DataW H × List MemPlace} (h : DataW.trod enc Try.prog W 0 (fun _ => true) true fuel 25 cs = some x) : ∃ o : BV, cs = o.cells ∧ BRd W o.A o.l ∧ o.Ok ∧ o.Says x.1 := by
  obtain ⟨xs, n, _, hx, hl, hlen, hg⟩ := DataW.trod_struct Try.underlying25 h
  rw [cellsB] at hl
  match xs, hlen with
  | [y0, y1], _ =>
    match cs, hl with
    | [c0, c1], _ =>
      have g0 : DataW.trod enc Try.prog W 0 (fun _ => true) true n 3 (([c0, c1].drop 0).take (Try.prog.cellsOf 3)) = some y0 := hg 0 _ rfl
      have g1 : DataW.trod enc Try.prog W 0 (fun _ => true) true n 23 (([c0, c1].drop 1).take (Try.prog.cellsOf 23)) = some y1 := hg 1 _ rfl
      rw [cells1.1] at g0
      rw [cells1.2] at g1
      change DataW.trod enc Try.prog W 0 _ true n _ [c0] = _ at g0
      change DataW.trod enc Try.prog W 0 _ true n _ [c1] = _ at g1
      obtain ⟨z0, e0, _, w0⟩ := DataW.trod_int Try.underlying3 g0
      simp only [List.cons.injEq, and_true] at e0
      obtain ⟨A, ac, b, e4, hb, hbc, hba, hbd⟩ := bytes_cell g1
      refine ⟨⟨z0, A, ac, b⟩, by rw [e0, e4]; rfl, hb, ⟨in64_of w0, hbc, hba⟩, ?_⟩
      rw [hx]
      have hb1 : Try.prog.bytesOf 5 = 1 := by kernel_rfl
      refine ⟨?_, ?_⟩
      · rcases hbd with h0 | ⟨el, sp, e, he⟩
        · exact .inl h0
        · refine .inr ⟨(el.length + sp.length) * 1, ?_, by show b.length ≤ _; omega⟩
          unfold DataW.weights
          rw [Try.underlying25]
          simp [DataW.weightsEach, e, DataW.weights, Try.underlying23, hb1]
      · have h4 : b.length + 1 ≤ Rows.uptoBulk y1.1 ∨ b.length = 0 := by
          rcases hbd with h0 | ⟨el, sp, e, he⟩
          · exact .inr h0
          · rw [e]
            simp only [Rows.uptoBulk]
            have := bulk_all el
            omega
        show b.length + 1 ≤ _
        simp only [List.map_cons, List.map_nil, Rows.uptoBulk, Rows.uptoBulkAll]
        omega
set_option maxRecDepth 100000 in
theorem open_bits {v : Value} {d : DataW H} {p : List MemPlace} (hv : Value.okWide Try.prog W .any base 25 v) (h : DataW.Trod enc Try.prog W 0 (fun _ => true) true 25 v d p) : ∃ o : BV, v = .agg o.cells.toArray ∧ BRd W o.A o.l ∧ o.Ok ∧ o.Says d := by
  obtain ⟨cs, rfl, _⟩ := okWide_struct Try.underlying25 hv
  obtain ⟨fuel, hf⟩ := h
  obtain ⟨o, ha, h1, h2⟩ := bits_of_cells hf
  refine ⟨o, ?_, h1, h2⟩
  obtain ⟨l⟩ := cs
  have e : l = o.cells := by simpa [Value.cells] using ha
  rw [e]
theorem list_of {α : Type} (Q : Nat → α → Prop) : ∀ n, (∀ i, i < n → ∃ a, Q i a) → ∃ xs : List α, xs.length = n ∧ ∀ i (h : i < xs.length), Q i xs[i]
  | 0, _ => ⟨[], rfl, fun i h => by cases h⟩
  | n + 1, H => by
    obtain ⟨xs, hl, hx⟩ := list_of Q n fun i hi => H i (by omega)
    obtain ⟨a, ha⟩ := H n (by omega)
    refine ⟨xs ++ [a], by simp [hl], fun i hi => ?_⟩
    by_cases h : i < xs.length
    · rw [List.getElem_append_left h]; exact hx i h
    · obtain rfl : i = n := by simp [hl] at hi h; omega
      rw [List.getElem_append_right (by omega)]
      simpa [hl] using ha
end
end Go.Proofs.Ytpdffcopigajgaa
