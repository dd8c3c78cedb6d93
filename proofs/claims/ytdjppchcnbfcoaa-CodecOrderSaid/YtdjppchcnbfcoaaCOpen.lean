/-
  What the statements are handed, out of memory: bytes, ints, pieces; the row's last step.
-/
import Derived.Test.YtdjppchcnbfcoaaCPiece
import Derived.SizedLaws
import Derived.ChangeSame
import Derived.ChangeSlices
import Derived.Carry
import Derived.WideKeyArgs
import Derived.Deep.Slices
import Derived.JoinedOf
import Derived.JoinedCond
import Derived.Deep.CondSized
namespace Go.Proofs.Ytdjppchcnbfcoaa
open Go.ChangeShapes Go.WideShapes Go.ChangeAt Go.RowKit Go.Deep
set_option linter.unusedVariables false

theorem own : ownKnob Try.prog.godebug = none := by kernel_rfl
theorem laidOut : laidOutB Try.prog = true := by kernel_rfl
theorem in8_of {a : Int} (h : (Lit.int .i64 a).wf = true) : In8 a := by
  have := Go.bounds_i64 h
  unfold In8; omega
theorem u8_of {a : Int} (h : (Lit.int .u8 a).wf = true) : 0 ≤ a ∧ a < 256 := by
  have hx : 0 ≤ a ∧ a ≤ 255 := by simpa [Lit.wf, IntKind.min, IntKind.max, IntKind.signed, IntKind.bits] using h
  omega

section
variable {H : Type} {enc : TypeId × Value → H} {P : Program}
theorem post_of_below {f : Func} {s : ChangeSpec} {apart fresh handsOn again : Bool} {W W' : World} {args : Array Value} {v : Value} {ds gs : List (DataW H)} {before pa pv : List MemPlace}
    (hW : DataW.Whole enc P f.params.toList s.vars apart W args.toList ds gs before)
    (hres : ∀ (b : Nat) (sp : Nat → Bool) (hd : Bool), DataW.TrodAll enc P W' b sp hd f.resultTypes.toList (v.resultList f.resultTypes.size) (s.fn H (ds ++ gs)).results [])
    (hargs : ∀ sp : Nat → Bool, (∀ p ∈ before, sp p.block = true) → DataW.TrodAll enc P W' 0 sp true f.params.toList args.toList (s.fn H (ds ++ gs)).args pa)
    (hvars : ∀ sp : Nat → Bool, (∀ p ∈ before, sp p.block = true) → DataW.TrodVars enc P W' sp s.vars (s.fn H (ds ++ gs)).vars pv)
    (hps : before = pa ++ pv) (hb : Below W.heap.size W W')
    (hok : ∀ (j : Nat) (t : TypeId) (r : Value), f.resultTypes[j]? = some t → (v.resultList f.resultTypes.size)[j]? = some r → Value.okWide P W' .any 0 t r) :
    s.post enc P f apart fresh handsOn again W args v W' := by
  have hlt : ∀ p ∈ before, p.block < W.heap.size := fun p hp => hW.lt p hp
  have hold : ∀ p ∈ before, (fun b => decide (b < W.heap.size)) p.block = true := fun p hp => by simpa using hlt p hp
  refine ⟨ds, gs, before, [], pa, pv, hW, hres _ _ _, hargs _ hold, hvars _ hold, World.keptBut_mono (fun p hp => ⟨hp, ?_⟩) (hb.frame (· ∈ before)), fun _ => ?_⟩
  · rw [hps, List.mem_append] at hp
    exact Or.inr hp
  · obtain ⟨_, _, _, _, _, hz, hn⟩ := hW
    refine ⟨hok, _, _, ([] ++ pa) ++ pv, ⟨[] ++ pa, pv, trodAll_append (hargs _ (fun _ _ => rfl)) (hres _ _ _), hvars _ (fun _ _ => rfl), rfl, ?_, ?_⟩, ?_⟩
    · intro b off hp
      have hin : MemPlace.cell b off ∈ before := by rw [hps]; simpa using hp
      rw [hb.frozen (hlt _ hin)]
      exact hz b off hin
    · intro ha
      have := hn ha
      rw [hps] at this
      simpa using this
    · intro p hp _
      rw [hps]
      simpa using hp
end

theorem cell_spot {w : World} {a : Addr} {v : Value} (h : w.cell? a = some v) : a = ⟨a.block, a.off, none⟩ ∧ a.block < w.heap.size := by
  unfold World.cell? at h
  split at h
  · rename_i hb
    split at h
    · cases h
    · rename_i hs
      refine ⟨?_, (Array.getElem?_eq_some_iff.1 hb).1⟩
      obtain ⟨b, o, s⟩ := a
      cases s <;> simp_all
  · cases h
/-- A slice of ints, wherever it lies. -/
def IRd (w : World) (A : Option Addr) (zs : List Int) : Prop := 0 < zs.length → ∃ g off, A = some ⟨g, off, none⟩ ∧ g < w.heap.size ∧ ∀ i (h : i < zs.length), w.cell? ⟨g, off + i, none⟩ = some (.int .i64 zs[i])
theorem IRd.below {w w' : World} {A : Option Addr} {zs : List Int} (h : IRd w A zs) (hb : Below w.heap.size w w') : IRd w' A zs := fun hn => by
  obtain ⟨g, off, hA, hg, hc⟩ := h hn
  refine ⟨g, off, hA, Nat.lt_of_lt_of_le hg hb.size, fun i hi => ?_⟩
  rw [(bcell hb).1 _ _ hg]
  exact hc i hi
/-- A slice of pieces, wherever it lies. -/
def PRd (w : World) (A : Option Addr) (ps : List PR) : Prop := 0 < ps.length → ∃ g off, A = some ⟨g, off, none⟩ ∧ g < w.heap.size ∧ ∀ i (h : i < ps.length),
  w.cell? ⟨g, off + i * 3, none⟩ = some (.int .u8 ps[i].k) ∧ w.cell? ⟨g, off + i * 3 + 1, none⟩ = some (.int .i64 ps[i].n) ∧ w.cell? ⟨g, off + i * 3 + 2, none⟩ = some (.string ⟨ps[i].s.toArray⟩)
theorem PRd.below {w w' : World} {A : Option Addr} {ps : List PR} (h : PRd w A ps) (hb : Below w.heap.size w w') : PRd w' A ps := fun hn => by
  obtain ⟨g, off, hA, hg, hc⟩ := h hn
  refine ⟨g, off, hA, Nat.lt_of_lt_of_le hg hb.size, fun i hi => ?_⟩
  obtain ⟨c0, c1, c2⟩ := hc i hi
  have e := (bcell hb).1
  rw [e _ _ hg, e _ _ hg, e _ _ hg]
  exact ⟨c0, c1, c2⟩

theorem cellsP : Try.prog.cellsOf 28 = 3 := by kernel_rfl
theorem cells8 : Try.prog.cellsOf 5 = 1 := by kernel_rfl
theorem cells64 : Try.prog.cellsOf 2 = 1 := by kernel_rfl
theorem cellsS : Try.prog.cellsOf 9 = 1 := by kernel_rfl
def PR.cells (p : PR) : List Value := [.int .u8 p.k, .int .i64 p.n, .string ⟨p.s.toArray⟩]
section
variable {H : Type} {enc : TypeId × Value → H} {W : World} {base : Nat} {sp : Nat → Bool} {held : Bool}
set_option maxRecDepth 100000 in
theorem open_bytes {v : Value} {d : DataW H} {p : List MemPlace}
    (hv : Value.okWide Try.prog W .any base 26 v) (h : DataW.Trod enc Try.prog W 0 (fun _ => true) true 26 v d p) :
    ∃ (A : Option Addr) (cap : Nat) (l : List UInt8), v = .slice A l.length cap ∧ BRd W A l ∧ l.length ≤ cap ∧ (A = none → cap = 0) ∧ (l.length = 0 ∨ ∃ el sp, d = .slice el sp ∧ el.length = l.length) := by
  obtain ⟨a0, len, cap, rfl⟩ := okWide_slice Try.underlying26 hv
  obtain ⟨fuel, hf⟩ := h
  rcases open_ints Try.underlying26 Try.underlying5 (by kernel_rfl) hf with ⟨hcs, hx⟩ | ⟨a, len', cap', zs, hcs, hlc, hl, hc, hm, hx, hi, hw⟩
  · simp [Value.cells] at hcs
    obtain ⟨rfl, rfl, rfl⟩ := hcs
    exact ⟨none, 0, [], rfl, BRd.nil _ _, by simp, fun _ => rfl, .inl rfl⟩
  · simp [Value.cells] at hcs
    obtain ⟨rfl, rfl, rfl⟩ := hcs
    simp only [if_true] at hm
    have hlen : ((zs.take len).map fun z => UInt8.ofNat z.toNat).length = len := by rw [List.length_map, List.length_take]; omega
    refine ⟨some a, cap, (zs.take len).map fun z => UInt8.ofNat z.toNat, by rw [hlen], fun hn => ?_, by rw [hlen]; omega, fun e => (by cases e), .inr ⟨_, _, congrArg Prod.fst hx, by simp [lits]⟩⟩
    have h0 := hi 0 (by omega)
    have hs := cell_spot (by simpa [Addr.add] using h0)
    refine ⟨a.block, a.off, by rw [← hs.1], hs.2, fun i hil => ?_⟩
    have h1 := hi i (by omega)
    have e : a.add i = ⟨a.block, a.off + i, none⟩ := by
      unfold Addr.add
      split
      · rename_i hj; subst hj; exact hs.1
      · rfl
    rw [e] at h1
    have hz := u8_of (hw zs[i] (List.getElem_mem (by omega)))
    rw [h1, List.getD_eq_getElem?_getD, List.getElem?_eq_getElem (show i < zs.length by omega)]
    simp
    omega
set_option maxRecDepth 100000 in
theorem open_in64 {v : Value} {d : DataW H} {p : List MemPlace}
    (hv : Value.okWide Try.prog W .any base 50 v) (h : DataW.Trod enc Try.prog W 0 (fun _ => true) true 50 v d p) :
    ∃ (A : Option Addr) (cap : Nat) (zs : List Int), v = .slice A zs.length cap ∧ IRd W A zs ∧ (∀ z ∈ zs, In8 z) ∧ (zs.length = 0 ∨ ∃ el sp, d = .slice el sp ∧ el.length = zs.length) := by
  obtain ⟨a0, len, cap, rfl⟩ := okWide_slice Try.underlying50 hv
  obtain ⟨fuel, hf⟩ := h
  rcases open_ints Try.underlying50 Try.underlying2 (by kernel_rfl) hf with ⟨hcs, hx⟩ | ⟨a, len', cap', zs, hcs, _, hl, hc, hm, hx, hi, hw⟩
  · simp [Value.cells] at hcs
    obtain ⟨rfl, rfl, rfl⟩ := hcs
    exact ⟨none, 0, [], rfl, fun h => by simp at h, fun z hz => by simp at hz, .inl rfl⟩
  · simp [Value.cells] at hcs
    obtain ⟨rfl, rfl, rfl⟩ := hcs
    simp only [if_true] at hm
    have hlen : (zs.take len).length = len := by rw [List.length_take]; omega
    refine ⟨some a, cap, zs.take len, by rw [hlen], fun hn => ?_, fun z hz => in8_of (hw z (List.mem_of_mem_take hz)), .inr ⟨_, _, congrArg Prod.fst hx, by simp [lits]⟩⟩
    have h0 := hi 0 (by omega)
    have hs := cell_spot (by simpa [Addr.add] using h0)
    refine ⟨a.block, a.off, by rw [← hs.1], hs.2, fun i hil => ?_⟩
    have h1 := hi i (by omega)
    have e : a.add i = ⟨a.block, a.off + i, none⟩ := by
      unfold Addr.add
      split
      · rename_i hj; subst hj; exact hs.1
      · rfl
    rw [e] at h1
    rw [h1, List.getElem_take]
    congr 2
    rw [List.getD_eq_getElem?_getD, List.getElem?_eq_getElem (show i < zs.length by omega)]; rfl
theorem trod3 {P : Program} {t : TypeId} {f0 f1 f2 : Field} (hs : P.underlying t = some (.struct #[f0, f1, f2])) {fuel : Nat} {cs : List Value} {x : DataW H × List MemPlace} (h : DataW.trod enc P W base sp held fuel t cs = some x) :
    ∃ (y0 y1 y2 : DataW H × List MemPlace) (n : Nat), x.1 = .agg [y0.1, y1.1, y2.1] ∧ cs.length = P.cellsOf t ∧ DataW.trod enc P W base sp held n f0.type ((cs.drop f0.offset).take (P.cellsOf f0.type)) = some y0 ∧ DataW.trod enc P W base sp held n f1.type ((cs.drop f1.offset).take (P.cellsOf f1.type)) = some y1 ∧
      DataW.trod enc P W base sp held n f2.type ((cs.drop f2.offset).take (P.cellsOf f2.type)) = some y2 := by
  obtain ⟨xs, n, _, rfl, hl, hlen, hg⟩ := DataW.trod_struct hs h
  match xs, hlen with
  | [y0, y1, y2], _ => exact ⟨y0, y1, y2, n, rfl, hl, hg 0 f0 rfl, hg 1 f1 rfl, hg 2 f2 rfl⟩
/-- What a piece's reading says of its text's length. -/
structure Says (p : PR) (d : DataW H) : Prop where
  weight : p.s.length ∈ d.weights Try.prog 28
  bulk : p.s.length + 1 ≤ Rows.uptoBulk d
set_option maxRecDepth 100000 in
theorem piece_of_cells {fuel : Nat} {cs : List Value} {x : DataW H × List MemPlace} (h : DataW.trod enc Try.prog W base sp held fuel 28 cs = some x) : ∃ a : PR, cs = a.cells ∧ a.k < 256 ∧ In8 a.n ∧ Says a x.1 := by
  obtain ⟨y0, y1, y2, n, hx, hl, g0, g1, g2⟩ := trod3 Try.underlying28 h
  rw [cellsP] at hl
  match cs, hl with
  | [c0, c1, c2], _ =>
    dsimp only at g0 g1 g2
    rw [cells8] at g0
    rw [cells64] at g1
    rw [cellsS] at g2
    change DataW.trod enc Try.prog W base sp held n _ [c0] = _ at g0
    change DataW.trod enc Try.prog W base sp held n _ [c1] = _ at g1
    change DataW.trod enc Try.prog W base sp held n _ [c2] = _ at g2
    obtain ⟨k, ek, _, wk⟩ := DataW.trod_int Try.underlying5 g0
    obtain ⟨n', en, _, wn⟩ := DataW.trod_int Try.underlying2 g1
    obtain ⟨t, et, ex, ht⟩ := DataW.trod_string Try.underlying9 g2
    simp only [List.cons.injEq, and_true] at ek en et
    have hk := u8_of wk
    obtain ⟨l, rfl⟩ : ∃ l : List UInt8, t = ⟨l.toArray⟩ := ⟨t.data.toList, by cases t; simp⟩
    refine ⟨⟨k.toNat, n', l⟩, ?_, by simp only; omega, in8_of wn, ?_⟩
    · rw [ek, en, et]
      show _ = [Value.int .u8 ((k.toNat : Nat) : Int), .int .i64 n', .string ⟨l.toArray⟩]
      rw [show ((k.toNat : Nat) : Int) = k by omega]
    · rw [hx]
      have hy : y2.1 = .lit (.string l) := by rw [ex]
      rw [hy]
      refine ⟨?_, ?_⟩
      · unfold DataW.weights
        rw [Try.underlying28]
        simp [DataW.weightsEach, DataW.weights]
      · simp only [Rows.uptoBulk, Rows.uptoBulkAll]
        omega
set_option maxRecDepth 100000 in
theorem open_piece {v : Value} {d : DataW H} {p : List MemPlace} (hv : Value.okWide Try.prog W .any base 28 v) (h : DataW.Trod enc Try.prog W 0 sp held 28 v d p) : ∃ a : PR, v = a.val ∧ a.k < 256 ∧ In8 a.n ∧ Says a d := by
  obtain ⟨cs, rfl, _⟩ := okWide_struct Try.underlying28 hv
  obtain ⟨fuel, hf⟩ := h
  obtain ⟨a, ha, h1, h2, h3⟩ := piece_of_cells hf
  refine ⟨a, ?_, h1, h2, h3⟩
  obtain ⟨l⟩ := cs
  have e : l = a.cells := by simpa [Value.cells] using ha
  rw [e]; rfl
theorem list_of {α : Type} (Q : Nat → α → Prop) : ∀ n, (∀ i, i < n → ∃ a, Q i a) → ∃ xs : List α, xs.length = n ∧ ∀ i (h : i < xs.length), Q i xs[i]
  | 0, _ => ⟨[], rfl, fun i h => by cases h⟩
  | n + 1, H => by
    obtain ⟨xs, hl, hx⟩ := list_of Q n fun i hi => H i (by omega)
    obtain ⟨a, ha⟩ := H n (by omega)
    refine ⟨xs ++ [a], by simp [hl], fun i hi => ?_⟩
    by_cases h : i < xs.length
    · rw [List.getElem_append_left h]; exact hx i h
    · obtain rfl : i = n := by simp [hl] at hi h; omega
      rw [List.getElem_append_right (by omega)]
      simpa [hl] using ha
set_option maxRecDepth 100000 in
theorem open_pieces {v : Value} {d : DataW H} {p : List MemPlace}
    (hv : Value.okWide Try.prog W .any base 22 v) (h : DataW.Trod enc Try.prog W 0 (fun _ => true) true 22 v d p) :
    ∃ (A : Option Addr) (cap : Nat) (ps : List PR), v = .slice A ps.length cap ∧ PRd W A ps ∧ (∀ a ∈ ps, a.k < 256 ∧ In8 a.n) ∧ (ps = [] ∨ ∃ (D : Nat → DataW H) (spare : List (DataW H)), d = .slice ((List.range ps.length).map D) spare ∧ ∀ i (hi : i < ps.length), Says ps[i] (D i)) := by
  obtain ⟨a0, len, cap, rfl⟩ := okWide_slice Try.underlying22 hv
  obtain ⟨fuel, hf⟩ := h
  rcases open_slice Try.underlying22 hf with ⟨hcs, hx⟩ | ⟨a, len', cap', m, n, D, Pl, hcs, hb, hl, hm, hmm, hx, hi⟩
  · simp [Value.cells] at hcs
    obtain ⟨rfl, rfl, rfl⟩ := hcs
    exact ⟨none, 0, [], rfl, fun h => by simp at h, fun p hp => by simp at hp, .inl rfl⟩
  · simp [Value.cells] at hcs
    obtain ⟨rfl, rfl, rfl⟩ := hcs
    simp only [if_true] at hmm
    rw [cellsP] at hi
    obtain ⟨ps, hpl, hps⟩ := list_of (fun i (q : PR) => (q.k < 256 ∧ In8 q.n) ∧ Says q (D i) ∧ W.cell? (a.add (i * 3)) = some (.int .u8 q.k) ∧ W.cell? ((a.add (i * 3)).add 1) = some (.int .i64 q.n) ∧ W.cell? ((a.add (i * 3)).add 2) = some (.string ⟨q.s.toArray⟩)) len fun i hil => by
      obtain ⟨cs', hc, ht'⟩ := hi i (by omega)
      obtain ⟨q, hq, o1, o2, o3⟩ := piece_of_cells ht'
      obtain ⟨_, hcl, hat⟩ := World.cells?_some hc
      subst hq
      refine ⟨q, ⟨o1, o2⟩, o3, ?_, ?_, ?_⟩
      · have h0 : (a.add (i * 3)).add 0 = a.add (i * 3) := if_pos rfl
        have h1 := hat 0 (by omega)
        rw [h0] at h1
        exact h1
      · exact hat 1 (by omega)
      · exact hat 2 (by omega)
    refine ⟨some a, cap, ps, by rw [hpl], fun hn => ?_, fun q hq => ?_, .inr ⟨D, _, (congrArg Prod.fst hx).trans (by rw [hpl]), fun i hi => (hps i hi).2.1⟩⟩
    · have h0 := (hps 0 hn).2.2.1
      have hs := cell_spot (by simpa [Addr.add] using h0)
      have e : ∀ j, a.add j = ⟨a.block, a.off + j, none⟩ := fun j => by
        unfold Addr.add
        split
        · rename_i hj; subst hj; exact hs.1
        · rfl
      have e2 : ∀ (o j : Nat), (⟨a.block, o, none⟩ : Addr).add j = ⟨a.block, o + j, none⟩ := fun o j => by
        unfold Addr.add
        split
        · rename_i hj; subst hj; rfl
        · rfl
      refine ⟨a.block, a.off, by rw [← hs.1], hs.2, fun i hil => ?_⟩
      have h1 := (hps i hil).2.2
      rw [e, e2, e2] at h1
      exact h1
    · obtain ⟨i, hil, rfl⟩ := List.getElem_of_mem hq
      exact (hps i hil).1
theorem weightsAll_mem {P : Program} {e : TypeId} : ∀ {l : List (DataW H)} {d : DataW H} {n : Nat}, d ∈ l → n ∈ d.weights P e → n ∈ DataW.weightsAll P e l
  | x :: r, d, n, hd, hn => by
    simp only [DataW.weightsAll, List.mem_append]
    rcases List.mem_cons.1 hd with rfl | h
    · exact .inl hn
    · exact .inr (weightsAll_mem h hn)
end
end Go.Proofs.Ytdjppchcnbfcoaa
