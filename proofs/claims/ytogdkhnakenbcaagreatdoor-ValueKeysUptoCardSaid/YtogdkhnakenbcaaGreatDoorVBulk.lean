/-
  What the second form's bound gives: how many values, how many letters; how long their key is.
-/
import Derived.Test.YtogdkhnakenbcaaGreatDoorVKey8
import Derived.Deep.DeepHandedRow
namespace Go.Proofs.YtogdkhnakenbcaaGreatDoor
open Go.ChangeShapes Go.WideShapes Go.ChangeAt Go.RowKit Go.Deep
set_option linter.unusedVariables false

/-- How many values and letters a list of values has. -/
def sizeL : List VR → Nat
  | [] => 0
  | v :: l => v.t.size + 1 + sizeL l
theorem size_mem : ∀ {l : List VR} {v : VR}, v ∈ l → v.t.size + 1 ≤ sizeL l
  | x :: l, v, h => by
    simp only [sizeL]
    rcases List.mem_cons.1 h with rfl | h
    · omega
    · have := size_mem h; omega
theorem size_len : ∀ l : List VR, l.length ≤ sizeL l
  | [] => Nat.le_refl _
  | x :: l => by have := size_len l; simp only [sizeL, List.length_cons]; omega
theorem keyV_le {v : VR} (h : v.Ok) (hm : v.t.size ≤ 1048576) : (keyV v).length ≤ 60 * (v.t.size + 1) := by
  have e : v.t.data.toList.length = v.t.size := Array.length_toList
  have h1 := Lib.itoa_length_le v.k h.k.1 h.k.2
  have h2 := Lib.itoa_length_le v.n h.n.1 h.n.2
  have h3 := Lib.itoa_length_le (v.t.size : Int) (by omega) (by omega)
  unfold keyV headK bodyK sc2
  split <;> split <;> (try split) <;> simp <;> omega
theorem keyL_le : ∀ {l : List VR}, (∀ v ∈ l, v.Ok) → sizeL l ≤ 1048576 → (keyL l).length ≤ 60 * sizeL l
  | [], _, _ => Nat.le_refl _
  | x :: l, h, hs => by
    simp only [sizeL] at hs
    have h1 := keyV_le (h x (by simp)) (by omega)
    have h2 := keyL_le (l := l) (fun v hv => h v (by simp [hv])) (by omega)
    simp only [keyL, sizeL, List.length_append]
    omega

section
variable {H : Type} {enc : TypeId × Value → H} {W : World} {base : Nat} {sp : Nat → Bool} {held : Bool}
theorem bulk_app (l r : List (DataW H)) : Rows.uptoBulkAll (l ++ r) = Rows.uptoBulkAll l + Rows.uptoBulkAll r := by
  induction l with
  | nil => simp [Rows.uptoBulkAll]
  | cons x l ih => simp only [List.cons_append, Rows.uptoBulkAll, ih]; omega
theorem bulk_list : ∀ (xs : List VR) (D : Nat → DataW H), (∀ i (hi : i < xs.length), xs[i].t.size + 1 ≤ Rows.uptoBulk (D i)) → sizeL xs ≤ Rows.uptoBulkAll ((List.range xs.length).map D)
  | [], D, _ => Nat.zero_le _
  | x :: l, D, h => by
    rw [List.length_cons, List.range_succ_eq_map]
    simp only [List.map_cons, List.map_map, Rows.uptoBulkAll, sizeL]
    have h0 := h 0 (by simp)
    simp only [List.getElem_cons_zero] at h0
    have h1 := bulk_list l (D ∘ Nat.succ) (fun i hi => by have := h (i + 1) (by simpa using hi); simpa using this)
    omega
theorem trod4x {P : Program} {t : TypeId} {f0 f1 f2 f3 : Field} (hs : P.underlying t = some (.struct #[f0, f1, f2, f3])) {fuel : Nat} {cs : List Value} {x : DataW H × List MemPlace} (h : DataW.trod enc P W base sp held fuel t cs = some x) :
    ∃ (y0 y1 y2 y3 : DataW H × List MemPlace) (n : Nat), x.1 = .agg [y0.1, y1.1, y2.1, y3.1] ∧ DataW.trod enc P W base sp held n f3.type ((cs.drop f3.offset).take (P.cellsOf f3.type)) = some y3 := by
  obtain ⟨xs, n, _, rfl, hl, hlen, hg⟩ := DataW.trod_struct hs h
  match xs, hlen with
  | [y0, y1, y2, y3], _ => exact ⟨y0, y1, y2, y3, n, rfl, hg 3 f3 rfl⟩
set_option maxRecDepth 100000 in
theorem val_bulk {fuel : Nat} {a : VR} {x : DataW H × List MemPlace} (h : DataW.trod enc Tryz.prog W base sp held fuel 25 a.cells = some x) : a.t.size + 1 ≤ Rows.uptoBulk x.1 := by
  obtain ⟨y0, y1, y2, y3, n, hx, g3⟩ := trod4x Tryz.underlying25 h
  dsimp only at g3
  rw [cellsS] at g3
  change DataW.trod enc Tryz.prog W base sp held n _ [.string a.t] = some y3 at g3
  obtain ⟨t, et, ex, _⟩ := DataW.trod_string Tryz.underlying9 g3
  obtain rfl : a.t = t := by simpa using et
  have e : a.t.data.toList.length = a.t.size := Array.length_toList
  have hb : Rows.uptoBulk y3.1 = a.t.size + 1 := by rw [ex]; simp only [Rows.uptoBulk]; omega
  rw [hx]
  simp only [Rows.uptoBulk, Rows.uptoBulkAll, hb]
  omega
set_option maxRecDepth 100000 in
theorem open_vals_bulk {v : Value} {d : DataW H} {p : List MemPlace}
    (hv : Value.okWide Tryz.prog W .any base 32 v) (h : DataW.Trod enc Tryz.prog W 0 (fun _ => true) true 32 v d p) :
    ∃ (A : Option Addr) (cap : Nat) (xs : List VR), v = .slice A xs.length cap ∧ VRd W A xs ∧ (∀ x ∈ xs, x.Ok) ∧ xs.length ≤ maxLen ∧ sizeL xs ≤ Rows.uptoBulk d := by
  obtain ⟨a0, len, cap, rfl⟩ := okWide_slice Tryz.underlying32 hv
  obtain ⟨fuel, hf⟩ := h
  rcases open_slice Tryz.underlying32 hf with ⟨hcs, hx⟩ | ⟨a, len', cap', m, n, D, Pl, hcs, hb, hl, hm, hmm, hx, hi⟩
  · simp [Value.cells] at hcs
    obtain ⟨rfl, rfl, rfl⟩ := hcs
    exact ⟨none, 0, [], rfl, fun h => by simp at h, fun p hp => by simp at hp, by simp, by simp [sizeL]⟩
  · simp [Value.cells] at hcs
    obtain ⟨rfl, rfl, rfl⟩ := hcs
    simp only [if_true] at hmm
    rw [cellsV] at hi
    obtain ⟨xs, hxl, hxs⟩ := list_of (fun i (q : VR) => q.t.size + 1 ≤ Rows.uptoBulk (D i) ∧ q.Ok ∧ W.cell? (a.add (i * 5)) = some (.int .i64 q.k) ∧ W.cell? ((a.add (i * 5)).add 1) = some (.int .i64 q.s) ∧ W.cell? ((a.add (i * 5)).add 2) = some (.bool q.nl) ∧ W.cell? ((a.add (i * 5)).add 3) = some (.int .i64 q.n) ∧ W.cell? ((a.add (i * 5)).add 4) = some (.string q.t)) len fun i hil => by
      obtain ⟨cs', hc, ht'⟩ := hi i (by omega)
      obtain ⟨q, hq, ho⟩ := val_of_cells ht'
      obtain ⟨_, hcl, hat⟩ := World.cells?_some hc
      subst hq
      refine ⟨q, val_bulk ht', ho, ?_, ?_, ?_, ?_, ?_⟩
      · have h0 : (a.add (i * 5)).add 0 = a.add (i * 5) := if_pos rfl
        have h1 := hat 0 (by omega)
        rw [h0] at h1
        exact h1
      · exact hat 1 (by omega)
      · exact hat 2 (by omega)
      · exact hat 3 (by omega)
      · exact hat 4 (by omega)
    refine ⟨some a, cap, xs, by rw [hxl], fun hn => ?_, fun q hq => ?_, by omega, ?_⟩
    · have h0 := (hxs 0 hn).2.2.1
      have hs := cell_spot (by simpa [Addr.add] using h0)
      have e : ∀ j, a.add j = ⟨a.block, a.off + j, none⟩ := fun j => by
        unfold Addr.add
        split
        · rename_i hj; subst hj; exact hs.1
        · rfl
      have e2 : ∀ (o j : Nat), (⟨a.block, o, none⟩ : Addr).add j = ⟨a.block, o + j, none⟩ := fun o j => by
        unfold Addr.add
        split
        · rename_i hj; subst hj; rfl
        · rfl
      refine ⟨a.block, a.off, by rw [← hs.1], hs.2, fun i hil => ?_⟩
      have h1 := (hxs i hil).2.2
      rw [e, e2, e2, e2, e2] at h1
      exact h1
    · obtain ⟨i, hil, rfl⟩ := List.getElem_of_mem hq
      exact (hxs i hil).2.1
    · obtain rfl : d = _ := congrArg Prod.fst hx
      have h1 := bulk_list xs D (fun i hil => (hxs i hil).1)
      rw [hxl] at h1
      simp only [Rows.uptoBulk]
      omega
end
/-- A start at which a row with a condition is met. -/
theorem witness_zip {H : Type} {enc : TypeId × Value → H} {C : Checked} {os : Os} {f : FuncId} {fn : Func} {s : OpenSpec} {conds : List PathCond} {apart : Bool} {laid : List (String × DataW Unit)} (modest : Bool) (w0 : World) (args : Array Value) (hos : w0.os = os)
    (hsh : (w0.forCall (fun _ _ => 0) ⟨#[], args, []⟩).Shaped C.prog)
    (hok : Input.okWideB C.prog (w0.forCall (fun _ _ => 0) ⟨#[], args, []⟩) f ⟨#[], args, []⟩ = true)
    (hrow : s.preRow enc C.prog fn conds apart laid (w0.forCall (fun _ _ => 0) ⟨#[], args, []⟩).memory args) :
    ∃ (w : World) (tape : Tape) (i : Input), w.os = os ∧ (w.forCall tape i).Shaped C.prog ∧ i.vars = [] ∧ Input.okWide C.prog (w.forCall tape i) .any w.heap.size f i ∧
      s.preRow enc C.prog fn conds apart laid (w.forCall tape i).memory i.args ∧ ({ modest := modest } : Assume).holds C.prog (lone (Frame.enter C.prog f i.args .normal) [] (w.forCall tape i)) :=
  ⟨w0, fun _ _ => 0, ⟨#[], args, []⟩, hos, hsh, (Input.okWide_of_okWideB (base := 0) hok).1, (Input.okWide_of_okWideB hok).2, hrow, by
    simp only [Assume.holds]
    exact ⟨by simp, by simp, fun _ => Modest.zero, by simp, by simp⟩⟩
end Go.Proofs.YtogdkhnakenbcaaGreatDoor
