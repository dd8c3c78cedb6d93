/-
  append of a list of values onto a slice of the call's own.
-/
import Derived.Test.YtogdkhnakenbcaaGreatDoorVSlice
import Derived.Laws.AppendOwn
import Derived.Lib.BufferRead
import Derived.Laws.StructEq
namespace Go.Proofs.YtogdkhnakenbcaaGreatDoor
open Go.ChangeShapes Go.WideShapes Go.ChangeAt Go.RowKit Go.Sort
set_option linter.unusedVariables false

def cellsL (l : List VR) : List Value := l.flatMap VR.cells
theorem cellsL_app (a b : List VR) : cellsL (a ++ b) = cellsL a ++ cellsL b := List.flatMap_append
theorem cellsL_len : ∀ l : List VR, (cellsL l).length = l.length * 5
  | [] => rfl
  | x :: l => by
    have := cellsL_len l
    simp only [cellsL, List.flatMap_cons, List.length_append] at this ⊢
    rw [this]
    simp only [VR.cells, List.length_cons, List.length_nil]
    omega
theorem cellsL_get : ∀ (xs : List VR) (i : Nat) (h : i < xs.length) (c : Nat) (hc : c < 5), (cellsL xs)[i * 5 + c]? = xs[i].cells[c]?
  | x :: l, 0, h, c, hc => by
    simp only [cellsL, List.flatMap_cons, List.getElem_cons_zero]
    rw [List.getElem?_append_left (by simp [VR.cells]; omega)]
    congr 1; omega
  | x :: l, i + 1, h, c, hc => by
    have h' := cellsL_get l i (by simpa using h) c hc
    simp only [cellsL, List.flatMap_cons, List.getElem_cons_succ] at h' ⊢
    rw [List.getElem?_append_right (by simp [VR.cells]; omega), ← h']
    congr 1
    simp [VR.cells]; omega
theorem cellsL_one (l : List VR) : ∀ u ∈ cellsL l, u.oneCell' = true := by
  intro u hu
  simp only [cellsL, List.mem_flatMap, VR.cells] at hu
  obtain ⟨v, _, hu⟩ := hu
  simp only [List.mem_cons, List.not_mem_nil, or_false] at hu
  rcases hu with rfl | rfl | rfl | rfl | rfl <;> rfl
theorem five_cases {P : Nat → Prop} (h0 : P 0) (h1 : P 1) (h2 : P 2) (h3 : P 3) (h4 : P 4) : ∀ c, c < 5 → P c
  | 0, _ => h0 | 1, _ => h1 | 2, _ => h2 | 3, _ => h3 | 4, _ => h4
theorem vrd_cells {w : World} {ad : Addr} {xs : List VR} (h : VRd w (some ad) xs) : ∀ j u, (cellsL xs)[j]? = some u → w.cell? (ad.add j) = some u := by
  intro j u hu
  have hj : j < xs.length * 5 := by have := (List.getElem?_eq_some_iff.1 hu).1; rwa [cellsL_len] at this
  have hn : 0 < xs.length := by omega
  obtain ⟨g, off, e, _, hc⟩ := h hn
  obtain rfl : ad = ⟨g, off, none⟩ := Option.some.inj e
  have hi : j / 5 < xs.length := by omega
  obtain ⟨c0, c1, c2, c3, c4⟩ := hc (j / 5) hi
  have hm := cellsL_get xs (j / 5) hi (j % 5) (by omega)
  rw [show j / 5 * 5 + j % 5 = j by omega, hu] at hm
  rw [Lib.add_plain]
  have key : ∀ c, c < 5 → ∀ u, xs[j / 5].cells[c]? = some u → w.cell? ⟨g, off + j / 5 * 5 + c, none⟩ = some u := by
    refine five_cases ?_ ?_ ?_ ?_ ?_ <;> intro u hu <;> simp [VR.cells] at hu <;> subst hu <;> assumption
  have hk := key (j % 5) (by omega) u hm.symm
  rw [show off + j / 5 * 5 + j % 5 = off + j by omega] at hk
  exact hk
/-- A slice of the call's own that holds a list's cells is read as the list. -/
theorem own_vrd {w : World} {B : Nat} {v : Value} {ys : List VR} (h : w.ownsRow B 25 5 v ys.length (cellsL ys)) : ∃ A cap, v = .slice A ys.length cap ∧ VRd w A ys ∧ ys.length ≤ maxLen := by
  rcases h.2 with ⟨hv, h0⟩ | ⟨g, cap, cur, hv, hb, hg, hn, hm, rest⟩
  · exact ⟨none, 0, by rw [hv, h0], fun hn => by omega, by omega⟩
  · refine ⟨some ⟨g, 0, none⟩, cap, hv, fun hn0 => ⟨g, 0, rfl, (Array.getElem?_eq_some_iff.1 hg).1, fun i hi => ?_⟩, by omega⟩
    have hc := h.cells (g := g) (by rw [hv]; rfl)
    have hk : ∀ c, c < 5 → ∀ u, ys[i].cells[c]? = some u → w.cell? ⟨g, 0 + i * 5 + c, none⟩ = some u := fun c hc5 u hu => by
      have h1 := hc (i * 5 + c) u (by rw [cellsL_get ys i hi c hc5]; exact hu)
      rw [Lib.add_plain] at h1
      rw [Nat.add_assoc]
      exact h1
    exact ⟨hk 0 (by omega) _ rfl, hk 1 (by omega) _ rfl, hk 2 (by omega) _ rfl, hk 3 (by omega) _ rfl, hk 4 (by omega) _ rfl⟩

theorem valInfo : (Tryz.prog.info? 25).map (fun i => (i.zero, i.size)) = some (some (.agg #[.int .i64 0, .int .i64 0, .bool false, .int .i64 0, .string ⟨#[]⟩]), 5) := by kernel_rfl
theorem valBytes : (Tryz.prog.info? 25).map (fun i => i.bytes) = some 48 := by kernel_rfl

theorem run_append_vals (w : World) (B : Nat) (v : Value) (n : Nat) (zs : List Value) (A : Option Addr) (c : Nat) (xs : List VR) (hown : w.ownsRow B 25 5 v n zs) (hA : VRd w A xs) (hN : A = none → xs = [] ∧ c = 0) (hB : B ≤ w.heap.size) (hlim : n + xs.length ≤ 4194304) :
    ∃ v' w', (Builtin.append_ #[32, 32] 32 #[v, .slice A xs.length c]).run Tryz.prog w = .ok v' w' ∧ w'.ownsRow B 25 5 v' (n + xs.length) (zs ++ cellsL xs) ∧ w.grownBy w' v.ownBlock := by
  have hb := valBytes
  obtain ⟨i, hi, hz, hs, hbb⟩ : ∃ i, Tryz.prog.info? 25 = some i ∧ i.zero = some (.agg #[.int .i64 0, .int .i64 0, .bool false, .int .i64 0, .string ⟨#[]⟩]) ∧ i.size = 5 ∧ i.bytes = 48 := by
    have h1 := valInfo
    cases h : Tryz.prog.info? 25 with
    | none => rw [h] at h1; cases h1
    | some i =>
      rw [h] at h1 hb
      simp only [Option.map_some, Option.some.injEq, Prod.mk.injEq] at h1 hb
      exact ⟨i, rfl, h1.1, h1.2, hb⟩
  cases A with
  | some ad =>
    obtain ⟨v', w', h1, h2, h3, _⟩ := run_append_own (P := Tryz.prog) w B 32 32 25 i _ 5 48 Tryz.underlying32 hi hz hs hbb rfl (by decide) v n zs hown ad xs.length c (cellsL xs) (cellsL_len xs) (vrd_cells hA) (cellsL_one xs) (by unfold maxLen; omega) (by omega) hB
    exact ⟨v', w', h1, h2, h3⟩
  | none =>
    obtain ⟨rfl, rfl⟩ := hN rfl
    refine ⟨v, w, ?_, by simpa [cellsL] using hown, ⟨rfl, rfl, rfl, Nat.le_refl _, fun _ _ _ => rfl⟩⟩
    have ht := Tryz.underlying32
    rcases hown.2 with ⟨rfl, rfl⟩ | ⟨g, cap, cur, rfl, hbg, hg, hnc, hcm, hcs, htake⟩
    · simp [Builtin.append_, run_underlying ht, sizeOf, typeInfo, hi, Builtin.lenOf, Builtin.firstCells]
    · simp [Builtin.append_, run_underlying ht, sizeOf, typeInfo, hi, Builtin.lenOf, Builtin.firstCells, loadCells, hnc, storeCells]

theorem wpList_append_vals {w : World} {ops : Array Oper} {rest : List Oper} {o : Oper} {a : Act} {Q : Exit → Act → World → Prop} (hgd : o.guard = none) (s x : Operand)
    (ho : o.op = .call { callee := .builtin .append, args := #[s, x], argTypes := #[32, 32] }) (hty : o.type = 32)
    (B : Nat) (v : Value) (n : Nat) (zs : List Value) (hs : a.eval s = v) (A : Option Addr) (c : Nat) (xs : List VR) (hx : a.eval x = .slice A xs.length c) (hown : w.ownsRow B 25 5 v n zs) (hA : VRd w A xs) (hN : A = none → xs = [] ∧ c = 0) (hB : B ≤ w.heap.size) (hlim : n + xs.length ≤ 4194304)
    (h : ∀ v' w', w'.ownsRow B 25 5 v' (n + xs.length) (zs ++ cellsL xs) → w.grownBy w' v.ownBlock → wpList Tryz.prog ops Q rest (a.put o.dst v') w') : wpList Tryz.prog ops Q (o :: rest) a w := by
  refine wpList_plain hgd fun _ hK => ?_
  obtain ⟨v', w', hr, h2, h3⟩ := run_append_vals w B v n zs A c xs hown hA hN hB hlim
  unfold Oper.wp execOp
  simp only [ho, hty, resolve, invoke, builtin, Sem.run_bind, Sem.run_pure, Result.andThen_ok, List.map_toArray, List.map_cons, List.map_nil, hs, hx, hr]
  exact hK _ _ (h v' w' h2 h3)

theorem bytes_toList {s t : ByteArray} (h : s.toList = t.toList) : s = t := by
  have e : ∀ s : ByteArray, s.toList = s.data.toList := Go.ByteArray.toList_eq
  rw [e, e] at h
  exact ByteArray.ext (Array.ext' h)
def eqVB (a b : VR) : Bool := (a.k == b.k && a.s == b.s) && (a.nl == b.nl && (a.n == b.n && decide (a.t.toList = b.t.toList)))
theorem eqVB_yes {a b : VR} (h : eqVB a b = true) : a = b := by
  cases a; cases b
  simp only [eqVB, Bool.and_eq_true, beq_iff_eq, decide_eq_true_eq] at h
  simp only [VR.mk.injEq]
  exact ⟨h.1.1, h.1.2, h.2.1, h.2.2.1, bytes_toList h.2.2.2⟩
theorem eqVB_self (a : VR) : eqVB a a = true := by simp [eqVB]
/-- Two values are compared cell by cell. -/
theorem eqVV (a b : Int) (x : Bool) (m : Int) (s : ByteArray) (a' b' : Int) (x' : Bool) (m' : Int) (s' : ByteArray) (w : World) : (Op.equalIn 10000 25 (.agg #[.int .i64 a, .int .i64 b, .bool x, .int .i64 m, .string s]) (.agg #[.int .i64 a', .int .i64 b', .bool x', .int .i64 m', .string s'])).run Tryz.prog w = .ok (eqVB ⟨a, b, x, m, s⟩ ⟨a', b', x', m', s'⟩) w := by
  have u2 := Tryz.underlying3
  have u3 := Tryz.underlying4
  have u4 := Tryz.underlying2
  have u5 := Tryz.underlying9
  have u6 := Tryz.underlying23
  have hS : Tryz.prog.underlying 25 = some (.struct (Tryz.prog.fieldsOf 25)) := by kernel_rfl
  have hp : Tryz.prog.stoodInHeld 25 = false := by kernel_rfl
  have hS2 : Tryz.prog.underlying 23 = some (.struct (Tryz.prog.fieldsOf 23)) := by kernel_rfl
  have hp2 : Tryz.prog.stoodInHeld 23 = false := by kernel_rfl
  rw [show (10000 : Nat) = 9999 + 1 from rfl, run_equalIn_agg w 9999 25 _ _ hS hp]
  simp only [Program.fieldsOf, Tryz.underlying25]
  go_simp
  unfold eqVB
  by_cases h1 : a = a' <;> by_cases h2 : b = b' <;> by_cases h3 : x = x' <;> by_cases h4 : m = m' <;> by_cases h5 : s.toList = s'.toList <;> simp [h1, h2, h3, h4, h5]
end Go.Proofs.YtogdkhnakenbcaaGreatDoor
