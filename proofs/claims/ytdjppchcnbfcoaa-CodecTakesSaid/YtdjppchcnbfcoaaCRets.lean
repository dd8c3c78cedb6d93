/-
  Pieces that are kept in a slice; forms read as what was written.
-/
import Derived.Test.YtdjppchcnbfcoaaCPutsLaw
import Derived.Test.YtdjppchcnbfcoaaCFrom
import Derived.Test.YtdjppchcnbfcoaaCOwnLaw
namespace Go.Proofs.Ytdjppchcnbfcoaa
open Go.ChangeShapes Go.WideShapes Go.ChangeAt Go.RowKit Go.Deep
set_option linter.unusedVariables false

def formsL (K : List PR) : List UInt8 := K.flatMap PR.form
theorem formsL_snoc (K : List PR) (p : PR) : formsL (K ++ [p]) = formsL K ++ p.form := by simp [formsL]
theorem formsL_drop (K : List PR) (j : Nat) (h : j < K.length) : formsL (K.drop j) = K[j].form ++ formsL (K.drop (j + 1)) := by
  rw [List.drop_eq_getElem_cons h]; rfl
/-- A form is read as what was written. -/
theorem rdP_int (k : Nat) (n : Int) (h : k % 4 = 0) (hn : In8 n) (x : List UInt8) : rdP k (encI n ++ x) = (n, [], (encI n).length, 0) := by
  unfold rdP
  rw [if_pos h, rd_enc n hn x]
theorem rdF_enc (n : Int) (h : n = 0 ∨ n = 1) (x : List UInt8) : rdF (encI n ++ x) = (decide (n = 1), (encI n).length, 0) := by
  unfold rdF
  rw [rd_enc n (by unfold In8; omega) x]
  simp only [if_true]
  rw [if_pos h]
theorem rdP_flag (k : Nat) (n : Int) (h : k % 4 = 3) (x : List UInt8) : rdP k (encI (n % 2) ++ x) = (n % 2, [], (encI (n % 2)).length, 0) := by
  unfold rdP
  rw [if_neg (by omega), if_pos h, rdF_enc (n % 2) (by omega) x]
  simp only [Prod.mk.injEq, and_true]
  rcases (by omega : n % 2 = 0 ∨ n % 2 = 1) with h | h <;> rw [h] <;> rfl
theorem rdP_text (k : Nat) (s : List UInt8) (h : k % 4 = 1 ∨ k % 4 = 2) (x : List UInt8) : rdP k (encB s ++ x) = (0, s, (encB s).length, 0) := by
  unfold rdP
  rw [if_neg (by omega), if_neg (by omega), rdB_enc s x]

theorem pieceInfo : (Try.prog.info? 28).map (fun i => (i.zero, i.size, i.bytes)) = some (some (.agg #[.int .u8 0, .int .i64 0, .string ⟨#[]⟩]), 3, 32) := by kernel_rfl
def cellsK (l : List PR) : List Value := l.flatMap PR.cells
theorem cellsK_len : ∀ l : List PR, (cellsK l).length = l.length * 3
  | [] => rfl
  | x :: l => by
    have := cellsK_len l
    simp only [cellsK, List.flatMap_cons, List.length_append] at this ⊢
    rw [this]
    simp only [PR.cells, List.length_cons, List.length_nil]
    omega
theorem cellsK_get : ∀ (xs : List PR) (i : Nat) (h : i < xs.length) (c : Nat) (hc : c < 3), (cellsK xs)[i * 3 + c]? = xs[i].cells[c]?
  | x :: l, 0, h, c, hc => by
    simp only [cellsK, List.flatMap_cons, List.getElem_cons_zero]
    rw [List.getElem?_append_left (by simp [PR.cells]; omega)]
    congr 1; omega
  | x :: l, i + 1, h, c, hc => by
    have h' := cellsK_get l i (by simpa using h) c hc
    simp only [cellsK, List.flatMap_cons, List.getElem_cons_succ] at h' ⊢
    rw [List.getElem?_append_right (by simp [PR.cells]; omega), ← h']
    congr 1
    simp [PR.cells]; omega
/-- A slice of pieces of the call's own. -/
def OwnP (w : World) (B : Nat) (v : Value) (K : List PR) : Prop := w.ownsRow B 28 3 v K.length (cellsK K)
theorem OwnP.nil (w : World) (B : Nat) : OwnP w B (.slice none 0 0) [] := World.ownsRow_nil _ _ _ _
theorem OwnP.kind {w : World} {B : Nat} {v : Value} {K : List PR} (h : OwnP w B v K) : ∀ g, v.ownBlock = some g → B ≤ g ∧ ∃ c, w.heap[g]? = some (.cells c 28 (0, 0)) := by
  intro g e
  rcases h.2 with ⟨hv, _⟩ | ⟨g', cap, cur, hv, hb, hg, _⟩
  · rw [hv] at e; simp [Value.ownBlock] at e
  · rw [hv] at e
    obtain rfl : g' = g := by simpa [Value.ownBlock] using e
    exact ⟨hb, _, hg⟩
theorem OwnP.same {w w' : World} {B : Nat} {v : Value} {K : List PR} (h : OwnP w B v K) (hs : ∀ k, k < w.heap.size → v.ownBlock = some k → w'.heap[k]? = w.heap[k]?) : OwnP w' B v K := by
  refine ⟨h.1, ?_⟩
  rcases h.2 with h2 | ⟨g, cap, cur, hv, hb, hg, rest⟩
  · exact .inl h2
  · have hlt : g < w.heap.size := (Array.getElem?_eq_some_iff.1 hg).1
    exact .inr ⟨g, cap, cur, hv, hb, by rw [hs g hlt (by rw [hv]; rfl)]; exact hg, rest⟩
theorem OwnP.below {w w' : World} {B : Nat} {v : Value} {K : List PR} (h : OwnP w B v K) (hb : Below w.heap.size w w') : OwnP w' B v K := h.same fun k hk _ => hb.block k hk
theorem OwnP.slice {w : World} {B : Nat} {v : Value} {K : List PR} (h : OwnP w B v K) : ∃ a cap, v = .slice a K.length cap := by
  rcases h.2 with ⟨rfl, h0⟩ | ⟨g, cap, cur, rfl, hb, hg, hn, rest⟩
  · exact ⟨none, 0, by rw [h0]⟩
  · exact ⟨_, cap, rfl⟩
/-- While the writer writes, the pieces stay. -/
theorem OwnP.wgr {w w' : World} {B B' g : Nat} {v v' u : Value} {l : List UInt8} {K : List PR} (hu : OwnP w B' u K) (h : WrS w B g v l) (hg : WGr w w' g v v') : OwnP w' B' u K := by
  refine hu.same fun k hk e => ?_
  obtain ⟨_, c, hk2⟩ := hu.kind k e
  refine hg.block k hk (fun e2 => ?_) (fun e2 => ?_)
  · subst e2
    have := h.box
    rw [hk2] at this
    simp at this
  · obtain ⟨c2, f2, h3⟩ := own_kind h.own k e2
    rw [hk2] at h3
    simp at h3
/-- While the pieces grow, the writer stays. -/
theorem WrS.pgr {w w' : World} {B B' g : Nat} {v u : Value} {l : List UInt8} {K : List PR} (h : WrS w B g v l) (hu : OwnP w B' u K) (hg : w.grownBy w' u.ownBlock) : WrS w' B g v l := by
  refine ⟨h.low, (hg.block g h.lt fun e => ?_).trans h.box, h.own.same fun k hk e => hg.block k hk fun e2 => ?_⟩
  · obtain ⟨_, c, hk2⟩ := hu.kind g e.symm
    have := h.box
    rw [hk2] at this
    simp at this
  · obtain ⟨_, c, hk2⟩ := hu.kind k e2.symm
    obtain ⟨c2, f2, h3⟩ := own_kind h.own k e
    rw [hk2] at h3
    simp at h3
theorem OwnP.prd {w : World} {B cap : Nat} {a : Option Addr} {K : List PR} (h : OwnP w B (.slice a K.length cap) K) : PRd w a K := fun hn => by
  obtain ⟨g, cap', hv, hb, hg⟩ := World.ownsRow.form h hn
  obtain ⟨rfl, rfl⟩ : a = some ⟨g, 0, none⟩ ∧ cap = cap' := by simpa using hv
  refine ⟨g, 0, rfl, hg, fun i hi => ?_⟩
  have key : ∀ c, c < 3 → ∀ u, K[i].cells[c]? = some u → w.cell? ⟨g, 0 + i * 3 + c, none⟩ = some u := fun c hc u hu => by
    have h1 := World.ownsRow.cells h (g := g) rfl (i * 3 + c) u (by rw [cellsK_get K i hi c hc]; exact hu)
    rw [Go.WideShapes.add_plain] at h1
    rw [Nat.add_assoc]
    exact h1
  exact ⟨key 0 (by omega) _ rfl, key 1 (by omega) _ rfl, key 2 (by omega) _ rfl⟩
/-- One piece is appended. -/
theorem wpList_piece {w0 : World} {T : TypeId} {ops : Array Oper} {rest : List Oper} {o : Oper} {a : Act} {Q : Exit → Act → World → Prop} (hgd : o.guard = none) (s x : Operand)
    (ho : o.op = .call { callee := .builtin .append, args := #[s, x], argTypes := #[22, 22] }) (B : Nat) (v : Value) (K : List PR) (pp : PR) (hs : a.eval s = v) (hx : a.eval x = .slice (some ⟨w0.heap.size, 0, none⟩) 1 1)
    (hown : OwnP w0 B v K) (hB : B ≤ w0.heap.size) (hlim : (K.length + 1) * 32 ≤ 140737488355328)
    (h : ∀ v' w', OwnP w' B v' (K ++ [pp]) → (w0.alloc (.cells #[.int .u8 (pp.k : Int), .int .i64 pp.n, .string ⟨pp.s.toArray⟩] T)).grownBy w' v.ownBlock → wpList Try.prog ops Q rest (a.put o.dst v') w') : wpList Try.prog ops Q (o :: rest) a (w0.alloc (.cells #[.int .u8 (pp.k : Int), .int .i64 pp.n, .string ⟨pp.s.toArray⟩] T)) := by
  obtain ⟨i0, hi, hz0, hz1, hz2⟩ := info_parts pieceInfo
  refine wpList_append_lies _ hgd s x 22 ho B 28 i0 _ 3 32 Try.underlying22 hi hz0 hz1 hz2 rfl (by decide) v _ _ hs (World.ownsRow.alloc hown _) ⟨w0.heap.size, 0, none⟩ 1 1 pp.cells hx rfl (fun j u hj => by
      obtain ⟨q0, q1, q2⟩ := pr_box w0 (.int .u8 (pp.k : Int)) (.int .i64 pp.n) (.string ⟨pp.s.toArray⟩) T
      rw [Go.WideShapes.add_plain, Nat.zero_add]
      match j, hj with
      | 0, hj => (simp [PR.cells] at hj; subst hj; exact q0)
      | 1, hj => (simp [PR.cells] at hj; subst hj; exact q1)
      | 2, hj => (simp [PR.cells] at hj; subst hj; exact q2)) (fun u hu => by simp [PR.cells] at hu; rcases hu with rfl | rfl | rfl <;> rfl) (by decide) (by unfold maxLen; omega) hlim (by simp; omega) _ rfl ?_
  intro g cap w1 hown1 hgrow hat hlt
  have e : cellsK K ++ pp.cells = cellsK (K ++ [pp]) := by simp [cellsK]
  rw [e, show K.length + 1 = (K ++ [pp]).length by simp] at hown1
  rw [show K.length + 1 = (K ++ [pp]).length by simp]
  exact h _ w1 hown1 hgrow
end Go.Proofs.Ytdjppchcnbfcoaa
