/-
  DiskSure: what a file had when it was made sure, it has behind a crash, but where it was written or cut since. Condition: what comes in is of bulk at most 1048576.
-/
import Derived.Test.YtphemfhdiefjeaaDOwnLaw
import Derived.Test.YtphemfhdiefjeaaDSureM
import Derived.Deep.OwnRows
namespace Go.Proofs.Ytphemfhdiefjeaa
open Go.ChangeShapes Go.WideShapes Go.ChangeAt Go.RowKit Go.Deep
set_option linter.unusedVariables false

def bulkO : List OpV → Nat
  | [] => 0
  | o :: os => o.b.length + o.ks.length + 1 + bulkO os
theorem bulkO_app (a b : List OpV) : bulkO (a ++ b) = bulkO a + bulkO b := by
  induction a with
  | nil => simp [bulkO]
  | cons x a ih => simp [bulkO, ih]; omega
theorem bulkO_take (os : List OpV) (j : Nat) (h : j < os.length) : bulkO (os.take (j + 1)) = bulkO (os.take j) + (os[j].b.length + os[j].ks.length + 1) := by
  rw [List.take_succ_eq_append_getElem h, bulkO_app]
  simp [bulkO]
theorem bulkO_le (os : List OpV) (j : Nat) : bulkO (os.take j) ≤ bulkO os := by
  conv => rhs; rw [← List.take_append_drop j os, bulkO_app]
  omega
theorem bulkO_mem {os : List OpV} {o : OpV} (h : o ∈ os) : o.b.length + o.ks.length + 1 ≤ bulkO os := by
  induction os with
  | nil => cases h
  | cons x os ih =>
    rcases List.mem_cons.1 h with rfl | h
    · simp [bulkO]
    · have := ih h
      simp [bulkO]
      omega
theorem bulkO_len (os : List OpV) : os.length ≤ bulkO os := by
  induction os with
  | nil => simp
  | cons x os ih => simp [bulkO]; omega
theorem ops_bulk {H : Type} {d : DataW H} {os : List OpV} (h : os = [] ∨ ∃ (D : Nat → DataW H) (spare : List (DataW H)), d = .slice ((List.range os.length).map D) spare ∧ ∀ i (hi : i < os.length), os[i].Says (D i)) : bulkO os + 1 ≤ Rows.uptoBulk d ∨ os = [] := by
  rcases h with h | ⟨D, spare, rfl, hs⟩
  · exact .inr h
  · left
    simp only [Rows.uptoBulk]
    have key : ∀ (os : List OpV) (D : Nat → DataW H), (∀ i (hi : i < os.length), os[i].Says (D i)) → bulkO os ≤ Rows.uptoBulkAll ((List.range os.length).map D) := by
      intro os
      induction os with
      | nil => intro D _; simp [bulkO]
      | cons o os ih =>
        intro D hD
        have h0 := (hD 0 (by simp)).bulk
        have h1 := ih (fun i => D (i + 1)) fun i hi => hD (i + 1) (by simpa using hi)
        rw [List.length_cons, List.range_succ_eq_map, List.map_cons, List.map_map]
        simp only [bulkO, Rows.uptoBulkAll]
        have h2 : (List.range os.length).map (D ∘ Nat.succ) = (List.range os.length).map fun i => D (i + 1) := rfl
        rw [h2]
        simp only [List.getElem_cons_zero] at h0
        omega
    have := key os D hs
    omega
/-- The cells of an operation. -/
theorem OpsRd.cells {w : World} {A : Option Addr} {os : List OpV} (h : OpsRd w A os) (j : Nat) (hj : j < os.length) : ∃ g off, A = some ⟨g, off, none⟩ ∧ g < w.heap.size ∧ w.cell? ⟨g, off + j * 6, none⟩ = some (.int .i64 os[j].d) ∧ w.cell? ⟨g, off + j * 6 + 1, none⟩ = some (.int .i64 os[j].f) ∧ w.cell? ⟨g, off + j * 6 + 2, none⟩ = some (.int .i64 os[j].k) ∧ w.cell? ⟨g, off + j * 6 + 3, none⟩ = some (.int .i64 os[j].n) ∧
    w.cell? ⟨g, off + j * 6 + 4, none⟩ = some (.slice os[j].A os[j].b.length os[j].ac) ∧ w.cell? ⟨g, off + j * 6 + 5, none⟩ = some (.slice os[j].K os[j].ks.length os[j].kc) := by
  obtain ⟨g, off, hA, hg, hc⟩ := h (by omega)
  have h0 := hc j hj
  exact ⟨g, off, hA, hg, h0 0 (by omega), h0 1 (by omega), h0 2 (by omega), h0 3 (by omega), h0 4 (by omega), h0 5 (by omega)⟩
/-- A disk with power and without a fuse. -/
def Calm (s : St) (n : Nat) : Prop := s.fuse = 0 ∧ s.down = false ∧ s.pcs.length ≤ n
theorem Calm.looks {s : St} {n : Nat} (h : Calm s n) : Looks s (s.sure 0) (List.replicate (s.sure 0).length false) 0 :=
  ⟨rfl, fun p hp hf => ⟨fun _ => Nat.zero_le _, fun _ j _ _ => by rw [List.getElem?_replicate]; split <;> simp⟩, h.1, h.2.1, by simp, Nat.zero_le _⟩
theorem Calm.write {s : St} {n : Nat} (h : Calm s n) (f k : Int) (b : List UInt8) : Calm (s.write f k b).1 (n + b.length) := by
  obtain ⟨h1, h2, h3⟩ := h.looks.write f k b
  by_cases hc : (s.write f k b).2 = 0 ∧ f = 0
  · obtain ⟨-, h4, -⟩ := h1 hc.1 hc.2
    exact ⟨h4.fuse, h4.down, by have := h.2.2; omega⟩
  · have h4 := h2 hc
    exact ⟨h4.fuse, h4.down, by have := h.2.2; omega⟩
theorem Calm.sync {s : St} {n : Nat} (h : Calm s n) : (s.sync 0).2 = 0 ∧ Looks (s.sync 0).1 (s.now 0) (List.replicate (s.now 0).length true) (s.now 0).length ∧ (s.sync 0).1.pcs.length ≤ n ∧ (s.sync 0).1.read 0 0 4194304 = ((s.now 0).take 4194304, 0) := by
  obtain ⟨h1, h2, h3⟩ := h
  have hm : s.may 0 = 0 := by unfold St.may; rw [h2]; simp
  have hs : s.sync 0 = ({ (s.settle 0) with calls := next64 s.calls, fuse := 0 }, 0) := by
    unfold St.sync
    rw [if_neg (by omega), if_neg (by omega)]
    unfold St.count
    rw [if_neg (by show ¬ s.fuse = 1; omega)]
    show ({ (s.settle 0) with calls := next64 s.calls, fuse := s.fuse - 1 }, (0 : Int)) = _
    rw [h1]
  rw [hs]
  refine ⟨rfl, ⟨rfl, fun p hp hf => ?_, rfl, h2, by simp, Nat.le_refl _⟩, ?_, ?_⟩
  · have : p ∈ others 0 s.pcs := hp
    have := (List.mem_filter.1 this).2
    simp [hf] at this
  · exact Nat.le_trans (List.length_filter_le _ _) h3
  · unfold St.read
    rw [if_neg (by show ¬ St.may _ 0 ≠ 0; unfold St.may; show ¬ (if s.down = true then _ else _) ≠ (0 : Int); rw [h2]; simp), if_neg (by omega)]
    show (List.take 4194304 (List.drop 0 ((s.settle 0).now 0)), (0 : Int)) = _
    rw [St.settle_now, List.drop_zero]
/-- A row of truths of the call's own. -/
def OwnK (w : World) (B : Nat) (a : Option Addr) (n cap : Nat) (l : List Bool) : Prop := w.ownsRow B 4 1 (.slice a n cap) l.length (l.map Value.bool) ∧ n = l.length
theorem OwnK.at {w : World} {B n cap : Nat} {a : Option Addr} {l : List Bool} (h : OwnK w B a n cap l) (i : Nat) (hi : i < n) : ∃ g, a = some ⟨g, 0, none⟩ ∧ B ≤ g ∧ g < w.heap.size ∧ w.cell? ⟨g, i, none⟩ = some (.bool (l.getD i false)) ∧ w.frozen? ⟨g, i, none⟩ = false ∧ ∀ z, OwnK (w.setCell ⟨g, i, none⟩ (.bool z)) B a n cap (l.set i z) := by
  obtain ⟨h1, rfl⟩ := h
  obtain ⟨g, cap', hv, hb, hg⟩ := World.ownsRow.form h1 (by omega)
  obtain ⟨rfl, rfl⟩ : a = some ⟨g, 0, none⟩ ∧ cap = cap' := by simpa using hv
  have hil : i < l.length := by omega
  have hc := World.ownsRow.cells h1 (g := g) rfl i (.bool l[i]) (by rw [List.getElem?_map, List.getElem?_eq_getElem hil]; rfl)
  rw [Go.WideShapes.add_plain, Nat.zero_add] at hc
  refine ⟨g, rfl, hb, hg, by rw [hc, List.getD_eq_getElem?_getD, List.getElem?_eq_getElem hil]; rfl, World.ownsRow.frozenAt h1 i, fun z => ⟨?_, by rw [List.length_set]⟩⟩
  have := (World.ownsRow.stored h1 i (.bool z)).1
  rw [List.length_set, List.map_set]
  exact this
theorem OwnK.same {w w' : World} {B n cap : Nat} {a : Option Addr} {l : List Bool} (h : OwnK w B a n cap l) (hs : ∀ k, k < w.heap.size → (Value.slice a n cap).ownBlock = some k → w'.heap[k]? = w.heap[k]?) : OwnK w' B a n cap l := ⟨ownsRow_same h.1 hs, h.2⟩
theorem OwnK.made (w : World) (n : Nat) (hn : n ≤ 4194304) : OwnK (w.alloc (.cells (madeCells #[.bool false] n) 4)) w.heap.size (some ⟨w.heap.size, 0, none⟩) n n (List.replicate n false) := by
  refine ⟨⟨by simp, .inr ⟨w.heap.size, n, _, by simp, Nat.le_refl _, heap_alloc_new w _, by simp, by unfold maxLen; omega, ?_, ?_⟩⟩, by simp⟩
  · unfold madeCells; simp
  · unfold madeCells
    apply List.ext_getElem?
    intro i
    simp [List.getElem?_take, List.getElem?_replicate]
    split
    · next h => rw [List.getElem?_range h]; simp [Nat.mod_one]
    · rfl
theorem belowN {B : Nat} {a w : World} (h : Below B a w) (n : Nat) : Below B a (w.drewN n) := ⟨h.os, h.tape, h.output, h.size, h.block⟩
theorem all_true {sf : List Bool} {n : Nat} (hl : sf.length = n) (h : ∀ k, k < n → sf[k]? = some true) : sf = List.replicate n true := by
  apply List.ext_getElem?
  intro k
  rw [List.getElem?_replicate]
  split
  · next hk => exact h k hk
  · rw [List.getElem?_eq_none (by omega)]
theorem box6 {w : World} {b : Nat} {a0 a1 a2 a3 a4 a5 : Value} {t : TypeId} (hb : w.heap[b]? = some (.cells #[a0, a1, a2, a3, a4, a5] t (0, 0))) : w.cell? ⟨b, 0, none⟩ = some a0 ∧ w.cell? ⟨b, 1, none⟩ = some a1 ∧ w.cell? ⟨b, 2, none⟩ = some a2 ∧ w.cell? ⟨b, 3, none⟩ = some a3 ∧ w.cell? ⟨b, 4, none⟩ = some a4 ∧ w.cell? ⟨b, 5, none⟩ = some a5 := by
  unfold World.cell?
  simp [hb]
/-- What is kept of memory through the later part of the statement: the disk, the row of truths, the bytes of before. -/
structure Keeps (w0 w : World) (g : Nat) (s : St) (B1 B2 : Nat) (aw : Option Addr) (was : List UInt8) (asf : Option Addr) (n cap : Nat) (sf : List Bool) : Prop where
  disk : AtX w0 w g s (fun k => B1 ≤ k ∧ k < B2)
  was : BRd w aw was
  wasB : ∀ a, aw = some a → B1 ≤ a.block ∧ a.block < B2
  row : OwnK w B1 asf n cap sf
  rowB : ∀ k, (Value.slice asf n cap).ownBlock = some k → B1 ≤ k ∧ k < B2
  apart : ∀ a, aw = some a → (Value.slice asf n cap).ownBlock ≠ some a.block
  size : B2 ≤ w.heap.size
  low : w0.heap.size ≤ B1
theorem Keeps.below {w0 w w' : World} {g B1 B2 n cap : Nat} {s : St} {aw asf : Option Addr} {was : List UInt8} {sf : List Bool} (h : Keeps w0 w g s B1 B2 aw was asf n cap sf) (hb : Below w.heap.size w w') : Keeps w0 w' g s B1 B2 aw was asf n cap sf :=
  ⟨h.disk.fr (G := fun _ => False) (.of_below hb) fun _ _ h => h.elim, h.was.below hb, h.wasB, h.row.same fun k hk _ => hb.block k hk, h.rowB, h.apart, Nat.le_trans h.size hb.size, h.low⟩
theorem Keeps.set {w0 w : World} {g B1 B2 n cap q i : Nat} {s : St} {aw asf : Option Addr} {was : List UInt8} {sf : List Bool} (h : Keeps w0 w g s B1 B2 aw was asf n cap sf) (hq : asf = some ⟨q, 0, none⟩) (hi : i < n) (z : Bool) : Keeps w0 (w.setCell ⟨q, i, none⟩ (.bool z)) g s B1 B2 aw was asf n cap (sf.set i z) := by
  have hqb := h.rowB q (by rw [hq]; rfl)
  have hf : Fr (fun k => k = q) w (w.setCell ⟨q, i, none⟩ (.bool z)) := Fr.set _ _ _ _ rfl
  obtain ⟨g', e, _, _, _, _, hst⟩ := h.row.at i hi
  rw [hq] at e
  obtain rfl : q = g' := by simpa using e
  refine ⟨h.disk.fr hf fun k _ hk => ⟨by rw [hk]; exact hqb, by rw [hk]; have := h.low; omega⟩, h.was.fr hf fun a ha e => h.apart a ha (by rw [hq, e]; rfl), h.wasB, hst z, h.rowB, h.apart, by simpa [World.setCell] using h.size, h.low⟩
theorem writeK {w0 w W : World} {g B1 B2 n cap : Nat} {s : St} {aw asf : Option Addr} {was : List UInt8} {sf : List Bool} (f k : Int) (A : Option Addr) (c m : Nat) (b : List UInt8) (h : Keeps w0 w g s B1 B2 aw was asf n cap sf) (hW : Below w.heap.size w W) (hA : BRd w A b) (hn : m = b.length) (hb : b.length ≤ 140737488355328) (hlim : s.pcs.length + 4194304 ≤ 8000000000000) :
    Calls Try.prog 19 #[.pointer (some ⟨g, 0, none⟩), .int .i64 f, .int .i64 k, .slice A m c] W fun e w' => e = .returned (.int .i64 (s.write f k b).2) ∧ Keeps w0 w' g (s.write f k b).1 B1 B2 aw was asf n cap sf ∧ ∀ k, w.heap.size ≤ k → k < W.heap.size → w'.heap[k]? = W.heap[k]? := by
  subst hn
  have hlt := h.disk
  obtain ⟨v, pc, qs, kp, hd, hF, h0, hX⟩ := hlt
  have hq : s.pcs.length = qs.length := by rw [hd.names, List.length_map]
  have hltd := hd.core.lt (Array.getElem?_eq_some_iff.1 hd.box).1
  have hK := h.below hW
  refine (write_any g f k A c b W v pc qs kp s (hd.below hW) (hA.below hW) hb (by omega)).mono fun e w' hT => ?_
  obtain ⟨h1, ⟨v', pc', qs', kp', i1, i2, i3, i4⟩, h3⟩ := AtX.turned hF (bt h0 hW) hX hT
  have hs := hK.size
  exact ⟨h1, ⟨⟨v', pc', qs', kp', i1, i2, i3, fun k hk => i4 k ⟨hk, by omega⟩⟩, hK.was.fr h3 fun a ha hd => hX _ (hK.wasB a ha) (.inl hd), hK.wasB, hK.row.same fun k hk e => h3.block k hk fun hd => hX k (hK.rowB k e) (.inl hd), hK.rowB, hK.apart, Nat.le_trans hK.size h3.size, hK.low⟩, fun k hk hk2 => h3.block k hk2 fun hd => by have := hltd k (.inl hd); omega⟩
theorem truncateK {w0 w W : World} {g B1 B2 n cap : Nat} {s : St} {aw asf : Option Addr} {was : List UInt8} {sf : List Bool} (f k : Int) (h : Keeps w0 w g s B1 B2 aw was asf n cap sf) (hW : Below w.heap.size w W) (hlim : s.pcs.length + 4194304 ≤ 8000000000000) :
    Calls Try.prog 22 #[.pointer (some ⟨g, 0, none⟩), .int .i64 f, .int .i64 k] W fun e w' => e = .returned (.int .i64 (s.truncate f k).2) ∧ Keeps w0 w' g (s.truncate f k).1 B1 B2 aw was asf n cap sf ∧ ∀ k, w.heap.size ≤ k → k < W.heap.size → w'.heap[k]? = W.heap[k]? := by
  have hlt := h.disk
  obtain ⟨v, pc, qs, kp, hd, hF, h0, hX⟩ := hlt
  have hq : s.pcs.length = qs.length := by rw [hd.names, List.length_map]
  have hltd := hd.core.lt (Array.getElem?_eq_some_iff.1 hd.box).1
  have hK := h.below hW
  refine (truncate_any g f k W v pc qs kp s (hd.below hW) (by omega)).mono fun e w' hT => ?_
  obtain ⟨h1, ⟨v', pc', qs', kp', i1, i2, i3, i4⟩, h3⟩ := AtX.turned hF (bt h0 hW) hX hT
  have hs := hK.size
  exact ⟨h1, ⟨⟨v', pc', qs', kp', i1, i2, i3, fun k hk => i4 k ⟨hk, by omega⟩⟩, hK.was.fr h3 fun a ha hd => hX _ (hK.wasB a ha) (.inl hd), hK.wasB, hK.row.same fun k hk e => h3.block k hk fun hd => hX k (hK.rowB k e) (.inl hd), hK.rowB, hK.apart, Nat.le_trans hK.size h3.size, hK.low⟩, fun k hk hk2 => h3.block k hk2 fun hd => by have := hltd k (.inl hd); omega⟩
theorem crashK {w0 w : World} {g B1 B2 n cap : Nat} {s : St} {aw asf : Option Addr} {was : List UInt8} {sf : List Bool} (A : Option Addr) (c m : Nat) (ks : List Bool) (h : Keeps w0 w g s B1 B2 aw was asf n cap sf) (hA : KRd w A ks) (hn : m = ks.length) (hAF : 0 < ks.length → ∀ a, A = some a → a.block < w0.heap.size) (hlim : s.pcs.length ≤ 8000000000000) :
    Calls Try.prog 23 #[.pointer (some ⟨g, 0, none⟩), .slice A m c] w fun e w' => e = .returned (.int .i64 (s.crashed ks).2) ∧ Keeps w0 w' g (s.crashed ks).1 B1 B2 aw was asf n cap sf := by
  subst hn
  obtain ⟨v, pc, qs, kp, hd, hF, h0, hX⟩ := h.disk
  have hq : s.pcs.length = qs.length := by rw [hd.names, List.length_map]
  refine (crash_turned g A c ks w v pc qs kp s hd hA (fun h0 a ha hk => by have h1 := hF _ hk; have h2 := hAF h0 a ha; omega) (by omega)).mono fun e w' hT => ?_
  obtain ⟨h1, ⟨v', pc', qs', kp', i1, i2, i3, i4⟩, h3⟩ := AtX.turned hF h0 hX hT
  have hs := h.size
  exact ⟨h1, ⟨v', pc', qs', kp', i1, i2, i3, fun k hk => i4 k ⟨hk, by omega⟩⟩, h.was.fr h3 fun a ha hd => hX _ (h.wasB a ha) (.inl hd), h.wasB, h.row.same fun k hk e => h3.block k hk fun hd => hX k (h.rowB k e) (.inl hd), h.rowB, h.apart, Nat.le_trans h.size h3.size, h.low⟩
theorem restartK {w0 w : World} {g B1 B2 n cap : Nat} {s : St} {aw asf : Option Addr} {was : List UInt8} {sf : List Bool} (h : Keeps w0 w g s B1 B2 aw was asf n cap sf) :
    Calls Try.prog 15 #[.pointer (some ⟨g, 0, none⟩)] w fun e w' => e = .returned (.int .i64 0) ∧ Keeps w0 w' g s.restart B1 B2 aw was asf n cap sf := by
  obtain ⟨v, pc, qs, kp, hd, hF, h0, hX⟩ := h.disk
  refine (restart_turned g w v pc qs kp s hd).mono fun e w' hT => ?_
  obtain ⟨h1, ⟨v', pc', qs', kp', i1, i2, i3, i4⟩, h3⟩ := AtX.turned hF h0 hX hT
  have hs := h.size
  exact ⟨h1, ⟨v', pc', qs', kp', i1, i2, i3, fun k hk => i4 k ⟨hk, by omega⟩⟩, h.was.fr h3 fun a ha hd => hX _ (h.wasB a ha) (.inl hd), h.wasB, h.row.same fun k hk e => h3.block k hk fun hd => hX k (h.rowB k e) (.inl hd), h.rowB, h.apart, Nat.le_trans h.size h3.size, h.low⟩

set_option maxHeartbeats 12800000 in
set_option maxRecDepth 100000 in
theorem diskSure_walk (A1 A2 K : Option Addr) (c1 c2 kc : Nat) (o1 o2 : List OpV) (ks : List Bool) (w : World) (h1 : OpsRd w A1 o1) (r1 : ∀ o ∈ o1, o.Reads w) (h2 : OpsRd w A2 o2) (r2 : ∀ o ∈ o2, o.Reads w) (hK : KRd w K ks) (hb1 : bulkO o1 ≤ 1048576) (hb2 : bulkO o2 ≤ 1048576) :
    Calls Try.prog 5 #[.slice A1 o1.length c1, .slice A2 o2.length c2, .slice K ks.length kc] w fun e w' => e = .returned (.bool true) ∧ Below w.heap.size w w' := by
  have H1 := Lib.hid h1
  have H2 := Lib.hid h2
  have R1 := Lib.hid r1
  have R2 := Lib.hid r2
  have HK := Lib.hid hK
  have HB1 := Lib.hid hb1
  have HB2 := Lib.hid hb2
  have hl1 : (o1.length : Int) ≤ 1048576 := by have := bulkO_len o1; omega
  have hl2 : (o2.length : Int) ≤ 1048576 := by have := bulkO_len o2; omega
  have HN := Lib.hid (new_at w w (Below.refl _ _))
  clear h1 h2 r1 r2 hK hb1 hb2
  go_enter Try.func5, Try.ntmps5
  go_wp2_with fail
  refine HN.out.mono ?_
  rintro e w1 ⟨g, rfl, h1⟩
  have D1 := Lib.hid h1
  clear h1
  go_wp2_with fail
  refine (begun_any _).mono ?_
  rintro e w2 ⟨rfl, h2⟩
  have D2 := Lib.hid (D1.out.below h2)
  clear h2
  go_wp2_with fail
  go_loopw [31] (fun idx wr => ∃ (j : Nat) (s : St), j ≤ o1.length ∧ idx = .int .i64 (j : Int) ∧ At w wr g s ∧ Calm s (bulkO (o1.take j))) (fun idx _ => o1.length - (intOf idx).toNat)
  case atStart => exact ⟨0, St.new, by omega, rfl, D2.out, rfl, rfl, by simp [St.new]⟩
  case round =>
    obtain ⟨j, s, hj, rfl, hat, hcalm⟩ := hrel
    have HAT := Lib.hid hat
    have HCA := Lib.hid hcalm
    clear hat hcalm
    by_cases hjn : j < o1.length
    · obtain ⟨ga, off, rfl, hga, k0, k1, k2, k3, k4, k5⟩ := (H1.out.below HAT.out.bel).cells j hjn
      have hr := (R1.out o1[j] (List.getElem_mem _)).below HAT.out.bel
      have HS := Lib.hid (bulkO_take o1 j hjn)
      have HM := Lib.hid (bulkO_mem (List.getElem_mem hjn))
      have HLE := Lib.hid (bulkO_le o1 (j + 1))
      have HW := Lib.hid (fun (W : World) (hW : Below wr.heap.size wr W) => write_at (w0 := w) (w := W) (s := s) o1[j].f o1[j].k o1[j].A o1[j].ac o1[j].b.length o1[j].b (HAT.out.below hW) (hr.b.below hW) rfl (by have := HM.out; have := HB1.out; omega) (by have := HCA.out.2.2; have := bulkO_le o1 j; have := HB1.out; omega))
      have HCW := Lib.hid (HCA.out.write o1[j].f o1[j].k o1[j].b)
      clear hr
      generalize o1[j] = o at *
      go_wp2_with fail
      refine (HW.out _ (alloc_below _ _)).mono ?_
      rintro e w3 ⟨rfl, h3⟩
      have D3 := Lib.hid h3
      clear h3 HW
      go_wp2_with fail
      go_roundw
      case measure => simp only [intOf]; omega
      case rel => exact ⟨j + 1, _, hjn, rfl, D3.out, HCW.out.1, HCW.out.2.1, by have := HCW.out.2.2; have := HS.out; omega⟩
    · have hjn' : j = o1.length := by omega
      subst hjn'
      clear hj
      obtain ⟨y1, y2, y3, y4⟩ := HCA.out.sync
      have HSY := Lib.hid (sync_at (w0 := w) 0 HAT.out (by have := HCA.out.2.2; have := bulkO_le o1 o1.length; have := HB1.out; omega))
      rw [y1] at HSY
      have HL := Lib.hid y2
      have HPL : Hid ((s.sync 0).1.pcs.length ≤ 1048576) := Nat.le_trans y3 (Nat.le_trans (bulkO_le o1 _) HB1.out)
      have HRD := Lib.hid y4
      have HWL : Hid ((s.now 0).length ≤ 4194304) := by
        obtain ⟨_, _, _, _, hd, _⟩ := HAT.out
        exact hd.ok.now 0
      clear y1 y2 y3 y4 HCA
      generalize hS2 : (s.sync 0).1 = s2 at *
      generalize s.now 0 = was at *
      rename World => WA
      go_wp2_with fail
      refine HSY.out.mono ?_
      rintro e w4 ⟨rfl, h4⟩
      have D4 := Lib.hid h4
      clear h4
      have HRA := Lib.hid (read_at 0 0 4194304 D4.out)
      rw [HRD.out, List.take_of_length_le HWL.out] at HRA
      go_wp2_with fail
      refine HRA.out.mono ?_
      rintro e w5 ⟨v5, rfl, ho5, hb5⟩
      obtain ⟨aw, kw, rfl, -, -⟩ := ho5.slice
      have O5 := Lib.hid ho5
      have B5 := Lib.hid hb5
      obtain ⟨n, hn⟩ : ∃ n, n = was.length := ⟨_, rfl⟩
      have HNW := Lib.hid hn
      have hnm : (n : Int) ≤ 4194304 := by have := HWL.out; omega
      have hmk := run_make_row' (P := Try.prog) 29 4 (.bool false) 1 Try.underlying29 boolInfo rfl .i64 .i64 n (by omega) (by omega)
      simp only [← hn]
      clear ho5 hb5 hn
      have O6 := Lib.hid (OwnK.made w5 n (by omega))
      have D6 : Hid (AtX w (w5.alloc (.cells (madeCells #[.bool false] n) 4)) g s2 (fun k => w4.heap.size ≤ k ∧ k < w5.heap.size + 1)) := by
        obtain ⟨v, pc, qs, kp, i1, i2, i3, i4⟩ := D4.out.x (bt B5.out (alloc_below w5 (.cells (madeCells #[.bool false] n) 4)))
        exact ⟨v, pc, qs, kp, i1, i2, i3, fun k hk => i4 k hk.1⟩
      have K6 : Hid (Keeps w (w5.alloc (.cells (madeCells #[.bool false] n) 4)) g s2 w4.heap.size (w5.heap.size + 1) aw was (some ⟨w5.heap.size, 0, none⟩) n n (List.replicate n false)) := by
        refine ⟨D6.out, O5.out.brd.alloc _, fun a ha => ?_, ?_, fun k hk => ?_, fun a ha e => ?_, by simp, D4.out.bel.size⟩
        · have := O5.out.lt a.block (by rw [ha]; rfl)
          omega
        · have := O6.out
          refine ⟨?_, by simp⟩
          have h8 := this.1
          refine ⟨h8.1, ?_⟩
          rcases h8.2 with h9 | ⟨q, cap, cur, e1, e2, e3⟩
          · exact .inl h9
          · exact .inr ⟨q, cap, cur, e1, Nat.le_trans B5.out.size e2, e3⟩
        · simp [Value.ownBlock] at hk
          have := B5.out.size
          omega
        · have := O5.out.lt a.block (by rw [ha]; rfl)
          simp [Value.ownBlock] at e
          omega
      clear D6 O6 O5
      go_wp2_with fail
      clear hmk
      generalize w5.alloc (.cells (madeCells #[.bool false] n) 4) = w6 at *
      have hqB2 : w5.heap.size < w5.heap.size + 1 := Nat.lt_succ_self _
      generalize w5.heap.size = q at *
      go_loopw [57] (fun idx wr => ∃ (i : Nat) (sf : List Bool), i ≤ n ∧ idx = .int .i64 (i : Int) ∧ Keeps w wr g s2 w4.heap.size (q + 1) aw was (some ⟨q, 0, none⟩) n n sf ∧ ∀ k, k < i → sf[k]? = some true) (fun idx _ => n - (intOf idx).toNat)
      case atStart => exact ⟨0, _, by omega, rfl, K6.out, fun k hk => by omega⟩
      case round =>
        clear K6
        obtain ⟨i, sf, hi, rfl, hK, hsf⟩ := hrel
        have KK := Lib.hid hK
        have HSF := Lib.hid hsf
        by_cases hin : i < n
        · obtain ⟨g', e, hgB, hgl, hc, hfz, -⟩ := hK.row.at i hin
          obtain rfl : q = g' := by simpa using e
          have HKS := Lib.hid (hK.set rfl hin true)
          have hinI : (i : Int) < (n : Int) := by omega
          clear hK hsf e
          go_wp2_with fail
          go_roundw
          case measure => simp only [intOf]; omega
          case rel =>
            refine ⟨i + 1, _, hin, rfl, HKS.out, fun k hk => ?_⟩
            rw [List.getElem?_set]
            split
            · next h =>
              subst h
              rw [if_pos (by have := KK.out.row.2; omega)]
            · exact HSF.out k (by omega)
        · obtain rfl : i = n := by omega
          have hsn := all_true KK.out.row.2.symm hsf
          have K7 : Hid (Keeps w wr g s2 w4.heap.size (q + 1) aw was (some ⟨q, 0, none⟩) i i (List.replicate i true)) := by rw [← hsn]; exact KK.out
          have L7 : Hid (Looks s2 was (List.replicate i true) i) := by have := HL.out; rw [← HNW.out] at this; exact this
          clear hK hsf HSF KK hsn hi hin HL
          rename World => WB
          go_wp2_with fail
          go_loopw [14, 68] (fun lst idx wr => ∃ (j : Nat) (s : St) (sf : List Bool) (L : Nat), j ≤ o2.length ∧ lst = .int .i64 (L : Int) ∧ idx = .int .i64 (j : Int) ∧ Keeps w wr g s w4.heap.size (q + 1) aw was (some ⟨q, 0, none⟩) i i sf ∧ Looks s was sf L ∧ s.pcs.length ≤ 1048576 + bulkO (o2.take j)) (fun _ idx _ => o2.length - (intOf idx).toNat)
          case atStart => exact ⟨0, s2, _, i, by omega, rfl, rfl, K7.out, L7.out, by have := HPL.out; simp [bulkO]; omega⟩
          case round =>
            clear K7 L7
            obtain ⟨j, s, sf, L, hj, rfl, rfl, hK, hL, hP⟩ := hrel
            have KK := Lib.hid hK
            have LL := Lib.hid hL
            have PP := Lib.hid hP
            by_cases hjn : j < o2.length
            · obtain ⟨ga, off, rfl, hga, k0, k1, k2, k3, k4, k5⟩ := (H2.out.below hK.disk.at.bel).cells j hjn
              have hr := (R2.out o2[j] (List.getElem_mem _)).below hK.disk.at.bel
              have HS := Lib.hid (bulkO_take o2 j hjn)
              have HM := Lib.hid (bulkO_mem (List.getElem_mem hjn))
              have HP2 : Hid (s.pcs.length + 4194304 ≤ 8000000000000) := by have := bulkO_le o2 j; have := HB2.out; have := PP.out; show _ ≤ _; omega
              have HRB := Lib.hid hr.b
              clear hK hL hP hr
              generalize o2[j] = o at *
              have hLI : (L : Int) ≤ 4194304 := by have := LL.out.least; have := HWL.out; omega
              by_cases hd1 : o.d = 1
              · rw [hd1] at k0
                have HT := Lib.hid (fun (W : World) (hW : Below wr.heap.size wr W) => truncateK (W := W) o.f o.k KK.out hW HP2.out)
                have HLT := Lib.hid (LL.out.truncate o.f o.k)
                clear hd1
                obtain ⟨R, hR⟩ : ∃ R, R = (s.truncate o.f o.k).2 := ⟨_, rfl⟩
                rw [← hR] at HT HLT
                by_cases hc : R = 0 ∧ o.f = 0
                · obtain ⟨hc0, hc1⟩ := hc
                  obtain ⟨hk0, hlk⟩ := HLT.out.1 hc0 hc1
                  have HLK := Lib.hid hlk
                  rw [hc0] at HT
                  have HLE := Lib.hid HLT.out.2.2
                  have HC1 := Lib.hid hc1
                  rw [hc1] at k1 HT
                  obtain ⟨kn, hkn⟩ : ∃ kn : Nat, o.k = (kn : Int) := ⟨o.k.toNat, by omega⟩
                  have hmin : min (L : Int) o.k = ((min L o.k.toNat : Nat) : Int) := by omega
                  clear hc0 hR hlk hkn hk0 hc1
                  go_wp2_with fail
                  refine (HT.out _ (alloc_below _ _)).mono ?_
                  rintro e w3 ⟨rfl, hk3, hbx⟩
                  obtain ⟨b0, b1, b2, b3, b4, b5⟩ := box6 ((hbx wr.heap.size (Nat.le_refl _) (by simp)).trans (heap_alloc_new wr _))
                  have K3 := Lib.hid hk3
                  clear hk3 hbx HT
                  go_wp2_with fail
                  go_roundw
                  case measure => simp only [intOf]; omega
                  case rel => exact ⟨j + 1, _, sf, min L o.k.toNat, hjn, rfl, rfl, K3.out, by rw [← HC1.out]; exact HLK.out, by rw [← HC1.out]; have := HLE.out; have := HS.out; have := PP.out; omega⟩
                · have HLK := Lib.hid (HLT.out.2.1 hc)
                  have HLE := Lib.hid HLT.out.2.2
                  by_cases hR0 : R = 0
                  · have hfn : ¬ o.f = 0 := fun h => hc ⟨hR0, h⟩
                    rw [hR0] at HT
                    clear hc hR0 hR HLT
                    go_wp2_with fail
                    refine (HT.out _ (alloc_below _ _)).mono ?_
                    rintro e w3 ⟨rfl, hk3, hbx⟩
                    obtain ⟨b0, b1, b2, b3, b4, b5⟩ := box6 ((hbx wr.heap.size (Nat.le_refl _) (by simp)).trans (heap_alloc_new wr _))
                    have K3 := Lib.hid hk3
                    clear hk3 hbx HT
                    go_wp2_with fail
                    go_roundw
                    case measure => simp only [intOf]; omega
                    case rel => exact ⟨j + 1, _, sf, L, hjn, rfl, rfl, K3.out, HLK.out, by have := HLE.out; have := HS.out; have := PP.out; omega⟩
                  · clear hc hR HLT
                    go_wp2_with fail
                    refine (HT.out _ (alloc_below _ _)).mono ?_
                    rintro e w3 ⟨rfl, hk3, hbx⟩
                    obtain ⟨b0, b1, b2, b3, b4, b5⟩ := box6 ((hbx wr.heap.size (Nat.le_refl _) (by simp)).trans (heap_alloc_new wr _))
                    have K3 := Lib.hid hk3
                    clear hk3 hbx HT
                    go_wp2_with fail
                    go_roundw
                    case measure => simp only [intOf]; omega
                    case rel => exact ⟨j + 1, _, sf, L, hjn, rfl, rfl, K3.out, HLK.out, by have := HLE.out; have := HS.out; have := PP.out; omega⟩
              · have HT := Lib.hid (fun (W : World) (hW : Below wr.heap.size wr W) => writeK (W := W) o.f o.k o.A o.ac o.b.length o.b KK.out hW HRB.out rfl (by have := HM.out; have := HB2.out; omega) HP2.out)
                have HLT := Lib.hid (LL.out.write o.f o.k o.b)
                have HBL : Hid (o.b.length ≤ 1048576) := by have := HM.out; have := HB2.out; show _ ≤ _; omega
                have hblI : (o.b.length : Int) ≤ 1048576 := by have := HBL.out; omega
                obtain ⟨R, hR⟩ : ∃ R, R = (s.write o.f o.k o.b).2 := ⟨_, rfl⟩
                rw [← hR] at HT HLT
                by_cases hc : R = 0 ∧ o.f = 0
                · obtain ⟨hc0, hc1⟩ := hc
                  obtain ⟨hk0, hlk, hfit⟩ := HLT.out.1 hc0 hc1
                  have HLK := Lib.hid hlk
                  have HFT := Lib.hid hfit
                  have HLE := Lib.hid HLT.out.2.2
                  rw [hc0] at HT
                  rw [hc1] at k1
                  obtain ⟨kn, hkn⟩ : ∃ kn : Nat, kn = o.k.toNat := ⟨_, rfl⟩
                  have hkI : o.k = (kn : Int) := by omega
                  rw [← hkn] at HLK HFT
                  rw [hkI] at k2
                  have HKI := Lib.hid hkI
                  rw [hc1] at HT
                  have HC1 := Lib.hid hc1
                  rw [hkI] at HT
                  clear hc0 hR hlk hk0 hfit hkn hkI HLT hc1
                  go_wp2_with fail
                  refine (HT.out _ (alloc_below _ _)).mono ?_
                  rintro e w3 ⟨rfl, hk3, hbx⟩
                  obtain ⟨b0, b1, b2, b3, b4, b5⟩ := box6 ((hbx wr.heap.size (Nat.le_refl _) (by simp)).trans (heap_alloc_new wr _))
                  have K3 := Lib.hid hk3
                  clear hk3 hbx HT
                  have hsz3 : q + 1 ≤ wr.heap.size := KK.out.size
                  generalize wr.heap.size = bx at *
                  have K4 : Hid (Keeps w w3 g (s.write o.f o.k o.b).1 w4.heap.size (q + 1) aw was (some ⟨q, 0, none⟩) i i sf) := by show Keeps _ _ _ _ _ _ _ _ _ _ _ _; rw [HC1.out, HKI.out]; exact K3.out
                  clear K3 k0 k1 k2 k3 k4 k5
                  rename World => WC
                  go_wp2_with fail
                  go_loopw [108] (fun idx wr => ∃ m : Nat, m ≤ o.b.length ∧ idx = .int .i64 (m : Int) ∧ Keeps w wr g (s.write o.f o.k o.b).1 w4.heap.size (q + 1) aw was (some ⟨q, 0, none⟩) i i (unsafeAt kn m sf) ∧ wr.cell? ⟨bx, 2, none⟩ = some (.int .i64 (kn : Int))) (fun idx _ => o.b.length - (intOf idx).toNat)
                  case atStart => exact ⟨0, by omega, rfl, K4.out, b2⟩
                  case round =>
                    clear K4 b0 b1 b2 b3 b4 b5
                    obtain ⟨m, hm, rfl, hK5, b2⟩ := hrel
                    have K5 := Lib.hid hK5
                    have hbxl : bx < wr.heap.size := World.block_lt_of_cell? _ _ b2
                    clear hK5
                    by_cases hmn : m < o.b.length
                    · have hfit := HFT.out (by omega)
                      have x0 : (kn : Int) + m ≤ 4194304 := by omega
                      have x1 : (0 : Int) ≤ (kn : Int) := by omega
                      have HFI := Lib.hid hfit
                      by_cases hkn : kn + m < i
                      · obtain ⟨g', e, hgB, hgl, hcc, hfz, -⟩ := K5.out.row.at (kn + m) hkn
                        obtain rfl : q = g' := by simpa using e
                        have HKS := Lib.hid (K5.out.set rfl hkn false)
                        obtain ⟨p, hp⟩ : ∃ p : Nat, p = kn + m := ⟨_, rfl⟩
                        have hpI : (kn : Int) + m = (p : Int) := by omega
                        rw [← hp] at hcc HKS hkn
                        have hfzp := hfz
                        rw [← hp] at hfzp
                        have hkI2 : (p : Int) < (i : Int) := by omega
                        have hne : q ≠ bx := by omega
                        have HPP := Lib.hid hp
                        have HB2' : Hid ((wr.setCell ⟨q, p, none⟩ (.bool false)).cell? ⟨bx, 2, none⟩ = some (.int .i64 (kn : Int))) := by
                          show _ = _
                          rw [World.cell?_setCell_other _ _ _ _ (by intro e; simp at e; first | done | exact hne e.1 | exact hne e)]
                          exact b2
                        clear e hfit hfz hp
                        go_wp2_with fail
                        go_roundw
                        case measure => simp only [intOf]; omega
                        case rel => exact ⟨m + 1, hmn, rfl, by rw [unsafeAt, ← HPP.out]; exact HKS.out, HB2'.out⟩
                      · have hkI2 : ¬ (kn : Int) + m < (i : Int) := by omega
                        have HFR := Lib.hid (unsafe_set_far kn m sf (by have := KK.out.row.2; omega))
                        clear hfit hkn
                        go_wp2_with fail
                        go_roundw
                        case measure => simp only [intOf]; omega
                        case rel => exact ⟨m + 1, hmn, rfl, by rw [HFR.out]; exact K5.out, b2⟩
                    · obtain rfl : m = o.b.length := by omega
                      go_wp2_with fail
                      go_roundw
                      case measure => simp only [intOf]; omega
                      case rel => exact ⟨j + 1, _, _, L, hjn, rfl, rfl, K5.out, HLK.out, by have := HLE.out; have := HS.out; have := PP.out; omega⟩
                · have HLK := Lib.hid (HLT.out.2.1 hc)
                  have HLE := Lib.hid HLT.out.2.2
                  by_cases hR0 : R = 0
                  · have hfn : ¬ o.f = 0 := fun h => hc ⟨hR0, h⟩
                    rw [hR0] at HT
                    clear hc hR0 hR HLT
                    go_wp2_with fail
                    refine (HT.out _ (alloc_below _ _)).mono ?_
                    rintro e w3 ⟨rfl, hk3, hbx⟩
                    obtain ⟨b0, b1, b2, b3, b4, b5⟩ := box6 ((hbx wr.heap.size (Nat.le_refl _) (by simp)).trans (heap_alloc_new wr _))
                    have K3 := Lib.hid hk3
                    clear hk3 hbx HT
                    go_wp2_with fail
                    go_roundw
                    case measure => simp only [intOf]; omega
                    case rel => exact ⟨j + 1, _, sf, L, hjn, rfl, rfl, K3.out, HLK.out, by have := HLE.out; have := HS.out; have := PP.out; omega⟩
                  · clear hc hR HLT
                    go_wp2_with fail
                    refine (HT.out _ (alloc_below _ _)).mono ?_
                    rintro e w3 ⟨rfl, hk3, hbx⟩
                    obtain ⟨b0, b1, b2, b3, b4, b5⟩ := box6 ((hbx wr.heap.size (Nat.le_refl _) (by simp)).trans (heap_alloc_new wr _))
                    have K3 := Lib.hid hk3
                    clear hk3 hbx HT
                    go_wp2_with fail
                    go_roundw
                    case measure => simp only [intOf]; omega
                    case rel => exact ⟨j + 1, _, sf, L, hjn, rfl, rfl, K3.out, HLK.out, by have := HLE.out; have := HS.out; have := PP.out; omega⟩
            · obtain rfl : j = o2.length := by omega
              have HKA : Hid (0 < ks.length → ∀ a, K = some a → a.block < w.heap.size) := fun h0 a ha => by
                obtain ⟨gk, ok, e, hg, _⟩ := HK.out h0
                rw [e] at ha
                obtain rfl := Option.some.inj ha
                exact hg
              have HCR := Lib.hid (crashK K kc ks.length ks KK.out (HK.out.below hK.disk.at.bel) rfl HKA.out (by have := bulkO_le o2 o2.length; have := HB2.out; have := PP.out; omega))
              have hcr : s.crashed ks = (s.crash ks, 0) := by unfold St.crashed; rw [if_neg (by rw [hL.down]; simp)]
              rw [hcr] at HCR
              have HEN := Lib.hid (hL.end_ ks)
              have hLI : (L : Int) ≤ 4194304 := by have := LL.out.least; have := HWL.out; omega
              have HLI := Lib.hid (show L ≤ i by have := LL.out.least; have := HNW.out; omega)
              clear hK hL hP hcr
              rename World => WC
              go_wp2_with fail
              refine HCR.out.mono ?_
              rintro e w7 ⟨rfl, h7⟩
              have K8 := Lib.hid h7
              clear h7 HCR
              go_wp2_with fail
              refine (restartK K8.out).mono ?_
              rintro e w8 ⟨rfl, h8⟩
              have K9 := Lib.hid h8
              clear h8 K8
              have hml : ((s.crash ks).restart.now 0).length ≤ 4194304 := by
                obtain ⟨_, _, _, _, hd, _⟩ := K9.out.disk
                exact hd.ok.now 0
              have hrd : (s.crash ks).restart.read 0 0 4194304 = ((s.crash ks).restart.now 0, 0) := by
                unfold St.read
                rw [if_neg (by show ¬ (0 : Int) ≠ 0; omega), if_neg (by omega)]
                show (List.take 4194304 (List.drop 0 _), (0 : Int)) = _
                show (List.take 4194304 (List.drop 0 ((s.crash ks).restart.now 0)), (0 : Int)) = _
                rw [List.drop_zero, List.take_of_length_le hml]
              have HRR := Lib.hid (read_at 0 0 4194304 K9.out.disk.at)
              rw [hrd] at HRR
              have HML := Lib.hid hml
              clear hml hrd
              generalize (s.crash ks).restart = s9 at *
              generalize s9.now 0 = now at *
              go_wp2_with fail
              refine HRR.out.mono ?_
              rintro e w9 ⟨v9, rfl, ho9, hb9⟩
              obtain ⟨a9, k9, rfl, -, -⟩ := ho9.slice
              have R9 := Lib.hid ho9.brd
              have K10 := Lib.hid (K9.out.below hb9)
              have hlen : (L : Int) ≤ (now.length : Int) := by have := HEN.out.1; omega
              clear ho9 hb9 HRR K9
              go_wp2_with fail
              go_loopw [147] (fun idx wr => ∃ m : Nat, m ≤ L ∧ idx = .int .i64 (m : Int) ∧ Keeps w wr g s9 w4.heap.size (q + 1) aw was (some ⟨q, 0, none⟩) i i sf ∧ BRd wr a9 now) (fun idx _ => L - (intOf idx).toNat)
              case atStart => exact ⟨0, by omega, rfl, K10.out, R9.out⟩
              case round =>
                clear K10 R9
                obtain ⟨m, hm, rfl, hK5, hR5⟩ := hrel
                have K5 := Lib.hid hK5
                have R5 := Lib.hid hR5
                by_cases hmL : m < L
                · obtain ⟨g', e, hgB, hgl, hcc, hfz, -⟩ := hK5.row.at m (by have := HLI.out; omega)
                  obtain rfl : q = g' := by simpa using e
                  have hmn : m < now.length := by omega
                  have hmw : m < was.length := by have := HLI.out; have := HNW.out; omega
                  obtain ⟨g9, o9, rfl, hg9, hc9⟩ := hR5 (by omega)
                  obtain ⟨gw, ow, rfl, hgw, hcw⟩ := hK5.was (by omega)
                  have y9 := hc9 m hmn
                  have yw := hcw m hmw
                  have hmiI : (m : Int) < (i : Int) := by have := HLI.out; omega
                  have hmnI : (m : Int) < (now.length : Int) := by omega
                  have hiw : i = was.length := HNW.out
                  have hcmp : sf[m]? = some true → now[m] = was[m] := fun ht => by
                    have := HEN.out.2 m hmL ht
                    simpa [List.getD_eq_getElem?_getD, List.getElem?_eq_getElem hmn, List.getElem?_eq_getElem hmw] using this
                  have x0 : (0 : Int) ≤ (m : Int) := by omega
                  have x1 : 0 < i := by omega
                  have x2 : 0 < now.length := by omega
                  have hB0 : Below wr.heap.size wr wr := Below.refl _ _
                  cases hb : sf.getD m false with
                  | true =>
                    rw [hb] at hcc
                    have ht : sf[m]? = some true := by
                      rw [List.getD_eq_getElem?_getD] at hb
                      cases h : sf[m]? with
                      | none => simp [h] at hb
                      | some z => simp [h] at hb; rw [hb]
                    rw [hcmp ht] at y9
                    generalize (was[m].toNat : Int) = x at *
                    clear hK5 hR5 hc9 hcw hcmp hb e hfz ht hiw hgB hgl hg9 hgw
                    go_wp2_with fail
                    go_region_held3 (fun w' => w'.cell? ⟨q, m, none⟩ = some (.bool true) ∧ w'.cell? ⟨g9, o9 + m, none⟩ = some (.int .u8 x) ∧ w'.cell? ⟨gw, ow + m, none⟩ = some (.int .u8 x) ∧ Below wr.heap.size wr w')
                      (((try go_split_ands); refine ⟨?_, ?_, ?_, ?_⟩ <;> first | assumption | (with_reducible exact hB0.drew) | go_keep))
                      (fail)
                    rename_i hH
                    obtain ⟨-, -, -, hw2⟩ := hH
                    go_wp2_with fail
                    go_roundw
                    case measure => simp only [intOf]; omega
                    case rel => exact ⟨m + 1, hmL, rfl, K5.out.below hw2, R5.out.below hw2⟩
                  | false =>
                    rw [hb] at hcc
                    clear hK5 hR5 hc9 hcw hcmp hb e hfz hiw hgB hgl hg9 hgw y9 yw
                    go_wp2_with fail
                    go_quiet (fail)
                    go_wp2_with fail
                    go_roundw
                    case measure => simp only [intOf]; omega
                    case rel => exact ⟨m + 1, hmL, rfl, K5.out.below (belowN hB0 _), R5.out.below (belowN hB0 _)⟩
                · obtain rfl : m = L := by omega
                  go_wp2_with fail
                  go_ret
                  exact ⟨rfl, K5.out.disk.at.bel⟩

set_option maxRecDepth 100000 in
theorem diskSure_lifted (os : Os) (started : os.Started) (H : Type) (enc : TypeId × Value → H) (F : Stop.Interp) :
    ReturnsInHanded {} Try.checked os 5 .any ((Rows.OpenSpec.upto Rows.diskSureSpec).pre6 enc Try.prog Try.f5 Rows.diskSureUptoRow.domain false) (((Rows.OpenSpec.upto Rows.diskSureSpec).at F).post enc Try.prog Try.f5 false true false false) := by
  refine returnsInHanded_of_cond_sized (C := Try.checked) (s := Rows.OpenSpec.upto Rows.diskSureSpec) (k := Rows.uptoSmall) rfl own started (by kernel_rfl) Try.func5
    (OpenSpec.witness (enc := enc) (C := Try.checked) (s := Rows.OpenSpec.upto Rows.diskSureSpec) (k := Rows.uptoSmall) rfl false ⟨#[], #[.slice none 0 0, .slice none 0 0, .slice none 0 0], []⟩ 8 (by kernel_rfl) (by kernel_rfl) (by kernel_rfl)
      (x := ([.nil, .nil, .nil], [], [])) (by kernel_rfl) rfl (by kernel_rfl)) ?_
  intro W base args ds gs before hval0 hW _ hk0 hsz _
  have hk : Rows.uptoBulkAll (ds ++ gs) ≤ 1048576 := of_decide_eq_true hk0
  have hval : ∀ (j : Nat) t v, Try.f5.params[j]? = some t → args[j]? = some v → Value.okWide Try.prog W .any base t v := hval0
  have hW' := hW
  obtain ⟨p, q, hA0, hV, rfl, hfz, hnd⟩ := hW
  have hA : DataW.TrodAll enc Try.prog W 0 (fun _ => true) true Try.f5.params.toList args.toList ds p := hA0
  rw [Try.params5] at hA hval
  obtain ⟨v0, vs0, d0, ds0, p0, q0, hargs, rfl, rfl, h0, r0⟩ := trodAll_cons hA
  obtain ⟨v1, vs1, d1, ds1, p1, q1, rfl, rfl, rfl, h1, r1⟩ := trodAll_cons r0
  obtain ⟨v2, vs2, d2, ds2, p2, q2, rfl, rfl, rfl, h2, r2⟩ := trodAll_cons r1
  obtain ⟨rfl, rfl, rfl⟩ := trodAll_nil r2
  obtain rfl : args = #[v0, v1, v2] := by cases args; simp_all
  obtain ⟨rfl, rfl⟩ := trodVars_none hV
  simp only [List.append_nil] at hW' hk
  simp only [Rows.uptoBulkAll] at hk
  have hlt0 : ∀ x ∈ p0, x.block < W.heap.size := fun x hx => hW'.lt x (by simp [hx])
  have hlt1 : ∀ x ∈ p1, x.block < W.heap.size := fun x hx => hW'.lt x (by simp [hx])
  have hlt2 : ∀ x ∈ p2, x.block < W.heap.size := fun x hx => hW'.lt x (by simp [hx])
  have hreach : reachBytes ≤ 140737488351232 := by decide
  obtain ⟨A0, cap0, o1, rfl, hR0, rd0, hd0⟩ := open_ops (hval 0 22 v0 rfl rfl) h0
  have b0 : bulkO o1 ≤ Rows.uptoBulk d0 := (ops_bulk hd0).elim (fun h => by omega) fun h => by rw [h]; exact Nat.zero_le _
  obtain ⟨A1, cap1, o2, rfl, hR1, rd1, hd1⟩ := open_ops (hval 1 22 v1 rfl rfl) h1
  have b1 : bulkO o2 ≤ Rows.uptoBulk d1 := (ops_bulk hd1).elim (fun h => by omega) fun h => by rw [h]; exact Nat.zero_le _
  obtain ⟨A2, cap2, ks, rfl, hR2, hc2, hn2, hd2⟩ := open_bools_ (hval 2 29 v2 rfl rfl) h2
  have b2 : ks.length + 1 ≤ Rows.uptoBulk d2 ∨ ks.length = 0 := by
    rcases hd2 with h0 | ⟨el, sp, e, he⟩
    · exact .inr h0
    · rw [e, ← he]; simp only [Rows.uptoBulk]; have := bulk_all el; omega
  clear hA0 hval0
  refine (diskSure_walk A0 A1 A2 cap0 cap1 cap2 o1 o2 ks W hR0 rd0 hR1 rd1 hR2 (by omega) (by omega)).mono fun e W' ⟨he, hg⟩ => ?_
  subst he
  have hpost : Rows.diskSureSpec.post enc Try.prog Try.f5 false true false false W _ _ W' := post_of_below (pa := p0 ++ (p1 ++ (p2 ++ []))) (pv := []) hW' (fun _ _ _ => (trodAll_cons_mk (shut_bool Try.underlying4 _) trodAll_mk0)) (fun sp hsp => (trodAll_cons_mk (WideElems.Trod_stays laidOut (by kernel_rfl) (of_decide_eq_true (by kernel_rfl)) h0 (fun x hx => hg.same (hlt0 x hx)) (fun x hx => hsp x (by simp [hx]))) (trodAll_cons_mk (WideElems.Trod_stays laidOut (by kernel_rfl) (of_decide_eq_true (by kernel_rfl)) h1 (fun x hx => hg.same (hlt1 x hx)) (fun x hx => hsp x (by simp [hx]))) (trodAll_cons_mk (WideElems.Trod_stays laidOut (by kernel_rfl) (of_decide_eq_true (by kernel_rfl)) h2 (fun x hx => hg.same (hlt2 x hx)) (fun x hx => hsp x (by simp [hx]))) trodAll_mk0)))) (fun _ _ => rfl) (by simp) hg (ok_one (by kernel_rfl) rfl (okWide_bool_mk Try.underlying4 _))
  exact ⟨_, rfl, hpost⟩

theorem diskSure_holds : Rows.DiskSureUptoSaid :=
  OpenClaim.holds_of_cond 5 Try.f5 rfl rfl rfl rfl rfl rfl rfl ⟨rfl, rfl, rfl, rfl, rfl⟩ rfl rfl rfl rfl rfl (by kernel_rfl) Try.func5 (by kernel_rfl)
    (of_decide_eq_true (by kernel_rfl)) (by unfold Func.isWrapper; first | (rw [if_pos (by decide +kernel)]; kernel_rfl) | (rw [if_neg (by decide +kernel)]; exact ⟨rfl, rfl⟩))
    (fun os started H enc _ F => diskSure_lifted os started H enc F)
end Go.Proofs.Ytphemfhdiefjeaa
