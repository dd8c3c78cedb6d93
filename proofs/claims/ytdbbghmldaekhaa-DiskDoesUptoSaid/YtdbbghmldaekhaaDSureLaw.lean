/-
  DiskSure: what a file had when it was made sure, it has behind a crash, but where it was written or cut since. Condition: what comes in is of bulk at most 1048576.
-/
import Derived.Test.YtdbbghmldaekhaaDOwnLaw
import Derived.Test.YtdbbghmldaekhaaDSureM
import Derived.Deep.OwnRows
namespace Go.Proofs.Ytdbbghmldaekhaa
open Go.ChangeShapes Go.WideShapes Go.ChangeAt Go.RowKit Go.Deep
set_option linter.unusedVariables false

def bulkO : List OpV → Nat
  | [] => 0
  | o :: os => o.b.length + o.ks.length + 1 + bulkO os
theorem bulkO_app (a b : List OpV) : bulkO (a ++ b) = bulkO a + bulkO b := by
  induction a with
  | nil => simp [bulkO]
  | cons x a ih => simp [bulkO, ih]; omega
theorem bulkO_take (os : List OpV) (j : Nat) (h : j < os.length) : bulkO (os.take (j + 1)) = bulkO (os.take j) + (os[j].b.length + os[j].ks.length + 1) := by
  rw [List.take_succ_eq_append_getElem h, bulkO_app]
  simp [bulkO]
theorem bulkO_le (os : List OpV) (j : Nat) : bulkO (os.take j) ≤ bulkO os := by
  conv => rhs; rw [← List.take_append_drop j os, bulkO_app]
  omega
theorem bulkO_mem {os : List OpV} {o : OpV} (h : o ∈ os) : o.b.length + o.ks.length + 1 ≤ bulkO os := by
  induction os with
  | nil => cases h
  | cons x os ih =>
    rcases List.mem_cons.1 h with rfl | h
    · simp [bulkO]
    · have := ih h
      simp [bulkO]
      omega
theorem bulkO_len (os : List OpV) : os.length ≤ bulkO os := by
  induction os with
  | nil => simp
  | cons x os ih => simp [bulkO]; omega
theorem ops_bulk {H : Type} {d : DataW H} {os : List OpV} (h : os = [] ∨ ∃ (D : Nat → DataW H) (spare : List (DataW H)), d = .slice ((List.range os.length).map D) spare ∧ ∀ i (hi : i < os.length), os[i].Says (D i)) : bulkO os + 1 ≤ Rows.uptoBulk d ∨ os = [] := by
  rcases h with h | ⟨D, spare, rfl, hs⟩
  · exact .inr h
  · left
    simp only [Rows.uptoBulk]
    have key : ∀ (os : List OpV) (D : Nat → DataW H), (∀ i (hi : i < os.length), os[i].Says (D i)) → bulkO os ≤ Rows.uptoBulkAll ((List.range os.length).map D) := by
      intro os
      induction os with
      | nil => intro D _; simp [bulkO]
      | cons o os ih =>
        intro D hD
        have h0 := (hD 0 (by simp)).bulk
        have h1 := ih (fun i => D (i + 1)) fun i hi => hD (i + 1) (by simpa using hi)
        rw [List.length_cons, List.range_succ_eq_map, List.map_cons, List.map_map]
        simp only [bulkO, Rows.uptoBulkAll]
        have h2 : (List.range os.length).map (D ∘ Nat.succ) = (List.range os.length).map fun i => D (i + 1) := rfl
        rw [h2]
        simp only [List.getElem_cons_zero] at h0
        omega
    have := key os D hs
    omega
/-- The cells of an operation. -/
theorem OpsRd.cells {w : World} {A : Option Addr} {os : List OpV} (h : OpsRd w A os) (j : Nat) (hj : j < os.length) : ∃ g off, A = some ⟨g, off, none⟩ ∧ g < w.heap.size ∧ w.cell? ⟨g, off + j * 6, none⟩ = some (.int .i64 os[j].d) ∧ w.cell? ⟨g, off + j * 6 + 1, none⟩ = some (.int .i64 os[j].f) ∧ w.cell? ⟨g, off + j * 6 + 2, none⟩ = some (.int .i64 os[j].k) ∧ w.cell? ⟨g, off + j * 6 + 3, none⟩ = some (.int .i64 os[j].n) ∧
    w.cell? ⟨g, off + j * 6 + 4, none⟩ = some (.slice os[j].A os[j].b.length os[j].ac) ∧ w.cell? ⟨g, off + j * 6 + 5, none⟩ = some (.slice os[j].K os[j].ks.length os[j].kc) := by
  obtain ⟨g, off, hA, hg, hc⟩ := h (by omega)
  have h0 := hc j hj
  exact ⟨g, off, hA, hg, h0 0 (by omega), h0 1 (by omega), h0 2 (by omega), h0 3 (by omega), h0 4 (by omega), h0 5 (by omega)⟩
/-- A disk with power and without a fuse. -/
def Calm (s : St) (n : Nat) : Prop := s.fuse = 0 ∧ s.down = false ∧ s.pcs.length ≤ n
theorem Calm.looks {s : St} {n : Nat} (h : Calm s n) : Looks s (s.sure 0) (List.replicate (s.sure 0).length false) 0 :=
  ⟨rfl, fun p hp hf => ⟨fun _ => Nat.zero_le _, fun _ j _ _ => by rw [List.getElem?_replicate]; split <;> simp⟩, h.1, h.2.1, by simp, Nat.zero_le _⟩
theorem Calm.write {s : St} {n : Nat} (h : Calm s n) (f k : Int) (b : List UInt8) : Calm (s.write f k b).1 (n + b.length) := by
  obtain ⟨h1, h2, h3⟩ := h.looks.write f k b
  by_cases hc : (s.write f k b).2 = 0 ∧ f = 0
  · obtain ⟨-, h4, -⟩ := h1 hc.1 hc.2
    exact ⟨h4.fuse, h4.down, by have := h.2.2; omega⟩
  · have h4 := h2 hc
    exact ⟨h4.fuse, h4.down, by have := h.2.2; omega⟩
theorem Calm.sync {s : St} {n : Nat} (h : Calm s n) : (s.sync 0).2 = 0 ∧ Looks (s.sync 0).1 (s.now 0) (List.replicate (s.now 0).length true) (s.now 0).length ∧ (s.sync 0).1.pcs.length ≤ n ∧ (s.sync 0).1.read 0 0 4194304 = ((s.now 0).take 4194304, 0) := by
  obtain ⟨h1, h2, h3⟩ := h
  have hm : s.may 0 = 0 := by unfold St.may; rw [h2]; simp
  have hs : s.sync 0 = ({ (s.settle 0) with calls := next64 s.calls, fuse := 0 }, 0) := by
    unfold St.sync
    rw [if_neg (by omega), if_neg (by omega)]
    unfold St.count
    rw [if_neg (by show ¬ s.fuse = 1; omega)]
    show ({ (s.settle 0) with calls := next64 s.calls, fuse := s.fuse - 1 }, (0 : Int)) = _
    rw [h1]
  rw [hs]
  refine ⟨rfl, ⟨rfl, fun p hp hf => ?_, rfl, h2, by simp, Nat.le_refl _⟩, ?_, ?_⟩
  · have : p ∈ others 0 s.pcs := hp
    have := (List.mem_filter.1 this).2
    simp [hf] at this
  · exact Nat.le_trans (List.length_filter_le _ _) h3
  · unfold St.read
    rw [if_neg (by show ¬ St.may _ 0 ≠ 0; unfold St.may; show ¬ (if s.down = true then _ else _) ≠ (0 : Int); rw [h2]; simp), if_neg (by omega)]
    show (List.take 4194304 (List.drop 0 ((s.settle 0).now 0)), (0 : Int)) = _
    rw [St.settle_now, List.drop_zero]
/-- A row of truths of the call's own. -/
def OwnK (w : World) (B : Nat) (a : Option Addr) (n cap : Nat) (l : List Bool) : Prop := w.ownsRow B 4 1 (.slice a n cap) l.length (l.map Value.bool) ∧ n = l.length
theorem OwnK.at {w : World} {B n cap : Nat} {a : Option Addr} {l : List Bool} (h : OwnK w B a n cap l) (i : Nat) (hi : i < n) : ∃ g, a = some ⟨g, 0, none⟩ ∧ B ≤ g ∧ g < w.heap.size ∧ w.cell? ⟨g, i, none⟩ = some (.bool (l.getD i false)) ∧ w.frozen? ⟨g, i, none⟩ = false ∧ ∀ z, OwnK (w.setCell ⟨g, i, none⟩ (.bool z)) B a n cap (l.set i z) := by
  obtain ⟨h1, rfl⟩ := h
  obtain ⟨g, cap', hv, hb, hg⟩ := World.ownsRow.form h1 (by omega)
  obtain ⟨rfl, rfl⟩ : a = some ⟨g, 0, none⟩ ∧ cap = cap' := by simpa using hv
  have hil : i < l.length := by omega
  have hc := World.ownsRow.cells h1 (g := g) rfl i (.bool l[i]) (by rw [List.getElem?_map, List.getElem?_eq_getElem hil]; rfl)
  rw [Go.WideShapes.add_plain, Nat.zero_add] at hc
  refine ⟨g, rfl, hb, hg, by rw [hc, List.getD_eq_getElem?_getD, List.getElem?_eq_getElem hil]; rfl, World.ownsRow.frozenAt h1 i, fun z => ⟨?_, by rw [List.length_set]⟩⟩
  have := (World.ownsRow.stored h1 i (.bool z)).1
  rw [List.length_set, List.map_set]
  exact this
theorem OwnK.same {w w' : World} {B n cap : Nat} {a : Option Addr} {l : List Bool} (h : OwnK w B a n cap l) (hs : ∀ k, k < w.heap.size → (Value.slice a n cap).ownBlock = some k → w'.heap[k]? = w.heap[k]?) : OwnK w' B a n cap l := ⟨ownsRow_same h.1 hs, h.2⟩
theorem OwnK.made (w : World) (n : Nat) (hn : n ≤ 4194304) : OwnK (w.alloc (.cells (madeCells #[.bool false] n) 4)) w.heap.size (some ⟨w.heap.size, 0, none⟩) n n (List.replicate n false) := by
  refine ⟨⟨by simp, .inr ⟨w.heap.size, n, _, by simp, Nat.le_refl _, heap_alloc_new w _, by simp, by unfold maxLen; omega, ?_, ?_⟩⟩, by simp⟩
  · unfold madeCells; simp
  · unfold madeCells
    apply List.ext_getElem?
    intro i
    simp [List.getElem?_take, List.getElem?_replicate]
    split
    · next h => rw [List.getElem?_range h]; simp [Nat.mod_one]
    · rfl
theorem belowN {B : Nat} {a w : World} (h : Below B a w) (n : Nat) : Below B a (w.drewN n) := ⟨h.os, h.tape, h.output, h.size, h.block⟩
theorem all_true {sf : List Bool} {n : Nat} (hl : sf.length = n) (h : ∀ k, k < n → sf[k]? = some true) : sf = List.replicate n true := by
  apply List.ext_getElem?
  intro k
  rw [List.getElem?_replicate]
  split
  · next hk => exact h k hk
  · rw [List.getElem?_eq_none (by omega)]
theorem box6 {w : World} {b : Nat} {a0 a1 a2 a3 a4 a5 : Value} {t : TypeId} (hb : w.heap[b]? = some (.cells #[a0, a1, a2, a3, a4, a5] t (0, 0))) : w.cell? ⟨b, 0, none⟩ = some a0 ∧ w.cell? ⟨b, 1, none⟩ = some a1 ∧ w.cell? ⟨b, 2, none⟩ = some a2 ∧ w.cell? ⟨b, 3, none⟩ = some a3 ∧ w.cell? ⟨b, 4, none⟩ = some a4 ∧ w.cell? ⟨b, 5, none⟩ = some a5 := by
  unfold World.cell?
  simp [hb]
/-- What is kept of memory through the later part of the statement: the disk, the row of truths, the bytes of before. -/
structure Keeps (w0 w : World) (g : Nat) (s : St) (B1 B2 : Nat) (aw : Option Addr) (was : List UInt8) (asf : Option Addr) (n cap : Nat) (sf : List Bool) : Prop where
  disk : AtX w0 w g s (fun k => B1 ≤ k ∧ k < B2)
  was : BRd w aw was
  wasB : ∀ a, aw = some a → B1 ≤ a.block ∧ a.block < B2
  row : OwnK w B1 asf n cap sf
  rowB : ∀ k, (Value.slice asf n cap).ownBlock = some k → B1 ≤ k ∧ k < B2
  apart : ∀ a, aw = some a → (Value.slice asf n cap).ownBlock ≠ some a.block
  size : B2 ≤ w.heap.size
  low : w0.heap.size ≤ B1
theorem Keeps.below {w0 w w' : World} {g B1 B2 n cap : Nat} {s : St} {aw asf : Option Addr} {was : List UInt8} {sf : List Bool} (h : Keeps w0 w g s B1 B2 aw was asf n cap sf) (hb : Below w.heap.size w w') : Keeps w0 w' g s B1 B2 aw was asf n cap sf :=
  ⟨h.disk.fr (G := fun _ => False) (.of_below hb) fun _ _ h => h.elim, h.was.below hb, h.wasB, h.row.same fun k hk _ => hb.block k hk, h.rowB, h.apart, Nat.le_trans h.size hb.size, h.low⟩
theorem Keeps.set {w0 w : World} {g B1 B2 n cap q i : Nat} {s : St} {aw asf : Option Addr} {was : List UInt8} {sf : List Bool} (h : Keeps w0 w g s B1 B2 aw was asf n cap sf) (hq : asf = some ⟨q, 0, none⟩) (hi : i < n) (z : Bool) : Keeps w0 (w.setCell ⟨q, i, none⟩ (.bool z)) g s B1 B2 aw was asf n cap (sf.set i z) := by
  have hqb := h.rowB q (by rw [hq]; rfl)
  have hf : Fr (fun k => k = q) w (w.setCell ⟨q, i, none⟩ (.bool z)) := Fr.set _ _ _ _ rfl
  obtain ⟨g', e, _, _, _, _, hst⟩ := h.row.at i hi
  rw [hq] at e
  obtain rfl : q = g' := by simpa using e
  refine ⟨h.disk.fr hf fun k _ hk => ⟨by rw [hk]; exact hqb, by rw [hk]; have := h.low; omega⟩, h.was.fr hf fun a ha e => h.apart a ha (by rw [hq, e]; rfl), h.wasB, hst z, h.rowB, h.apart, by simpa [World.setCell] using h.size, h.low⟩
theorem writeK {w0 w W : World} {g B1 B2 n cap : Nat} {s : St} {aw asf : Option Addr} {was : List UInt8} {sf : List Bool} (f k : Int) (A : Option Addr) (c m : Nat) (b : List UInt8) (h : Keeps w0 w g s B1 B2 aw was asf n cap sf) (hW : Below w.heap.size w W) (hA : BRd w A b) (hn : m = b.length) (hb : b.length ≤ 140737488355328) (hlim : s.pcs.length + 4194304 ≤ 8000000000000) :
    Calls Try.prog 12 #[.pointer (some ⟨g, 0, none⟩), .int .i64 f, .int .i64 k, .slice A m c] W fun e w' => e = .returned (.int .i64 (s.write f k b).2) ∧ Keeps w0 w' g (s.write f k b).1 B1 B2 aw was asf n cap sf ∧ ∀ k, w.heap.size ≤ k → k < W.heap.size → w'.heap[k]? = W.heap[k]? := by
  subst hn
  have hlt := h.disk
  obtain ⟨v, pc, qs, kp, hd, hF, h0, hX⟩ := hlt
  have hq : s.pcs.length = qs.length := by rw [hd.names, List.length_map]
  have hltd := hd.core.lt (Array.getElem?_eq_some_iff.1 hd.box).1
  have hK := h.below hW
  refine (write_any g f k A c b W v pc qs kp s (hd.below hW) (hA.below hW) hb (by omega)).mono fun e w' hT => ?_
  obtain ⟨h1, ⟨v', pc', qs', kp', i1, i2, i3, i4⟩, h3⟩ := AtX.turned hF (bt h0 hW) hX hT
  have hs := hK.size
  exact ⟨h1, ⟨⟨v', pc', qs', kp', i1, i2, i3, fun k hk => i4 k ⟨hk, by omega⟩⟩, hK.was.fr h3 fun a ha hd => hX _ (hK.wasB a ha) (.inl hd), hK.wasB, hK.row.same fun k hk e => h3.block k hk fun hd => hX k (hK.rowB k e) (.inl hd), hK.rowB, hK.apart, Nat.le_trans hK.size h3.size, hK.low⟩, fun k hk hk2 => h3.block k hk2 fun hd => by have := hltd k (.inl hd); omega⟩
theorem truncateK {w0 w W : World} {g B1 B2 n cap : Nat} {s : St} {aw asf : Option Addr} {was : List UInt8} {sf : List Bool} (f k : Int) (h : Keeps w0 w g s B1 B2 aw was asf n cap sf) (hW : Below w.heap.size w W) (hlim : s.pcs.length + 4194304 ≤ 8000000000000) :
    Calls Try.prog 58 #[.pointer (some ⟨g, 0, none⟩), .int .i64 f, .int .i64 k] W fun e w' => e = .returned (.int .i64 (s.truncate f k).2) ∧ Keeps w0 w' g (s.truncate f k).1 B1 B2 aw was asf n cap sf ∧ ∀ k, w.heap.size ≤ k → k < W.heap.size → w'.heap[k]? = W.heap[k]? := by
  have hlt := h.disk
  obtain ⟨v, pc, qs, kp, hd, hF, h0, hX⟩ := hlt
  have hq : s.pcs.length = qs.length := by rw [hd.names, List.length_map]
  have hltd := hd.core.lt (Array.getElem?_eq_some_iff.1 hd.box).1
  have hK := h.below hW
  refine (truncate_any g f k W v pc qs kp s (hd.below hW) (by omega)).mono fun e w' hT => ?_
  obtain ⟨h1, ⟨v', pc', qs', kp', i1, i2, i3, i4⟩, h3⟩ := AtX.turned hF (bt h0 hW) hX hT
  have hs := hK.size
  exact ⟨h1, ⟨⟨v', pc', qs', kp', i1, i2, i3, fun k hk => i4 k ⟨hk, by omega⟩⟩, hK.was.fr h3 fun a ha hd => hX _ (hK.wasB a ha) (.inl hd), hK.wasB, hK.row.same fun k hk e => h3.block k hk fun hd => hX k (hK.rowB k e) (.inl hd), hK.rowB, hK.apart, Nat.le_trans hK.size h3.size, hK.low⟩, fun k hk hk2 => h3.block k hk2 fun hd => by have := hltd k (.inl hd); omega⟩
theorem crashK {w0 w : World} {g B1 B2 n cap : Nat} {s : St} {aw asf : Option Addr} {was : List UInt8} {sf : List Bool} (A : Option Addr) (c m : Nat) (ks : List Bool) (h : Keeps w0 w g s B1 B2 aw was asf n cap sf) (hA : KRd w A ks) (hn : m = ks.length) (hAF : 0 < ks.length → ∀ a, A = some a → a.block < w0.heap.size) (hlim : s.pcs.length ≤ 8000000000000) :
    Calls Try.prog 16 #[.pointer (some ⟨g, 0, none⟩), .slice A m c] w fun e w' => e = .returned (.int .i64 (s.crashed ks).2) ∧ Keeps w0 w' g (s.crashed ks).1 B1 B2 aw was asf n cap sf := by
  subst hn
  obtain ⟨v, pc, qs, kp, hd, hF, h0, hX⟩ := h.disk
  have hq : s.pcs.length = qs.length := by rw [hd.names, List.length_map]
  refine (crash_turned g A c ks w v pc qs kp s hd hA (fun h0 a ha hk => by have h1 := hF _ hk; have h2 := hAF h0 a ha; omega) (by omega)).mono fun e w' hT => ?_
  obtain ⟨h1, ⟨v', pc', qs', kp', i1, i2, i3, i4⟩, h3⟩ := AtX.turned hF h0 hX hT
  have hs := h.size
  exact ⟨h1, ⟨v', pc', qs', kp', i1, i2, i3, fun k hk => i4 k ⟨hk, by omega⟩⟩, h.was.fr h3 fun a ha hd => hX _ (h.wasB a ha) (.inl hd), h.wasB, h.row.same fun k hk e => h3.block k hk fun hd => hX k (h.rowB k e) (.inl hd), h.rowB, h.apart, Nat.le_trans h.size h3.size, h.low⟩
theorem restartK {w0 w : World} {g B1 B2 n cap : Nat} {s : St} {aw asf : Option Addr} {was : List UInt8} {sf : List Bool} (h : Keeps w0 w g s B1 B2 aw was asf n cap sf) :
    Calls Try.prog 17 #[.pointer (some ⟨g, 0, none⟩)] w fun e w' => e = .returned (.int .i64 0) ∧ Keeps w0 w' g s.restart B1 B2 aw was asf n cap sf := by
  obtain ⟨v, pc, qs, kp, hd, hF, h0, hX⟩ := h.disk
  refine (restart_turned g w v pc qs kp s hd).mono fun e w' hT => ?_
  obtain ⟨h1, ⟨v', pc', qs', kp', i1, i2, i3, i4⟩, h3⟩ := AtX.turned hF h0 hX hT
  have hs := h.size
  exact ⟨h1, ⟨v', pc', qs', kp', i1, i2, i3, fun k hk => i4 k ⟨hk, by omega⟩⟩, h.was.fr h3 fun a ha hd => hX _ (h.wasB a ha) (.inl hd), h.wasB, h.row.same fun k hk e => h3.block k hk fun hd => hX k (h.rowB k e) (.inl hd), h.rowB, h.apart, Nat.le_trans h.size h3.size, h.low⟩

end Go.Proofs.Ytdbbghmldaekhaa
