/-
  The document's disk, as it lies in memory; what a file has (Now); may, Down, Calls, New.
-/
import Derived.Test.YtdbbghmldaekhaaEDone
import Derived.Test.YtdbbghmldaekhaaDCrashB
namespace Go.Proofs.Ytdbbghmldaekhaa
open Go.ChangeShapes Go.WideShapes Go.ChangeAt Go.RowKit
set_option linter.unusedVariables false

def PV.cells4 (q : PV) : List Value := [.int .i64 q.p.file, .bool q.p.cut, .int .i64 q.p.pos, .slice q.A q.p.b.length q.c]
def row4 (qs : List PV) : List Value := qs.flatMap PV.cells4
theorem row4_len (qs : List PV) : (row4 qs).length = qs.length * 4 := by
  unfold row4
  induction qs with
  | nil => rfl
  | cons q qs ih => simp [PV.cells4, ih]; omega
theorem row4_app (a b : List PV) : row4 (a ++ b) = row4 a ++ row4 b := by simp [row4]
theorem row4_at (qs : List PV) (i : Nat) (h : i < qs.length) : (row4 qs)[i * 4]? = some (.int .i64 qs[i].p.file) ∧ (row4 qs)[i * 4 + 1]? = some (.bool qs[i].p.cut) ∧ (row4 qs)[i * 4 + 2]? = some (.int .i64 qs[i].p.pos) ∧ (row4 qs)[i * 4 + 3]? = some (.slice qs[i].A qs[i].p.b.length qs[i].c) := by
  induction qs generalizing i with
  | nil => simp at h
  | cons q qs ih =>
    cases i with
    | zero => simp [row4, PV.cells4]
    | succ i =>
      have h' : i < qs.length := by simpa using h
      have := ih i h'
      have e1 : (i + 1) * 4 = i * 4 + 4 := by omega
      have e3 : row4 (q :: qs) = PV.cells4 q ++ row4 qs := by simp [row4]
      rw [e3, e1]
      simpa [PV.cells4] using this
/-- The slices of the document's disk in the block g: what is sure (a, k), the row of pieces (pc, qs), the choice (ka, ks); R: the blocks that hold what is read. -/
structure RCore (w : World) (B g : Nat) (a : Nat → Option Addr) (k : Nat → Nat) (pc : Value) (qs : List PV) (ka : Option Addr) (ks : List Bool) (R : Nat → Prop) (sure : Nat → List UInt8) : Prop where
  base : B ≤ g
  glt : g < w.heap.size
  row : w.ownsRow B 150 4 pc qs.length (row4 qs)
  sure : ∀ i, i < 2 → BRd w (a i) (sure i) ∧ (0 < (sure i).length → ∀ x, a i = some x → R x.block) ∧ (sure i).length ≤ k i
  reads : ∀ q ∈ qs, BRd w q.A q.p.b ∧ (0 < q.p.b.length → ∀ x, q.A = some x → R x.block)
  keep : KRd w ka ks ∧ (0 < ks.length → ∀ x, ka = some x → R x.block)
  nog : ¬ R g
  nop : ∀ j, pc.ownBlock = some j → ¬ R j
  ng : pc.ownBlock ≠ some g
  lt : ∀ j, R j → j < w.heap.size
def rbox (s : St) (a : Nat → Option Addr) (k : Nat → Nat) (pc : Value) (ka : Option Addr) (kc : Nat) (ks : List Bool) : Array Value := #[.slice (a 0) (s.sure 0).length (k 0), .slice (a 1) (s.sure 1).length (k 1), pc, .int .i64 s.fuse, .slice ka ks.length kc, .int .i64 s.calls, .bool s.down]
/-- The document's disk, in the block g. -/
structure RSt (w : World) (B g : Nat) (a : Nat → Option Addr) (k : Nat → Nat) (pc : Value) (qs : List PV) (ka : Option Addr) (kc : Nat) (ks : List Bool) (R : Nat → Prop) (s : St) : Prop where
  box : w.heap[g]? = some (.cells (rbox s a k pc ka kc ks) 100 (0, 0))
  core : RCore w B g a k pc qs ka ks R s.sure
  lit : s.fuse ≠ 0 → ks = s.keep
  names : s.pcs = qs.map PV.p
  ok : s.Ok
theorem BRd.fr' {F : Nat → Prop} {w w' : World} {A : Option Addr} {l : List UInt8} (h : BRd w A l) (hf : Fr F w w') (hn : 0 < l.length → ∀ a, A = some a → ¬ F a.block) : BRd w' A l := fun h0 => by
  obtain ⟨g, off, rfl, hl, hc⟩ := h h0
  refine ⟨g, off, rfl, Nat.lt_of_lt_of_le hl hf.size, fun i hi => ?_⟩
  rw [World.cell?_of_block (w := w) (w' := w') (a := ⟨g, off + i, none⟩) (hf.block g hl (hn h0 _ rfl))]
  exact hc i hi
/-- What it is, and what it reads. -/
def RX (g : Nat) (pc : Value) (R : Nat → Prop) : Nat → Prop := fun j => j = g ∨ pc.ownBlock = some j ∨ R j
def RF (g : Nat) (pc : Value) : Nat → Prop := fun j => j = g ∨ pc.ownBlock = some j
theorem RSt.g_lt {w : World} {B g : Nat} {a : Nat → Option Addr} {k : Nat → Nat} {pc : Value} {qs : List PV} {ka : Option Addr} {kc : Nat} {ks : List Bool} {R : Nat → Prop} {s : St} (h : RSt w B g a k pc qs ka kc ks R s) : g < w.heap.size := h.core.glt
theorem RSt.x_lt {w : World} {B g : Nat} {a : Nat → Option Addr} {k : Nat → Nat} {pc : Value} {qs : List PV} {ka : Option Addr} {kc : Nat} {ks : List Bool} {R : Nat → Prop} {s : St} (h : RSt w B g a k pc qs ka kc ks R s) : ∀ j, RX g pc R j → j < w.heap.size := by
  rintro j (rfl | e | e)
  · exact h.g_lt
  · exact (h.core.row.lt j e).2
  · exact h.core.lt j e
theorem RCore.fr {F : Nat → Prop} {w w' : World} {B g : Nat} {a : Nat → Option Addr} {k : Nat → Nat} {pc : Value} {qs : List PV} {ka : Option Addr} {ks : List Bool} {R : Nat → Prop} {su : Nat → List UInt8} (h : RCore w B g a k pc qs ka ks R su) (hf : Fr F w w') (hn : ∀ j, F j → ¬ (pc.ownBlock = some j ∨ R j)) : RCore w' B g a k pc qs ka ks R su where
  base := h.base
  glt := Nat.lt_of_lt_of_le h.glt hf.size
  row := ownsRow_same h.row fun j hj e => hf.block j hj fun hF => hn _ hF (.inl e)
  sure := fun i hi => ⟨(h.sure i hi).1.fr' hf fun h0 x hx hF => hn _ hF (.inr ((h.sure i hi).2.1 h0 x hx)), (h.sure i hi).2⟩
  reads := fun q hq => ⟨(h.reads q hq).1.fr' hf fun h0 x hx hF => hn _ hF (.inr ((h.reads q hq).2 h0 x hx)), (h.reads q hq).2⟩
  keep := ⟨h.keep.1.fr hf fun h0 x hx hF => hn _ hF (.inr (h.keep.2 h0 x hx)), h.keep.2⟩
  nog := h.nog
  nop := h.nop
  ng := h.ng
  lt := fun j hj => Nat.lt_of_lt_of_le (h.lt j hj) hf.size
theorem RCore.below {w w' : World} {B g : Nat} {a : Nat → Option Addr} {k : Nat → Nat} {pc : Value} {qs : List PV} {ka : Option Addr} {ks : List Bool} {R : Nat → Prop} {su : Nat → List UInt8} (h : RCore w B g a k pc qs ka ks R su) (hb : Below w.heap.size w w') : RCore w' B g a k pc qs ka ks R su :=
  h.fr (F := fun _ => False) (.of_below hb) fun _ hf => hf.elim
theorem RCore.set {w : World} {B g : Nat} {a : Nat → Option Addr} {k : Nat → Nat} {pc : Value} {qs : List PV} {ka : Option Addr} {ks : List Bool} {R : Nat → Prop} {su : Nat → List UInt8} (h : RCore w B g a k pc qs ka ks R su) (i : Nat) (u : Value) : RCore (w.setCell ⟨g, i, none⟩ u) B g a k pc qs ka ks R su :=
  h.fr (F := fun j => j = g) (Fr.set _ _ _ _ rfl) fun j e hd => by
    subst e
    rcases hd with e | e
    · exact h.ng e
    · exact h.nog e
theorem RSt.fr {F : Nat → Prop} {w w' : World} {B g : Nat} {a : Nat → Option Addr} {k : Nat → Nat} {pc : Value} {qs : List PV} {ka : Option Addr} {kc : Nat} {ks : List Bool} {R : Nat → Prop} {s : St} (h : RSt w B g a k pc qs ka kc ks R s) (hf : Fr F w w') (hn : ∀ j, F j → ¬ RX g pc R j) : RSt w' B g a k pc qs ka kc ks R s where
  box := (hf.block g h.g_lt fun hF => hn _ hF (.inl rfl)).trans h.box
  core := h.core.fr hf fun j hF hd => hn j hF (.inr hd)
  lit := h.lit
  names := h.names
  ok := h.ok
theorem RSt.below {w w' : World} {B g : Nat} {a : Nat → Option Addr} {k : Nat → Nat} {pc : Value} {qs : List PV} {ka : Option Addr} {kc : Nat} {ks : List Bool} {R : Nat → Prop} {s : St} (h : RSt w B g a k pc qs ka kc ks R s) (hb : Below w.heap.size w w') : RSt w' B g a k pc qs ka kc ks R s :=
  h.fr (F := fun _ => False) (.of_below hb) fun _ hf => hf.elim
/-- What a call of the document's disk leaves. -/
structure RTurn (w w' : World) (g : Nat) (pc : Value) (R : Nat → Prop) (pc' : Value) (R' : Nat → Prop) : Prop where
  fr : Fr (RF g pc) w w'
  newp : ∀ j, j < w.heap.size → pc'.ownBlock = some j → pc.ownBlock = some j
  newR : ∀ j, j < w.heap.size → R' j → R j
theorem RTurn.refl (w : World) (g : Nat) (pc : Value) (R : Nat → Prop) : RTurn w w g pc R pc R := ⟨.refl _ _, fun _ _ h => h, fun _ _ h => h⟩
theorem RTurn.trans {w w1 w2 : World} {g : Nat} {pc pc1 pc2 : Value} {R R1 R2 : Nat → Prop} (h : RTurn w w1 g pc R pc1 R1) (k : RTurn w1 w2 g pc1 R1 pc2 R2) : RTurn w w2 g pc R pc2 R2 :=
  ⟨h.fr.trans' k.fr fun j hj hd => hd.imp id (h.newp j hj), fun j hj hd => h.newp j hj (k.newp j (Nat.lt_of_lt_of_le hj h.fr.size) hd), fun j hj hd => h.newR j hj (k.newR j (Nat.lt_of_lt_of_le hj h.fr.size) hd)⟩
theorem RTurn.set (w : World) (g i : Nat) (u : Value) (pc : Value) (R : Nat → Prop) : RTurn w (w.setCell ⟨g, i, none⟩ u) g pc R pc R := ⟨Fr.set _ _ _ _ (.inl rfl), fun _ _ h => h, fun _ _ h => h⟩
theorem RTurn.below {w w' : World} {g : Nat} {pc : Value} {R : Nat → Prop} (h : Below w.heap.size w w') : RTurn w w' g pc R pc R := ⟨.of_below h, fun _ _ h => h, fun _ _ h => h⟩
/-- The document's disk, whatever its slices. -/
def RDisk (w : World) (B g : Nat) (pc : Value) (R : Nat → Prop) (s : St) : Prop := ∃ a k qs ka kc ks, RSt w B g a k pc qs ka kc ks R s
/-- What a call answers, and leaves. -/
def RPost (B g : Nat) (pc : Value) (R : Nat → Prop) (x : St × Int) (w : World) (e : Ending) (w' : World) : Prop := e = .returned (.int .i64 x.2) ∧ ∃ pc' R', RDisk w' B g pc' R' x.1 ∧ RTurn w w' g pc R pc' R'
theorem box7 {w : World} {g : Nat} {a0 a1 a2 a3 a4 a5 a6 : Value} {T : TypeId} (h : w.heap[g]? = some (.cells #[a0, a1, a2, a3, a4, a5, a6] T (0, 0))) :
    (w.cell? ⟨g, 0, none⟩ = some a0 ∧ w.cell? ⟨g, 1, none⟩ = some a1 ∧ w.cell? ⟨g, 2, none⟩ = some a2 ∧ w.cell? ⟨g, 3, none⟩ = some a3 ∧ w.cell? ⟨g, 4, none⟩ = some a4 ∧ w.cell? ⟨g, 5, none⟩ = some a5 ∧ w.cell? ⟨g, 6, none⟩ = some a6) ∧ ∀ i, w.frozen? ⟨g, i, none⟩ = false := by
  simp [World.cell?, World.frozen?, h]
theorem row_sliceV {w : World} {B : Nat} {e : TypeId} {sz : Nat} {v : Value} {n : Nat} {xs : List Value} (h : w.ownsRow B e sz v n xs) : ∃ p c, v = .slice p n c := by
  rcases h.2 with ⟨rfl, h0⟩ | ⟨g, cap, cur, rfl, _⟩
  · exact ⟨none, 0, by rw [h0]⟩
  · exact ⟨_, _, rfl⟩
/-- Of what Now answers: bytes that are read, or new. -/
def Shown (R : Nat → Prop) (l : List UInt8) (w : World) (e : Ending) (w' : World) : Prop := ∃ a n k, e = .returned (.slice a n k) ∧ n = l.length ∧ l.length ≤ k ∧ BRd w' a l ∧ (0 < l.length → ∀ x, a = some x → R x.block ∨ w.heap.size ≤ x.block ∧ x.block < w'.heap.size) ∧ Below w.heap.size w w'
theorem foldF_at (f : Nat) (qs : List PV) (j : Nat) (h : j < qs.length) (l : List UInt8) : foldF f ((qs.take (j + 1)).map PV.p) l = if qs[j].p.file = f then qs[j].p.ap (foldF f ((qs.take j).map PV.p) l) else foldF f ((qs.take j).map PV.p) l := by
  rw [List.take_succ_eq_append_getElem h, List.map_append, foldF_app]
  rfl

set_option maxHeartbeats 3200000 in
set_option maxRecDepth 100000 in
theorem now_0 (w : World) (B g : Nat) (a : Nat → Option Addr) (k : Nat → Nat) (pc : Value) (qs : List PV) (ka : Option Addr) (kc : Nat) (ks : List Bool) (R : Nat → Prop) (s : St) (hd : RSt w B g a k pc qs ka kc ks R s) (hlim : qs.length ≤ 8000000000000) :
    Calls Try.prog 66 #[.pointer (some ⟨g, 0, none⟩), .int .i64 0] w (Shown R (s.now 0) w) := by
  have HD := Lib.hid hd
  obtain ⟨⟨c0, c1, c2, -, -, -, -⟩, -⟩ := box7 hd.box
  obtain ⟨pa, pk, hpc⟩ := row_sliceV hd.core.row
  rw [hpc] at c2
  have HPC := Lib.hid hpc
  have hgl := hd.g_lt
  have hlimI : (qs.length : Int) ≤ 8000000000000 := by omega
  clear hd hpc hlim
  go_enter Try.func66, Try.ntmps66
  go_wp2_with fail
  go_loopw [5, 6] (fun b idx wr => ∃ (j : Nat) (ba : Option Addr) (bn bk : Nat), j ≤ qs.length ∧ idx = .int .i64 (j : Int) ∧ b = .slice ba bn bk ∧ bn = (foldF 0 ((qs.take j).map PV.p) (s.sure 0)).length ∧ bn ≤ bk ∧ BRd wr ba (foldF 0 ((qs.take j).map PV.p) (s.sure 0)) ∧ (0 < bn → ∀ x, ba = some x → R x.block ∨ w.heap.size ≤ x.block ∧ x.block < wr.heap.size) ∧ Below w.heap.size w wr) (fun b idx _ => qs.length - (intOf idx).toNat)
  case atStart => exact ⟨0, a 0, _, k 0, by omega, rfl, rfl, rfl, (HD.out.core.sure 0 (by omega)).2.2, (HD.out.core.sure 0 (by omega)).1, fun h0 x hx => .inl ((HD.out.core.sure 0 (by omega)).2.1 h0 x hx), Below.refl _ _⟩
  case round =>
    obtain ⟨j, ba, bn, bk, hj, rfl, rfl, hbn, hbk, hrd, hbx, hb⟩ := hrel
    have HBN := Lib.hid hbn
    have HRD := Lib.hid hrd
    have HBX := Lib.hid hbx
    have HB := Lib.hid hb
    have e2 : wr.cell? ⟨g, 2, none⟩ = some (.slice pa qs.length pk) := by rw [(bcell hb).1 _ _ hgl]; exact c2
    have hgr : g < wr.heap.size := Nat.lt_of_lt_of_le hgl hb.size
    clear hbn hrd hbx hb
    by_cases hjn : j < qs.length
    · have hrow := HD.out.core.row
      obtain ⟨pb, cap', hx, -, hxl⟩ := World.ownsRow.form hrow (by omega)
      have hx2 := HPC.out.symm.trans hx
      obtain ⟨rfl, rfl⟩ : pa = some ⟨pb, 0, none⟩ ∧ pk = cap' := by simpa using hx2
      have hpb : pc.ownBlock = some pb := by rw [hx]; rfl
      obtain ⟨q, hqq⟩ : ∃ q, q = qs[j] := ⟨_, rfl⟩
      have hr := row4_at qs j hjn
      rw [← hqq] at hr
      have g0 := World.ownsRow.cells hrow hpb (j * 4) _ hr.1
      have g1 := World.ownsRow.cells hrow hpb (j * 4 + 1) _ hr.2.1
      have g2 := World.ownsRow.cells hrow hpb (j * 4 + 2) _ hr.2.2.1
      have g3 := World.ownsRow.cells hrow hpb (j * 4 + 3) _ hr.2.2.2
      rw [Go.WideShapes.add_plain, Nat.zero_add, ← (bcell HB.out).1 _ _ hxl] at g0 g1 g2 g3
      have hpr : pb < wr.heap.size := Nat.lt_of_lt_of_le hxl HB.out.size
      have hqm : q ∈ qs := by rw [hqq]; exact List.getElem_mem _
      have HST := Lib.hid (foldF_at 0 qs j hjn (s.sure 0))
      rw [← hqq] at HST
      have hpo := HD.out.ok.pcs q.p (by rw [HD.out.names]; exact List.mem_map_of_mem hqm)
      have HDN : Hid (Calls Try.prog 106 #[.slice ba bn bk, q.agg] wr (Made (q.p.ap (foldF 0 ((qs.take j).map PV.p) (s.sure 0))) wr)) := by
        rw [HBN.out]
        exact done_any ba bk _ q wr HRD.out ((HD.out.core.reads q hqm).1.below HB.out) (foldF_len (fun p hp => HD.out.ok.pcs p (by rw [HD.out.names]; exact List.mem_of_mem_take (List.map_take ▸ hp))) (HD.out.ok.sure 0)) hpo
      unfold PV.agg at HDN
      clear hrow hx hx2 hpb hr hqq hqm hpo
      have hjnI : (j : Int) < (qs.length : Int) := by omega
      by_cases hf : q.p.file = 0
      · rw [hf] at g0 HDN
        rw [if_pos hf] at HST
        clear hf
        generalize q.p.ap (foldF 0 ((qs.take j).map PV.p) (s.sure 0)) = M at *
        go_wp2_with fail
        refine HDN.out.mono ?_
        rintro e w4 ⟨a4, k4, rfl, ho4, hk4, hb4⟩
        have HO4 := Lib.hid ho4
        have HB4 := Lib.hid hb4
        clear ho4 hb4 HDN
        go_wp2_with fail
        refine ⟨⟨j + 1, a4, _, k4, hjn, rfl, rfl, by rw [HST.out], hk4, by rw [HST.out]; exact HO4.out.brd, fun h0 x hx => ?_, bt HB.out HB4.out⟩, by simp only [intOf]; omega⟩
        subst hx
        have h5 := World.ownsRow.lt HO4.out x.block rfl
        exact .inr ⟨Nat.le_trans HB.out.size h5.1, h5.2⟩
      · rw [if_neg hf] at HST
        have hfI : ¬ (q.p.file : Int) = 0 := by omega
        clear hf HDN
        go_wp2_with fail
        exact ⟨⟨j + 1, ba, bn, bk, hjn, rfl, rfl, by rw [HST.out]; exact HBN.out, hbk, by rw [HST.out]; exact HRD.out, HBX.out, HB.out⟩, by simp only [intOf]; omega⟩
    · obtain rfl : j = qs.length := by omega
      go_wp2_with fail
      go_ret
      have e9 : s.now 0 = foldF 0 ((qs.take qs.length).map PV.p) (s.sure 0) := by rw [List.take_length, ← HD.out.names]; rfl
      rw [e9]
      exact ⟨ba, bn, bk, rfl, HBN.out, by rw [← HBN.out]; exact hbk, HRD.out, fun h0 => HBX.out (by rw [HBN.out]; exact h0), HB.out⟩

set_option maxHeartbeats 3200000 in
set_option maxRecDepth 100000 in
theorem now_1 (w : World) (B g : Nat) (a : Nat → Option Addr) (k : Nat → Nat) (pc : Value) (qs : List PV) (ka : Option Addr) (kc : Nat) (ks : List Bool) (R : Nat → Prop) (s : St) (hd : RSt w B g a k pc qs ka kc ks R s) (hlim : qs.length ≤ 8000000000000) :
    Calls Try.prog 66 #[.pointer (some ⟨g, 0, none⟩), .int .i64 1] w (Shown R (s.now 1) w) := by
  have HD := Lib.hid hd
  obtain ⟨⟨c0, c1, c2, -, -, -, -⟩, -⟩ := box7 hd.box
  obtain ⟨pa, pk, hpc⟩ := row_sliceV hd.core.row
  rw [hpc] at c2
  have HPC := Lib.hid hpc
  have hgl := hd.g_lt
  have hlimI : (qs.length : Int) ≤ 8000000000000 := by omega
  clear hd hpc hlim
  go_enter Try.func66, Try.ntmps66
  go_wp2_with fail
  go_loopw [5, 6] (fun b idx wr => ∃ (j : Nat) (ba : Option Addr) (bn bk : Nat), j ≤ qs.length ∧ idx = .int .i64 (j : Int) ∧ b = .slice ba bn bk ∧ bn = (foldF 1 ((qs.take j).map PV.p) (s.sure 1)).length ∧ bn ≤ bk ∧ BRd wr ba (foldF 1 ((qs.take j).map PV.p) (s.sure 1)) ∧ (0 < bn → ∀ x, ba = some x → R x.block ∨ w.heap.size ≤ x.block ∧ x.block < wr.heap.size) ∧ Below w.heap.size w wr) (fun b idx _ => qs.length - (intOf idx).toNat)
  case atStart => exact ⟨0, a 1, _, k 1, by omega, rfl, rfl, rfl, (HD.out.core.sure 1 (by omega)).2.2, (HD.out.core.sure 1 (by omega)).1, fun h0 x hx => .inl ((HD.out.core.sure 1 (by omega)).2.1 h0 x hx), Below.refl _ _⟩
  case round =>
    obtain ⟨j, ba, bn, bk, hj, rfl, rfl, hbn, hbk, hrd, hbx, hb⟩ := hrel
    have HBN := Lib.hid hbn
    have HRD := Lib.hid hrd
    have HBX := Lib.hid hbx
    have HB := Lib.hid hb
    have e2 : wr.cell? ⟨g, 2, none⟩ = some (.slice pa qs.length pk) := by rw [(bcell hb).1 _ _ hgl]; exact c2
    have hgr : g < wr.heap.size := Nat.lt_of_lt_of_le hgl hb.size
    clear hbn hrd hbx hb
    by_cases hjn : j < qs.length
    · have hrow := HD.out.core.row
      obtain ⟨pb, cap', hx, -, hxl⟩ := World.ownsRow.form hrow (by omega)
      have hx2 := HPC.out.symm.trans hx
      obtain ⟨rfl, rfl⟩ : pa = some ⟨pb, 0, none⟩ ∧ pk = cap' := by simpa using hx2
      have hpb : pc.ownBlock = some pb := by rw [hx]; rfl
      obtain ⟨q, hqq⟩ : ∃ q, q = qs[j] := ⟨_, rfl⟩
      have hr := row4_at qs j hjn
      rw [← hqq] at hr
      have g0 := World.ownsRow.cells hrow hpb (j * 4) _ hr.1
      have g1 := World.ownsRow.cells hrow hpb (j * 4 + 1) _ hr.2.1
      have g2 := World.ownsRow.cells hrow hpb (j * 4 + 2) _ hr.2.2.1
      have g3 := World.ownsRow.cells hrow hpb (j * 4 + 3) _ hr.2.2.2
      rw [Go.WideShapes.add_plain, Nat.zero_add, ← (bcell HB.out).1 _ _ hxl] at g0 g1 g2 g3
      have hpr : pb < wr.heap.size := Nat.lt_of_lt_of_le hxl HB.out.size
      have hqm : q ∈ qs := by rw [hqq]; exact List.getElem_mem _
      have HST := Lib.hid (foldF_at 1 qs j hjn (s.sure 1))
      rw [← hqq] at HST
      have hpo := HD.out.ok.pcs q.p (by rw [HD.out.names]; exact List.mem_map_of_mem hqm)
      have HDN : Hid (Calls Try.prog 106 #[.slice ba bn bk, q.agg] wr (Made (q.p.ap (foldF 1 ((qs.take j).map PV.p) (s.sure 1))) wr)) := by
        rw [HBN.out]
        exact done_any ba bk _ q wr HRD.out ((HD.out.core.reads q hqm).1.below HB.out) (foldF_len (fun p hp => HD.out.ok.pcs p (by rw [HD.out.names]; exact List.mem_of_mem_take (List.map_take ▸ hp))) (HD.out.ok.sure 1)) hpo
      unfold PV.agg at HDN
      clear hrow hx hx2 hpb hr hqq hqm hpo
      have hjnI : (j : Int) < (qs.length : Int) := by omega
      by_cases hf : q.p.file = 1
      · rw [hf] at g0 HDN
        rw [if_pos hf] at HST
        clear hf
        generalize q.p.ap (foldF 1 ((qs.take j).map PV.p) (s.sure 1)) = M at *
        go_wp2_with fail
        refine HDN.out.mono ?_
        rintro e w4 ⟨a4, k4, rfl, ho4, hk4, hb4⟩
        have HO4 := Lib.hid ho4
        have HB4 := Lib.hid hb4
        clear ho4 hb4 HDN
        go_wp2_with fail
        refine ⟨⟨j + 1, a4, _, k4, hjn, rfl, rfl, by rw [HST.out], hk4, by rw [HST.out]; exact HO4.out.brd, fun h0 x hx => ?_, bt HB.out HB4.out⟩, by simp only [intOf]; omega⟩
        subst hx
        have h5 := World.ownsRow.lt HO4.out x.block rfl
        exact .inr ⟨Nat.le_trans HB.out.size h5.1, h5.2⟩
      · rw [if_neg hf] at HST
        have hfI : ¬ (q.p.file : Int) = 1 := by omega
        clear hf HDN
        go_wp2_with fail
        exact ⟨⟨j + 1, ba, bn, bk, hjn, rfl, rfl, by rw [HST.out]; exact HBN.out, hbk, by rw [HST.out]; exact HRD.out, HBX.out, HB.out⟩, by simp only [intOf]; omega⟩
    · obtain rfl : j = qs.length := by omega
      go_wp2_with fail
      go_ret
      have e9 : s.now 1 = foldF 1 ((qs.take qs.length).map PV.p) (s.sure 1) := by rw [List.take_length, ← HD.out.names]; rfl
      rw [e9]
      exact ⟨ba, bn, bk, rfl, HBN.out, by rw [← HBN.out]; exact hbk, HRD.out, fun h0 => HBX.out (by rw [HBN.out]; exact h0), HB.out⟩
end Go.Proofs.Ytdbbghmldaekhaa
