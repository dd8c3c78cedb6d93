/-
  The document's disk: what a piece does to bytes (done); a copy of bytes by append.
-/
import Derived.Test.YtdbbghmldaekhaaDSmall
import Derived.Test.YtdbbghmldaekhaaDMath2
namespace Go.Proofs.Ytdbbghmldaekhaa
open Go.ChangeShapes Go.WideShapes Go.ChangeAt Go.RowKit
set_option linter.unusedVariables false

theorem run_copy8 (w : World) (ty : TypeId) (A : Option Addr) (c : Nat) (l : List UInt8) (hA : BRd w A l) (hlim : l.length ≤ 140737488355328) :
    ∃ v' w', (Builtin.append_ #[29, 29] ty #[.slice none 0 0, .slice A l.length c]).run Try.prog w = .ok v' w' ∧ OwnB w' w.heap.size v' l ∧ Below w.heap.size w w' := by
  obtain ⟨i, hi, hz, hs, hbb⟩ := info_parts byteInfo
  have ht := Try.underlying29
  by_cases h0 : 0 < l.length
  · obtain ⟨g, off, rfl, hg, hc⟩ := hA h0
    have hl0 : (Lib.byteCells l).length = l.length * i.size := by rw [hs, Nat.mul_one]; simp [Lib.byteCells]
    obtain ⟨v', w', h1, h2, h3, _⟩ := run_append_own (P := Try.prog) w w.heap.size 29 ty 5 i (.int .u8 0) 1 1 ht hi hz hs hbb rfl (by decide) (.slice none 0 0) 0 [] (World.ownsRow_nil _ _ _ _) ⟨g, off, none⟩ l.length c (Lib.byteCells l) (by simp [Lib.byteCells]) (fun j u hj => by
      obtain ⟨hj', rfl⟩ := byteCells_get hj
      rw [Go.WideShapes.add_plain, hc j hj']) (fun u hu => by simp [Lib.byteCells] at hu; obtain ⟨c, _, rfl⟩ := hu; rfl) (by unfold maxLen; omega) (by omega) (Nat.le_refl _)
    refine ⟨v', w', h1, ?_, (Below.refl _ w).grown h3 (Nat.le_refl _) fun k hk => by simp [Value.ownBlock] at hk⟩
    rw [Nat.zero_add, List.nil_append] at h2
    exact h2
  · obtain rfl : l = [] := List.length_eq_zero_iff.1 (by omega)
    refine ⟨.slice none 0 0, w, ?_, OwnB.nil _ _, Below.refl _ _⟩
    cases A <;> simp [Builtin.append_, run_underlying ht, sizeOf, typeInfo, hi, Builtin.lenOf, Builtin.firstCells, loadCells, loadCellsFrom]
theorem wpList_copy8 {w : World} {ops : Array Oper} {rest : List Oper} {o : Oper} {a : Act} {Q : Exit → Act → World → Prop} (hgd : o.guard = none) (s x : Operand)
    (ho : o.op = .call { callee := .builtin .append, args := #[s, x], argTypes := #[29, 29] }) (A : Option Addr) (n c : Nat) (l : List UInt8) (hs : a.eval s = .slice none 0 0) (hx : a.eval x = .slice A n c) (hn : n = l.length) (hA : BRd w A l) (hlim : l.length ≤ 140737488355328)
    (h : ∀ v' w', OwnB w' w.heap.size v' l → Below w.heap.size w w' → wpList Try.prog ops Q rest (a.put o.dst v') w') : wpList Try.prog ops Q (o :: rest) a w := by
  subst hn
  refine wpList_plain hgd fun _ hK => ?_
  obtain ⟨v', w', hr, h2, h3⟩ := run_copy8 w o.type A c l hA hlim
  unfold Oper.wp execOp
  simp only [ho, resolve, invoke, builtin, Sem.run_bind, Sem.run_pure, Result.andThen_ok, List.map_toArray, List.map_cons, List.map_nil, hs, hx, hr]
  exact hK _ _ (h _ _ h2 h3)

/-- A piece, as the document's. -/
def PV.agg (q : PV) : Value := .agg #[.int .i64 q.p.file, .bool q.p.cut, .int .i64 q.p.pos, .slice q.A q.p.b.length q.c]
/-- What a call leaves that makes bytes. -/
def Made (l : List UInt8) (w : World) (e : Ending) (w' : World) : Prop := ∃ a k, e = .returned (.slice a l.length k) ∧ OwnB w' w.heap.size (.slice a l.length k) l ∧ l.length ≤ k ∧ Below w.heap.size w w'
theorem Made.mk {l : List UInt8} {w w' : World} {a : Option Addr} {n k : Nat} (hn : n = l.length) (ho : OwnB w' w.heap.size (.slice a n k) l) (hk : n ≤ k) (hb : Below w.heap.size w w') : Made l w (.returned (.slice a n k)) w' := by
  subst hn
  exact ⟨a, k, rfl, ho, hk, hb⟩
def lenE : Value → Nat
  | .slice _ n _ => n
  | _ => 0
theorem OwnB.lenE {w : World} {B : Nat} {v : Value} {l : List UInt8} (h : OwnB w B v l) : lenE v = l.length := by
  obtain ⟨a, cap, rfl, _, _⟩ := h.slice
  rfl
theorem OwnB.low {w : World} {B B' : Nat} {v : Value} {l : List UInt8} (h : OwnB w B v l) (hb : B' ≤ B) : OwnB w B' v l := by
  refine ⟨h.1, ?_⟩
  rcases h.2 with h2 | ⟨g, cap, cur, hv, hg, rest⟩
  · exact .inl h2
  · exact .inr ⟨g, cap, cur, hv, Nat.le_trans hb hg, rest⟩
theorem own_cutB {w : World} {B : Nat} {a : Option Addr} {cap : Nat} {l : List UInt8} (h : OwnB w B (.slice a l.length cap) l) (n : Nat) : OwnB w B (.slice a (min n l.length) cap) (l.take n) := by
  have h0 := own_cut (h.low (Nat.zero_le _)) n
  refine ⟨h0.1, ?_⟩
  rcases h0.2 with h2 | ⟨g, cap', cur, hv, hb, rest⟩
  · exact .inl h2
  · refine .inr ⟨g, cap', cur, hv, ?_, rest⟩
    obtain ⟨rfl, rfl⟩ : a = some ⟨g, 0, none⟩ ∧ cap = cap' := by
      simp only [Value.slice.injEq] at hv
      exact ⟨hv.1, hv.2.2⟩
    exact (World.ownsRow.lt h g rfl).1
theorem putAt_grown (k : Nat) (b l : List UInt8) : putAt k b (pad (k + b.length) l) = putAt k b l := by
  unfold putAt
  rw [pad_id (n := k + b.length) (l := pad (k + b.length) l) (by rw [pad_len]; omega)]
theorem pad_more {n : Nat} {l : List UInt8} (h : l.length ≤ n) : pad (n + 1) l = pad n l ++ [0] := by
  unfold pad
  rw [show n + 1 - l.length = (n - l.length) + 1 by omega, List.replicate_succ', List.append_assoc]
theorem putAt_step (k i : Nat) (b l : List UInt8) (hi : i < b.length) (hl : k + b.length ≤ l.length) : putAt k (b.take (i + 1)) l = (putAt k (b.take i) l).set (k + i) b[i] := by
  apply List.ext_getElem?
  intro j
  have h1 : (b.take (i + 1)).length = i + 1 := by simp; omega
  have h2 : (b.take i).length = i := by simp; omega
  have h3 : (putAt k (b.take i) l).length = l.length := by rw [putAt_len, h2]; omega
  have h4 : (putAt k (b.take (i + 1)) l).length = l.length := by rw [putAt_len, h1]; omega
  rw [List.getElem?_set]
  by_cases hj : j < l.length
  · by_cases e : k + i = j
    · subst e
      rw [if_pos rfl, if_pos (by omega), putAt_in (by omega) (by rw [h1]; omega), List.getElem?_take, if_pos (by omega), show k + i - k = i by omega, List.getElem?_eq_getElem hi]
    · rw [if_neg e]
      by_cases hin : k ≤ j ∧ j < k + i
      · rw [putAt_in hin.1 (by rw [h1]; omega), putAt_in hin.1 (by rw [h2]; omega), List.getElem?_take, if_pos (by omega), List.getElem?_take, if_pos (by omega)]
      · rw [putAt_out (by rw [h1]; omega) hj, putAt_out (by rw [h2]; omega) hj]
  · rw [List.getElem?_eq_none (by omega), if_neg (by omega), List.getElem?_eq_none (by omega)]
theorem OwnB.put {w : World} {B n cap : Nat} {a : Option Addr} {l : List UInt8} (h : OwnB w B (.slice a n cap) l) (hn : n = l.length) (i : Nat) (hi : i < n) (c : UInt8) : ∃ g, a = some ⟨g, 0, none⟩ ∧ B ≤ g ∧ g < w.heap.size ∧ w.frozen? ⟨g, i, none⟩ = false ∧ (∃ z, w.cell? ⟨g, i, none⟩ = some (.int .u8 z)) ∧ OwnB (w.setCell ⟨g, i, none⟩ (.int .u8 (c.toNat : Int))) B (.slice a n cap) (l.set i c) ∧ Fr (fun k => k = g) w (w.setCell ⟨g, i, none⟩ (.int .u8 (c.toNat : Int))) := by
  subst hn
  obtain ⟨g, cap', hv, hb, hg⟩ := World.ownsRow.form h (by omega)
  obtain ⟨rfl, rfl⟩ : a = some ⟨g, 0, none⟩ ∧ cap = cap' := by simpa using hv
  have hc := World.ownsRow.cells h (g := g) rfl i (.int .u8 (l[i].toNat : Int)) (by rw [Lib.byteCells, List.getElem?_map, List.getElem?_eq_getElem hi]; rfl)
  rw [Go.WideShapes.add_plain, Nat.zero_add] at hc
  refine ⟨g, rfl, hb, hg, World.ownsRow.frozenAt h i, ⟨_, hc⟩, ?_, Fr.set _ _ _ _ rfl⟩
  have := (World.ownsRow.stored h i (.int .u8 (c.toNat : Int))).1
  unfold OwnB
  rw [List.length_set]
  have e : Lib.byteCells (l.set i c) = (Lib.byteCells l).set i (.int .u8 (c.toNat : Int)) := by
    unfold Lib.byteCells
    rw [List.map_set]
  rw [e]
  exact this
set_option maxHeartbeats 3200000 in
set_option maxRecDepth 100000 in
theorem done_cut (A : Option Addr) (c : Nat) (l : List UInt8) (q : PV) (w : World) (hA : BRd w A l) (hl : l.length ≤ maxFile) (hcut : q.p.cut = true) :
    Calls Try.prog 106 #[.slice A l.length c, q.agg] w (Made (q.p.ap l) w) := by
  unfold maxFile at hl
  have e : q.p.ap l = l.take q.p.pos := by unfold Pc.ap; rw [if_pos hcut]
  rw [e]
  unfold PV.agg
  rw [hcut]
  generalize q.p.pos = pos at *
  generalize (q.p.file : Int) = F at *
  generalize q.p.b.length = bn at *
  generalize q.A = bA at *
  generalize q.c = bc at *
  have HA := Lib.hid (fun o => hA.alloc o)
  clear hA
  go_enter Try.func106, Try.ntmps106
  go_wp2_with (at_builtin; refine wpList_copy8 rfl _ _ rfl A l.length c l rfl rfl rfl (HA.out _) (by omega) ?_; intro v2 w2 hown2 hb2; refine Hid.out ?_)
  refine Lib.hid ?_
  obtain ⟨a2, k2, rfl, hk2, hn2⟩ := hown2.slice
  have hmin : (min (pos : Int) (l.length : Int)) = ((min pos l.length : Nat) : Int) := by omega
  have hle : min pos l.length ≤ k2 := by omega
  have hb := (bcell hb2).1
  have d1 : w2.cell? ⟨w.heap.size, 1, none⟩ = some (.bool true) := by rw [hb _ _ (by simp)]; exact World.cell?_alloc_at _ _ _ _ rfl
  have d2 : w2.cell? ⟨w.heap.size, 2, none⟩ = some (.int .i64 pos) := by rw [hb _ _ (by simp)]; exact World.cell?_alloc_at _ _ _ _ rfl
  have hgl : w.heap.size < w2.heap.size := Nat.lt_of_lt_of_le (by simp) hb2.size
  have HO := Lib.hid (own_cutB hown2 pos)
  have HB := Lib.hid (b1 hb2)
  have HT : Hid ((l.take pos).length = min pos l.length) := List.length_take
  clear hown2 hb2 hb hn2
  go_wp2_with fail
  go_ret
  exact Made.mk HT.out.symm (HO.out.low (by simp)) hle HB.out
set_option maxHeartbeats 6400000 in
set_option maxRecDepth 100000 in
theorem done_put (A : Option Addr) (c : Nat) (l : List UInt8) (q : PV) (w : World) (hA : BRd w A l) (hq : BRd w q.A q.p.b) (hl : l.length ≤ maxFile) (hok : q.p.Ok) (hcut : q.p.cut = false) :
    Calls Try.prog 106 #[.slice A l.length c, q.agg] w (Made (q.p.ap l) w) := by
  have e : q.p.ap l = putAt q.p.pos q.p.b l := by unfold Pc.ap; rw [if_neg (by rw [hcut]; simp)]
  have hb0 := hok.full hcut
  have hfit := hok.fits
  unfold maxFile at hl hfit
  rw [e]
  unfold PV.agg
  rw [hcut]
  clear hok e
  generalize (q.p.file : Int) = F at *
  generalize q.p.pos = pos at *
  generalize q.p.b = b at *
  obtain ⟨bg, bo, hqa, hbg, hbc⟩ := hq hb0
  rw [hqa] at hq ⊢
  generalize q.c = bc at *
  clear hqa hcut
  obtain ⟨bl, hbl⟩ : ∃ bl, bl = b.length := ⟨_, rfl⟩
  simp only [← hbl]
  have HBL := Lib.hid hbl
  obtain ⟨N, hN⟩ : ∃ N, N = max l.length (pos + bl) := ⟨_, rfl⟩
  have HN := Lib.hid hN
  have hbl0 : 0 < bl := by omega
  have hfI : (pos : Int) + (bl : Int) ≤ 4194304 := by omega
  have hlI : (l.length : Int) ≤ 4194304 := by omega
  have HA := Lib.hid (fun o => hA.alloc o)
  have HQ := Lib.hid hq
  have HBG := Lib.hid hbg
  clear hA hq hbc hbg hbl hb0 hfit hl hN
  go_enter Try.func106, Try.ntmps106
  go_wp2_with (at_builtin; refine wpList_copy8 rfl _ _ rfl A l.length c l rfl rfl rfl (HA.out _) (by omega) ?_; intro v2 w2 hown2 hb2; refine Hid.out ?_)
  refine Lib.hid ?_
  have HO := Lib.hid hown2
  have HB := Lib.hid (b1 hb2)
  have hb := (bcell hb2).1
  have d1 : w2.cell? ⟨w.heap.size, 1, none⟩ = some (.bool false) := by rw [hb _ _ (by simp)]; exact World.cell?_alloc_at _ _ _ _ rfl
  have d2 : Hid (w2.cell? ⟨w.heap.size, 2, none⟩ = some (.int .i64 pos)) := by show _ = _; rw [hb _ _ (by simp)]; exact World.cell?_alloc_at _ _ _ _ rfl
  have d3 : Hid (w2.cell? ⟨w.heap.size, 3, none⟩ = some (.slice (some ⟨bg, bo, none⟩) bl bc)) := by show _ = _; rw [hb _ _ (by simp)]; exact World.cell?_alloc_at _ _ _ _ rfl
  have hgl : w.heap.size < w2.heap.size := Nat.lt_of_lt_of_le (by simp) hb2.size
  have HNB : Hid (∀ k, v2.ownBlock = some k → w.heap.size < k) := fun k hk => by have := (World.ownsRow.lt hown2 k hk).1; simp at this; omega
  have HQ2 := Lib.hid ((HQ.out.alloc _).below hb2)
  clear hown2 hb2 hb
  go_wp2_with fail
  go_loopw [5] (fun o wr => ∃ (j : Nat), l.length ≤ j ∧ j ≤ N ∧ OwnB wr w.heap.size o (pad j l) ∧ Grw w2 wr v2 o) (fun o _ => N - lenE o)
  case atStart => exact ⟨l.length, Nat.le_refl _, by have := HN.out; omega, by rw [pad_id (Nat.le_refl _)]; exact HO.out.low (by simp), Grw.refl _ _⟩
  case round =>
    obtain ⟨j, hj1, hj2, hown, hg⟩ := hrel
    have hlp : (pad j l).length = j := by rw [pad_len]; omega
    obtain ⟨a3, k3, rfl, hk3, -⟩ := hown.slice
    rw [hlp] at hown hk3 hg
    simp only [hlp]
    have HO3 := Lib.hid hown
    have HG := Lib.hid hg
    have e2 : wr.cell? ⟨w.heap.size, 2, none⟩ = some (.int .i64 pos) := by
      rw [World.cell?_of_block (w := w2) (w' := wr) (hg.old hgl fun h => Nat.lt_irrefl _ (HNB.out _ h))]; exact d2.out
    have e3 : wr.cell? ⟨w.heap.size, 3, none⟩ = some (.slice (some ⟨bg, bo, none⟩) bl bc) := by
      rw [World.cell?_of_block (w := w2) (w' := wr) (hg.old hgl fun h => Nat.lt_irrefl _ (HNB.out _ h))]; exact d3.out
    have hwl : w.heap.size ≤ wr.heap.size := Nat.le_trans (Nat.le_of_lt hgl) hg.by_.size
    have hjI : (j : Int) ≤ 4194304 := by have := HN.out; omega
    clear hown hg
    by_cases hjn : (j : Int) < (pos : Int) + (bl : Int)
    · go_wp2_with (at_builtin; refine wpList_byte rfl _ _ rfl w.heap.size (.slice a3 j k3) (pad j l) 0 rfl rfl rfl HO3.out hwl (by rw [pad_len]; omega) ?_; intro v4 w4 hown4 hg4; refine Hid.out ?_)
      refine Lib.hid ?_
      rw [← pad_more hj1] at hown4
      have hlv := hown4.lenE
      rw [pad_len] at hlv
      have HLV := Lib.hid hlv
      have HO4 := Lib.hid hown4
      have HG4 := Lib.hid (HG.out.trans hg4)
      clear hown4 hg4 hlv
      go_wp2_with fail
      go_roundw
      case rel => exact ⟨j + 1, by omega, by have := HN.out; omega, HO4.out, HG4.out⟩
      case measure => rw [HLV.out]; simp [lenE]; have := HN.out; omega
    · obtain rfl : j = N := by have := HN.out; omega
      have HG2 := Lib.hid HG.out
      obtain ⟨bi, hbi⟩ : ∃ L, L = pad j l := ⟨_, rfl⟩
      have HLP := Lib.hid hlp
      rename World => WA
      have HL : Hid (putAt pos b (pad j l) = putAt pos b l) := by
        by_cases hc : pos + b.length ≤ l.length
        · have hjl : j = l.length := by have := HN.out; have := HBL.out; omega
          show _ = _
          rw [hjl, pad_id (Nat.le_refl _)]
        · have hjl : j = pos + b.length := by have := HN.out; have := HBL.out; omega
          show _ = _
          rw [hjl, putAt_grown]
      rw [← hbi] at HO3 HL HLP
      have HWL : Hid (w.heap.size < WA.heap.size) := Nat.lt_of_lt_of_le hgl HG.out.by_.size
      have HAB : Hid (∀ k, (Value.slice a3 j k3).ownBlock = some k → w.heap.size < k) := fun k hk => by
        rcases HG.out.at_ with e | e
        · exact HNB.out k (e ▸ hk)
        · exact Nat.lt_of_lt_of_le hgl (e k hk)
      have HNA : Hid (∀ k, k = w.heap.size → (Value.slice a3 j k3).ownBlock ≠ some k) := fun k hk e => by have := HAB.out k e; omega
      have HQA : Hid (BRd WA (some ⟨bg, bo, none⟩) b) := HQ2.out.grw HG.out fun a ha e => by
        obtain rfl := Option.some.inj ha
        have := HNB.out _ e
        have := HBG.out
        simp at *
        omega
      have HAP : Hid (Apart (some ⟨bg, bo, none⟩) (.slice a3 j k3)) := fun a ha e => by
        obtain rfl := Option.some.inj ha
        have := HAB.out _ e
        have := HBG.out
        simp at *
        omega
      have HBX : Hid (∀ wr, Grw WA wr (.slice a3 j k3) (.slice a3 j k3) → Below w.heap.size w wr) := fun wr hg => below_tr (below_tr HB.out (HG.out.below (HO.out.low (B' := w.heap.size) (by simp)) (Nat.le_of_lt hgl))) (hg.below HO3.out (Nat.le_of_lt HWL.out))
      clear hbi hlp
      go_wp2_with fail
      go_loopw [6] (fun o wr => ∃ (i : Nat), i ≤ bl ∧ o = .int .i64 (i : Int) ∧ OwnB wr w.heap.size (.slice a3 j k3) (putAt pos (b.take i) bi) ∧ Grw WA wr (.slice a3 j k3) (.slice a3 j k3)) (fun o _ => bl - (intOf o).toNat)
      case atStart => exact ⟨0, by omega, rfl, by rw [List.take_zero, putAt_nil _ _ (by have := HLP.out; have := HN.out; omega)]; exact HO3.out, Grw.refl _ _⟩
      case round =>
        obtain ⟨i, hi, rfl, hown, hg⟩ := hrel
        have f2 : wr.cell? ⟨w.heap.size, 2, none⟩ = some (.int .i64 pos) := by
          rw [World.cell?_of_block (w := WA) (w' := wr) (hg.old HWL.out (HNA.out _ rfl))]; exact e2
        have f3 : wr.cell? ⟨w.heap.size, 3, none⟩ = some (.slice (some ⟨bg, bo, none⟩) bl bc) := by
          rw [World.cell?_of_block (w := WA) (w' := wr) (hg.old HWL.out (HNA.out _ rfl))]; exact e3
        have hO := Lib.hid hown
        have hG := Lib.hid hg
        have hfr : w.heap.size < wr.heap.size := Nat.lt_of_lt_of_le HWL.out hg.by_.size
        clear hown hg
        by_cases hib : i < bl
        · have hlp2 : (putAt pos (b.take i) bi).length = j := by rw [putAt_len, List.length_take]; have := HLP.out; have := HBL.out; have := HN.out; omega
          have hib' : i < b.length := by have := HBL.out; omega
          have hsj : pos + i < j := by have := HN.out; omega
          obtain ⟨g3, rfl, hg3, hg3l, hfz, ⟨z3, hz3⟩, hput, hfp⟩ := OwnB.put hO.out hlp2.symm (pos + i) hsj b[i]
          rw [← putAt_step pos i b bi hib' (by have := HLP.out; have := HBL.out; have := HN.out; omega)] at hput
          have hbc : wr.cell? ⟨bg, bo + i, none⟩ = some (.int .u8 (b[i].toNat : Int)) := by
            obtain ⟨g', o', e', hl', hc'⟩ := (HQA.out.grw hG.out HAP.out) (by omega)
            obtain ⟨rfl, rfl⟩ : bg = g' ∧ bo = o' := by simpa using e'
            exact hc' i hib'
          have hbgl : bg < wr.heap.size := Nat.lt_of_lt_of_le HBG.out (Nat.le_of_lt hfr)
          have HP := Lib.hid hput
          have HGP := Lib.hid (hG.out.trans (Grw.of_own (n := j) (c := k3) ⟨hfp.os, hfp.tape, hfp.output, hfp.size, fun k hk hne => hfp.block k hk fun e => hne (by rw [e])⟩))
          have hiI : (i : Int) < (bl : Int) := by omega
          obtain ⟨k, hk⟩ : ∃ k, k = pos + i := ⟨_, rfl⟩
          have hpi : (pos : Int) + (i : Int) = (k : Int) := by omega
          rw [← hk] at hfz hz3 HP HGP hsj
          have hkI : (k : Int) < (j : Int) := by omega
          have hk4 : (k : Int) ≤ 4194304 := by omega
          have hk0 : (0 : Int) ≤ (k : Int) := by omega
          have hkw : IntKind.i64.wrap (k : Int) = (k : Int) := by rw [IntKind.wrap_i64]; omega
          rw [← hk] at hfp
          have hn1 : ¬ w.heap.size = g3 := fun e => by have := HAB.out g3 rfl; omega
          have hn2 : ¬ bg = g3 := fun e => by have := HAB.out g3 rfl; have := HBG.out; omega
          have m2 : (wr.setCell ⟨g3, k, none⟩ (.int .u8 (b[i].toNat : Int))).drew.cell? ⟨w.heap.size, 2, none⟩ = some (.int .i64 pos) := (World.cell?_of_block (w := wr) (w' := wr.setCell ⟨g3, k, none⟩ (.int .u8 (b[i].toNat : Int))) (a := ⟨w.heap.size, 2, none⟩) (hfp.block _ hfr hn1)).trans f2
          have m3 : (wr.setCell ⟨g3, k, none⟩ (.int .u8 (b[i].toNat : Int))).drew.cell? ⟨w.heap.size, 3, none⟩ = some (.slice (some ⟨bg, bo, none⟩) bl bc) := (World.cell?_of_block (w := wr) (w' := wr.setCell ⟨g3, k, none⟩ (.int .u8 (b[i].toNat : Int))) (a := ⟨w.heap.size, 3, none⟩) (hfp.block _ hfr hn1)).trans f3
          have m4 : (wr.setCell ⟨g3, k, none⟩ (.int .u8 (b[i].toNat : Int))).drew.cell? ⟨bg, bo + i, none⟩ = some (.int .u8 (b[i].toNat : Int)) := (World.cell?_of_block (w := wr) (w' := wr.setCell ⟨g3, k, none⟩ (.int .u8 (b[i].toNat : Int))) (a := ⟨bg, bo + i, none⟩) (hfp.block _ hbgl hn2)).trans hbc
          clear hput hfp hlp2 hk
          generalize (b[i].toNat : Int) = bi8 at *
          go_wp2_with fail
          go_region_held3 (fun w' => w'.cell? ⟨w.heap.size, 2, none⟩ = some (.int .i64 pos) ∧ w'.cell? ⟨w.heap.size, 3, none⟩ = some (.slice (some ⟨bg, bo, none⟩) bl bc) ∧ w'.cell? ⟨bg, bo + i, none⟩ = some (.int .u8 bi8)) (((try go_split_ands); first | assumption | (refine ⟨?_, ?_, ?_⟩ <;> first | assumption | go_keep) | go_keep)) (first | fail)
          go_wp2_with fail
          exact ⟨⟨i + 1, hib, rfl, HP.out, HGP.out.trans (Grw.of_below ((Below.refl _ _).drew) (Grw.refl _ _))⟩, by simp only [intOf]; omega⟩
        · obtain rfl : i = bl := by omega
          go_wp2_with fail
          go_ret
          have hO' := hO.out
          have e9 : putAt pos (b.take i) bi = putAt pos b l := by
            rw [List.take_of_length_le (by have := HBL.out; omega)]
            exact HL.out
          rw [e9] at hO'
          exact Made.mk (by rw [putAt_len]; have := HN.out; have := HBL.out; omega) hO' hk3 (HBX.out _ hG.out)
theorem done_any (A : Option Addr) (c : Nat) (l : List UInt8) (q : PV) (w : World) (hA : BRd w A l) (hq : BRd w q.A q.p.b) (hl : l.length ≤ maxFile) (hok : q.p.Ok) :
    Calls Try.prog 106 #[.slice A l.length c, q.agg] w (Made (q.p.ap l) w) := by
  cases h : q.p.cut with
  | true => exact done_cut A c l q w hA hl h
  | false => exact done_put A c l q w hA hq hl hok h
end Go.Proofs.Ytdbbghmldaekhaa
