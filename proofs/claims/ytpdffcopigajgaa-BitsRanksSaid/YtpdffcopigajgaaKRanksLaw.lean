/-
  BitsRanks: what is picked lies where it is told; as many are set ahead of it as were told before it. No condition beyond the form's own.
-/
import Derived.Test.YtpdffcopigajgaaKRound
import Derived.Test.YtpdffcopigajgaaKOpen
import Derived.Test.YtpdffcopigajgaaKNot
namespace Go.Proofs.Ytpdffcopigajgaa
open Go.ChangeShapes Go.WideShapes Go.ChangeAt Go.RowKit Go.Deep Go.Shelf Go.Sort
set_option linter.unusedVariables false
attribute [local go_sem] Oper.semAt_some

theorem whereU_pk (t : List Bool) (n : Nat) : whereU (pkB t) n = whereT t n := by
  unfold whereU whereT
  congr 1
  funext x
  rw [bit_pk]
theorem whereT_cnt (t : List Bool) : ∀ n, n ≤ t.length → (whereT t n).length = cntT (t.take n) := by
  intro n hn
  induction n with
  | zero => simp [whereT, cntT]
  | succ n ih =>
    have hnl : n < t.length := by omega
    have ih := ih (by omega)
    have hgd : t.getD n false = t[n] := getD_lt hnl
    rw [List.take_succ_eq_append_getElem hnl]
    unfold cntT at ih ⊢
    rw [List.count_append]
    cases hy : t[n] with
    | false => rw [whereT_skip t n (hgd.trans hy), ih]; simp
    | true => rw [whereT_snoc t n (hgd.trans hy), List.length_append, ih]; simp
/-- What is told at place q. -/
theorem told_at (t : List Bool) (q : Nat) (h : q < (whereL (pkB t)).length) : ∃ h2 : (whereL (pkB t))[q] < t.length, t[(whereL (pkB t))[q]] = true ∧ rankV t ((whereL (pkB t))[q] : Nat) = q := by
  obtain ⟨y, hy⟩ : ∃ y, y = (whereL (pkB t))[q] := ⟨_, rfl⟩
  have hm : y ∈ whereL (pkB t) := by rw [hy]; exact List.getElem_mem h
  have hb : bitL (pkB t) y = true := by unfold whereL whereU at hm; exact (List.mem_filter.1 hm).2
  have hg : t.getD y false = true := by rw [← bit_pk]; exact hb
  have hyl : y < t.length := by
    rcases Nat.lt_or_ge y t.length with h0 | h0
    · exact h0
    · rw [getD_ge h0] at hg; cases hg
  have hty : t[y] = true := by rw [← getD_lt (d := false) hyl]; exact hg
  have h1 := whereU_prefix (pkB t) (y + 1)
  rw [← whereU_snoc _ _ hb, List.length_append, List.length_singleton] at h1
  have hlt : (whereU (pkB t) y).length < (whereL (pkB t)).length := by
    have h3 := congrArg List.length h1
    rw [List.length_append, List.length_take, List.length_singleton] at h3
    omega
  have h4 : (whereL (pkB t))[(whereU (pkB t) y).length] = y := by
    have h5 : (whereU (pkB t) y ++ [y])[(whereU (pkB t) y).length]? = some y := by simp
    rw [h1, List.getElem?_take] at h5
    split at h5
    · rw [List.getElem?_eq_getElem hlt] at h5
      exact Option.some.inj h5
    · cases h5
  have hp : (whereL (pkB t)).Pairwise (fun a b => a < b) := List.Pairwise.filter _ List.pairwise_lt_range
  have hq : (whereU (pkB t) y).length = q := by
    rw [List.pairwise_iff_getElem] at hp
    rcases Nat.lt_trichotomy (whereU (pkB t) y).length q with h0 | h0 | h0
    · have := hp _ _ hlt h h0; omega
    · exact h0
    · have := hp _ _ h hlt h0; omega
  refine ⟨by rw [← hy]; exact hyl, ?_, ?_⟩
  · simp only [← hy]; exact hty
  · rw [← hy]
    unfold rankV
    rw [Int.toNat_natCast, ← whereT_cnt t y (by omega), ← whereU_pk, hq]
theorem told_all (t : List Bool) : (whereL (pkB t)).length = cntT t := by
  rw [where_eq, whereT_cnt t _ (Nat.le_refl _), List.take_length]
theorem rank_all (t : List Bool) : rankV t (t.length : Int) = cntT t := by
  unfold rankV
  rw [Int.toNat_natCast, List.take_length]
theorem pick_at (P : List UInt8) (q : Nat) (h : q < (whereL P).length) : pickV P (q : Int) = ((((whereL P)[q] : Nat) : Int), true) := by
  unfold pickV
  rw [if_pos (by omega), Int.toNat_natCast, getD_lt h]
structure RankI (w w7 : World) (v : Value) (B3 B4 : Nat) (a : Option Addr) (P : List UInt8) (pre : List Nat) (W : World) : Prop where
  y1 : Boxed W w.heap.size 22 v
  y2 : Boxed W (w.heap.size + 1) 4 (.bool false)
  y4 : Boxed W B4 3 (.int .i64 (pre.length : Int))
  ka : KeptA B3 a w7 W
  pr : pre = (whereL P).take pre.length
  bl : Below w.heap.size w W
theorem kept_set {B : Nat} {a : Option Addr} {W : World} {b : Nat} {u : Value} (h : b ≠ B) (ha : ∀ x, a = some x → x.block ≠ b) : KeptA B a W (W.setCell ⟨b, 0, none⟩ u) := ⟨by simp [World.setCell], Below.heap_setCell _ _ _ _ (by simp; omega), fun x e => Below.heap_setCell _ _ _ _ (by have := ha x e; simp; omega)⟩
theorem below_keeps {B : Nat} {W W' : World} (hb : Below W.heap.size W W') : KeepsFrom B W W' := ⟨hb.size, fun k o _ hk _ => (hb.block k (box_lt hk)).trans hk⟩
theorem boxed_onD {W w9 : World} {b : Nat} {t : TypeId} {v : Value} (h : Boxed W b t v) (hb : Below W.drew.heap.size W.drew w9) : Boxed w9 b t v := boxed_below (W := W.drew) h hb
structure RankX (P : List UInt8) (pre : List Nat) : Prop where
  ne : ∀ k, pre ≠ whereU P k
theorem KeptA.grown {B : Nat} {a : Option Addr} {X Y Z : World} {row : Option Nat} (h : KeptA B a X Y) (hg : Y.grownBy Z row) (hr : ∀ r, row = some r → X.heap.size ≤ r) (hB : B < X.heap.size) (ha : ∀ x, a = some x → x.block < X.heap.size) : KeptA B a X Z :=
  ⟨Nat.le_trans h.1 hg.size, (hg.block B (Nat.lt_of_lt_of_le hB h.1) fun e => by have := hr B e.symm; omega).trans h.2.1, fun x e => (hg.block _ (Nat.lt_of_lt_of_le (ha x e) h.1) fun e2 => by have := hr _ e2.symm; have := ha x e; omega).trans (h.2.2 x e)⟩
theorem RankI.kept {w w7 W W' : World} {v : Value} {B3 B4 : Nat} {a : Option Addr} {P : List UInt8} {pre : List Nat} {row : Option Nat} (h : RankI w w7 v B3 B4 a P pre W) (hw : w.heap.size ≤ w7.heap.size) (hB : B3 < w7.heap.size) (ha : ∀ x, a = some x → x.block < w7.heap.size) (hg : W.grownBy W' row) (hr : ∀ r, row = some r → w7.heap.size ≤ r ∧ ∃ o : Obj, W.heap[r]? = some o ∧ o.isCells = false) : RankI w w7 v B3 B4 a P pre W' :=
  ⟨boxed_own' h.y1 hg fun r e => (hr r e).2, boxed_own' h.y2 hg fun r e => (hr r e).2, boxed_own' h.y4 hg fun r e => (hr r e).2, h.ka.grown hg (fun r e => (hr r e).1) hB ha, h.pr, below_grown h.bl hg fun r e => Nat.le_trans hw (hr r e).1⟩
theorem two_world (w : World) (u v : Value) (t1 t2 : TypeId) : ∃ W2, (w.alloc (.cells #[u] t1)).alloc (.cells #[v] t2) = W2 ∧ W2.heap.size = w.heap.size + 2 ∧ Below w.heap.size w W2 ∧ Boxed W2 w.heap.size t1 u ∧ Boxed W2 (w.heap.size + 1) t2 v := by
  refine ⟨_, rfl, by simp, bt (alloc_below _ _) (alloc_below _ _), (Boxed.new w t1 u).alloc _, ?_⟩
  have := Boxed.new (w.alloc (.cells #[u] t1)) t2 v
  rw [World.size_alloc] at this
  exact this
set_option maxHeartbeats 16000000 in
set_option maxRecDepth 100000 in
theorem bitsRanks_walk (A : Option Addr) (c : Nat) (t : List Bool) (w : World) (hA : KRd w A t) (hl : t.length ≤ 140737488351232) :
    Calls Try.prog 8 #[.slice A t.length c] w fun e w' => e = .returned (.bool true) ∧ Below w.heap.size w w' := by
  have HOF := Lib.hid (fun (W : World) (h : Below w.heap.size w W) => of_any A c t W (hA.below h) (by omega))
  have hpl : (pkB t).length ≤ 17592186044416 := by rw [pk_len]; omega
  have HPK := Lib.hid (fun (a : Option Addr) (c : Nat) (k : Int) (W : World) (h : BRd W a (pkB t)) => pick_any (t.length : Int) a c (pkB t) k W h hpl)
  have HAL := Lib.hid (fun (a : Option Addr) (c : Nat) (W : World) (h : BRd W a (pkB t)) => all_any (t.length : Int) a c (pkB t) W h (by omega))
  have HCN := Lib.hid (fun (a : Option Addr) (c : Nat) (W : World) (h : BRd W a (pkB t)) (h2 : (pkB t).length ≤ c) (h3 : a = none → c = 0) => count_any (t.length : Int) a c (pkB t) W h hpl h2 h3)
  have HRK := Lib.hid (fun (a : Option Addr) (c : Nat) (i : Int) (W : World) (h : BRd W a (pkB t)) (h2 : (pkB t).length ≤ c) (h3 : a = none → c = 0) => rank_any (t.length : Int) a c (pkB t) i W h hpl h2 h3)
  rw [tr_pk] at HPK HAL HCN HRK
  have HTA := Lib.hid (fun q h => told_at t q h)
  have HTC := Lib.hid (told_all t)
  have HRA := Lib.hid (rank_all t)
  have HPA := Lib.hid (fun q h => pick_at (pkB t) q h)
  have HKR := Lib.hid (fun (W : World) (h : Below w.heap.size w W) => hA.below h)
  have HPL := Lib.hid hpl
  have hcl : cntT t ≤ t.length := cnt_le t
  unfold BPost at HOF
  unfold AllPost at HAL
  generalize pkB t = P at *
  clear hA hpl
  refine (callsIn_wide (n := 6)).1 ?_
  refine callsIn_of_wp_marks Try.func8 rfl trivial ?_ rfl
  simp only [Try.ntmps8, List.size_toArray, List.length_cons, List.length_nil, Nat.reduceAdd, Nat.reduceSub, Array.replicate_succ, Array.replicate_zero, List.push_toArray, List.append_toArray, List.nil_append, List.cons_append]
  gi_wp2_with fail
  obtain ⟨W2, hW2, hS2, hb02, x1, x2⟩ := two_world w (.slice A t.length c) (.bool false) 22 4
  rw [hW2]
  have HS2 := Lib.hid hS2
  have HB2 := Lib.hid hb02
  have HX1 := Lib.hid x1
  have HX2 := Lib.hid x2
  clear hW2 hS2 hb02 x1 x2
  refine ⟨trivial, (callsIn_wide.2 (HOF.out _ HB2.out)).mono ?_⟩
  rintro e w3 ⟨a, ca, rfl, ho, hac, hnc, hb3⟩
  have HAC := Lib.hid hac
  have HNC := Lib.hid hnc
  have HR3 := Lib.hid ho.brd
  have HA3 : Hid (∀ x, a = some x → x.block < w3.heap.size) := fun x e => by
    subst e
    exact (World.ownsRow.lt ho x.block rfl).2
  have HB23 := Lib.hid hb3
  clear hac hnc ho hb3
  gi_wp2_with fail
  have x3 := box_new w3 (.cells #[.int .i64 (t.length : Int), .slice a P.length ca] 25)
  have hb34 := alloc_below w3 (.cells #[.int .i64 (t.length : Int), .slice a P.length ca] 25)
  have hS4 : (w3.alloc (.cells #[.int .i64 (t.length : Int), .slice a P.length ca] 25)).heap.size = w3.heap.size + 1 := by simp
  generalize w3.alloc (.cells #[.int .i64 (t.length : Int), .slice a P.length ca] 25) = W4 at *
  have HB24 := Lib.hid (bt HB23.out hb34)
  have HX3 := Lib.hid x3
  have HS4 := Lib.hid hS4
  have HR4 := Lib.hid (HR3.out.below hb34)
  clear hS4 hb34 x3
  refine ⟨trivial, (callsIn_wide.2 (begun_any _)).mono ?_⟩
  rintro e w5 ⟨rfl, hb5⟩
  have HB25 := Lib.hid (bt HB24.out hb5)
  have HX3 := Lib.hid (box_next HX3.out hb5)
  have HR5 := Lib.hid (HR4.out.below hb5)
  have HS5 := Lib.hid (show w3.heap.size + 1 ≤ w5.heap.size from by have := HS4.out; have := hb5.size; omega)
  clear hb5 HR4 HS4
  obtain ⟨k0, k1⟩ := (box_cells2 HX3.out).1
  have q1 := (box_cells2 (box_next HX3.out (alloc_below w5 (.cells #[.int .i64 0] 3)))).1.1
  have q2 := (box_cells2 (box_next HX3.out (alloc_below w5 (.cells #[.int .i64 0] 3)))).1.2
  clear k0 k1
  gi_wp2_with fail
  have HX4 : Hid (Boxed (w5.alloc (.cells #[.int .i64 0] 3)) w5.heap.size 3 (.int .i64 0)) := Boxed.new w5 3 (.int .i64 0)
  have hb6 := alloc_below w5 (.cells #[.int .i64 0] 3)
  have hs6 : (w5.alloc (.cells #[.int .i64 0] 3)).heap.size = w5.heap.size + 1 := by simp
  generalize w5.alloc (.cells #[.int .i64 0] 3) = w6 at *
  have HS6 := Lib.hid hs6
  have HR6 := Lib.hid (HR5.out.below hb6)
  have HX3 := Lib.hid (box_next HX3.out hb6)
  have HB26 := Lib.hid (bt HB25.out hb6)
  clear q1 q2 hs6 hb6 HR5
  refine ⟨trivial, (callsIn_wide.2 (HAL.out _ _ _ HR6.out)).mono ?_⟩
  rintro e w7 ⟨Bs, aS, cS, rfl, hBs, hbx, hbr, hba, hb7⟩
  have HBX := Lib.hid hbx
  have HBR := Lib.hid hbr
  have HBA := Lib.hid hba
  have HBS := Lib.hid hBs
  have HB27 := Lib.hid (bt HB26.out hb7)
  have HB07 := Lib.hid (bt HB2.out HB27.out)
  have HX3 := Lib.hid (box_next HX3.out hb7)
  have HR7 := Lib.hid (HR6.out.below hb7)
  have HW := Lib.hid (show w.heap.size + 2 ≤ w3.heap.size ∧ w3.heap.size + 1 ≤ w5.heap.size ∧ w5.heap.size + 1 ≤ Bs ∧ Bs < w7.heap.size from by
    have := HS2.out; have := HB23.out.size; have := HS5.out; have := HS6.out; have := HBS.out; have := box_lt HBX.out
    exact ⟨by omega, by omega, by omega, by omega⟩)
  have HI0 : Hid (RankI w w7 (.slice A t.length c) w3.heap.size w5.heap.size a P [] w7) := ⟨boxed_below HX1.out HB27.out, boxed_below HX2.out HB27.out, boxed_below HX4.out hb7, KeptA.refl _, by simp, HB07.out⟩
  clear hbx hbr hba hb7 hBs HR6 HR3 HX1 HX2 HX4 HB2 HB23 HB24 HB25 HB26
  gi_wp2_with fail
  refine wpIn_rangeFunc_ownG rfl (by omega) (gf := 59) (lb := #[.pointer (some ⟨Bs, 0, none⟩)]) rfl trivial (enters_of Try.func59 (by kernel_rfl) rfl)
    (all_stops (6 - 1) (by omega) Bs (t.length : Int) aS cS P (by have := HPL.out; omega) w7 HBX.out HBR.out (fun x e => (HBA.out x e).2))
    KeptA.trans (fun W l o o' hl hlo _ _ => ⟨by simp [World.putObj], World.putObj_heap_other (by have := box_lt HBX.out; omega), fun x e => World.putObj_heap_other (by have := (HBA.out x e).2; omega)⟩) (Below.refl _ _) (fun _ => rfl)
    (fun pre W => RankI w w7 (.slice A t.length c) w3.heap.size w5.heap.size a P pre W)
    (fun cd pre W => cd = .ret ∧ RankX P pre)
    (fun pre W W' row hI hg hr => hI.kept HB07.out.size (by have := HW.out; omega) (fun x e => by have := HW.out; have := HA3.out x e; omega) hg hr)
    (fun cd pre W W' row hI hg hr => hI)
    HI0.out ?a1 ?assign ?body ?done ?stop
  case assign =>
    intro lp x W K hK
    gi_wp2
    exact hK
  case body =>
    rintro lp pre x W hI hlt
    have c1 := hI.y1.cell
    have c2 := hI.y2.cell
    have f2 := hI.y2.frozen
    have c4 := hI.y4.cell
    have f4 := hI.y4.frozen
    have X3 := Lib.hid (hI.ka.2.1.trans HX3.out)
    have R3 := Lib.hid (hI.ka.brd HR7.out)
    obtain ⟨⟨c30, c31⟩, -⟩ := box_cells2 X3.out
    have HI := Lib.hid hI
    have HKT := Lib.hid (HKR.out W hI.bl)
    have HNE := Lib.hid (fun hx => prefix_ne (x := x) hI.pr hlt hx)
    have HSN := Lib.hid (prefix_snoc hI.pr hlt)
    have hv := HPA.out pre.length hlt
    obtain ⟨hyl, hyt, hyr⟩ := HTA.out pre.length hlt
    have hpt : pre.length ≤ 140737488351232 := by have := HTC.out; omega
    clear hI
    generalize (whereL P)[pre.length] = y at *
    clear hlt
    have HPY := Lib.hid (fun W h => HPK.out a ca (pre.length : Int) W h)
    rw [hv] at HPY
    have HRY := Lib.hid (fun W h => HRK.out a ca (y : Int) W h HNC.out HAC.out)
    rw [hyr] at HRY
    obtain ⟨g, off, rfl, hgl, hcx⟩ := HKT.out (by omega)
    have cx := hcx y hyl
    rw [hyt] at cx
    have HL := Lib.hid (show w.heap.size < W.heap.size ∧ w3.heap.size < W.heap.size ∧ w5.heap.size < W.heap.size ∧ g < W.heap.size from ⟨HI.out.y1.lt, by have := HW.out; have := HI.out.ka.1; omega, HI.out.y4.lt, hgl⟩)
    have hyI : (y : Int) < (t.length : Int) := by omega
    have hy0 : (0 : Int) ≤ (y : Int) := by omega
    have hyI2 : decide ((t.length : Int) ≤ (y : Int)) = false := by simp; omega
    have hpp : ((pre.length : Int) != (pre.length : Int)) = false := by simp
    clear hv hyr hyt hcx hgl hyl
    gi_wp2_with fail
    refine ⟨trivial, (CallsIn.inRound lp (callsIn_wide.2 (HPY.out _ R3.out))).mono ?_⟩
    rintro e w8 ⟨rfl, hb8⟩
    have R8 := Lib.hid (R3.out.below hb8)
    replace c1 := ((bcell hb8).1 _ _ HL.out.1).trans c1
    replace c30 := ((bcell hb8).1 _ _ HL.out.2.1).trans c30
    replace c31 := ((bcell hb8).1 _ _ HL.out.2.1).trans c31
    replace c4 := ((bcell hb8).1 _ _ HL.out.2.2.1).trans c4
    replace cx := ((bcell hb8).1 _ _ HL.out.2.2.2).trans cx
    have HL8 := Lib.hid (show w.heap.size < w8.heap.size ∧ w3.heap.size < w8.heap.size ∧ w5.heap.size < w8.heap.size ∧ g < w8.heap.size from by have := HL.out; have := hb8.size; omega)
    have HK8 := Lib.hid hb8
    have HSZ := Lib.hid (show w.heap.size + 2 ≤ w3.heap.size ∧ w3.heap.size + 1 ≤ w5.heap.size ∧ w5.heap.size + 1 ≤ Bs ∧ Bs < w7.heap.size ∧ w7.heap.size ≤ W.heap.size from by have := HW.out; have := HI.out.ka.1; omega)
    clear hb8 c2 f2 f4
    have j1 := cell_regrown c1
    have j30 := cell_regrown c30
    have j31 := cell_regrown c31
    have j4 := cell_regrown c4
    have jx := cell_regrown cx
    have cR : ∀ d os, CallsIn (Fence.wide.inRound lp) 3 Try.prog 44 #[.agg #[.int .i64 (t.length : Int), .slice a P.length ca], .int .i64 (y : Int)] (grow (redrawn w8 d) os) fun e w'' => e = .returned (.int .i64 (pre.length : Nat)) ∧ ∃ p : Regrown, w'' = grow (redrawn w8 p.d) p.os := fun d os => CallsIn.inRound lp (CallsIn.regrown_of (callsIn_wide.2 (HRY.out _ (R8.out.below (below_regrown w8 d os)))))
    by_cases hxy : x = y
    · subst hxy
      have hxx : ((x : Int) != (x : Int)) = false := by simp
      gi_wp2_with fail
      refine region_round (by kernel_rfl) (by kernel_rfl) (by kernel_rfl) ?_
      repeat (refine wpQuietIn_step (fun _ _ _ _ => trivial) (fun K hK => ?_); go_simp; first | (refine hK _ ?_; clear hK K) | (apply Exists.intro; refine ⟨fun p => ?_, hK _ ?_⟩; first | exact cR _ _ | exact ⟨fun h => absurd h (by decide), cR _ _⟩; clear hK K))
      refine wpQuietIn_nil ?_
      intro w' hw'
      obtain ⟨⟨dq, osq⟩, hw''⟩ := hw'
      subst hw''
      have hb9 := bt HK8.out (below_regrown w8 dq osq)
      generalize grow (redrawn w8 dq) osq = w9 at *
      clear c1 c30 c31 c4 cx j1 j30 j31 j4 jx cR
      have y2 := boxed_below HI.out.y2 hb9
      have y4 := boxed_below HI.out.y4 hb9
      have c2 := y2.cell
      have f2 := y2.frozen
      have c4 := y4.cell
      have f4 := y4.frozen
      have Y2 := Lib.hid y2
      have Y4 := Lib.hid y4
      have HB9 := Lib.hid hb9
      clear y2 y4 hb9
      gi_wp2_with fail
      have e : ((pre ++ [x]).length : Int) = (pre.length : Int) + 1 := by simp
      have hsz := HSZ.out
      have h9 := HB9.out.size
      exact ⟨(below_keeps HB9.out).trans ((KeepsOthers.setCell _ _ _).from _), (KeptA.below HB9.out (by omega) (fun x e => by have := (HBA.out x e).2; omega)).trans (kept_set (by omega) (fun x e => by have := (HBA.out x e).1; have := HS6.out; omega)), (boxed_below HI.out.y1 HB9.out).other (by omega) _, Y2.out.other (by omega) _, by rw [e]; exact Y4.out.set _, (HI.out.ka.trans (KeptA.below HB9.out (by omega) (fun x e => by have := HA3.out x e; omega))).trans (kept_set (by omega) (fun x e => by have := HA3.out x e; omega)), HSN.out, (bt HI.out.bl HB9.out).setCell (by simp; omega) _⟩
    · have hxx : ((y : Int) != (x : Int)) = true := by simp; omega
      gi_wp2_with fail
      refine region_round (by kernel_rfl) (by kernel_rfl) (by kernel_rfl) ?_
      repeat (refine wpQuietIn_step (fun _ _ _ _ => trivial) (fun K hK => ?_); go_simp; first | (refine hK _ ?_; clear hK K))
      refine wpQuietIn_nil ?_
      intro w' hw'
      obtain ⟨⟨dq, osq⟩, hw''⟩ := hw'
      subst hw''
      have hb9 := bt HK8.out (below_regrown w8 dq osq)
      generalize grow (redrawn w8 dq) osq = w9 at *
      clear c1 c30 c31 c4 cx j1 j30 j31 j4 jx cR
      have y2 := boxed_below HI.out.y2 hb9
      have y4 := boxed_below HI.out.y4 hb9
      have c2 := y2.cell
      have f2 := y2.frozen
      have c4 := y4.cell
      have f4 := y4.frozen
      have Y2 := Lib.hid y2
      have Y4 := Lib.hid y4
      have HB9 := Lib.hid hb9
      clear y2 y4 hb9
      gi_wp2_with fail
      exact ⟨(below_keeps HB9.out).trans ((KeepsOthers.setCell _ _ _).from _), rfl, ⟨HNE.out hxy⟩⟩
  case done =>
    rintro D ys W hD hys hI hK
    have hyn : (ys.length : Int) = (cntT t : Int) := by rw [hys, HTC.out]
    have c1 := hI.y1.cell
    have Y2 := Lib.hid hI.y2
    have c2 := hI.y2.cell
    have f2 := hI.y2.frozen
    have c4 := hI.y4.cell
    rw [hyn] at c4
    have X3 := Lib.hid (hI.ka.2.1.trans HX3.out)
    have R3 := Lib.hid (hI.ka.brd HR7.out)
    obtain ⟨⟨c30, c31⟩, -⟩ := box_cells2 X3.out
    have HCY := Lib.hid (fun W h => HCN.out a ca W h HNC.out HAC.out)
    have HRY := Lib.hid (fun W h => HRK.out a ca (t.length : Int) W h HNC.out HAC.out)
    rw [HRA.out] at HRY
    have HL := Lib.hid (show w.heap.size < W.heap.size ∧ w3.heap.size < W.heap.size ∧ w5.heap.size < W.heap.size from ⟨hI.y1.lt, by have := HW.out; have := hI.ka.1; omega, hI.y4.lt⟩)
    have hnn : ((cntT t : Int) == (cntT t : Int)) = true := by simp
    have HBL := Lib.hid hI.bl
    have HK := Lib.hid hK
    have HD := Lib.hid hD
    clear hI hK hD hys hyn
    generalize cntT t = m at *
    gi_wp2_with fail
    refine wpIn_wide.2 ?_
    have hp := Lib.hid (Below.refl W.heap.size W)
    have ne3 : ¬ w3.heap.size = w.heap.size + 1 := by have := HW.out; omega
    have ne5 : ¬ w5.heap.size = w.heap.size + 1 := by have := HW.out; omega
    have ne3' : ¬ w.heap.size + 1 = w3.heap.size := by omega
    have ne5' : ¬ w.heap.size + 1 = w5.heap.size := by omega
    have HRB := Lib.hid (fun (W' : World) (h : Below W.heap.size W W') => R3.out.below h)
    go_region_held3 (fun W => W.cell? ⟨w.heap.size, 0, none⟩ = some (.slice A t.length c) ∧ W.cell? ⟨w3.heap.size, 0, none⟩ = some (.int .i64 (t.length : Int)) ∧ W.cell? ⟨w3.heap.size, 1, none⟩ = some (.slice a P.length ca) ∧ W.cell? ⟨w5.heap.size, 0, none⟩ = some (.int .i64 (m : Int))) (first | exact ⟨c1, c30, c31, c4⟩ | go_keep) (first
      | (go_at_call 43; refine (HCY.out _ (HRB.out _ (by first | exact hp.out | exact hp.out.drew))).mono ?_; rintro e w9 ⟨rfl, hb9⟩; replace c1 := ((bcell hb9).1 _ _ HL.out.1).trans c1; replace c30 := ((bcell hb9).1 _ _ HL.out.2.1).trans c30; replace c31 := ((bcell hb9).1 _ _ HL.out.2.1).trans c31; replace c4 := ((bcell hb9).1 _ _ HL.out.2.2).trans c4; replace hp := Lib.hid (show Below W.heap.size W w9 from by first | exact bt hp.out hb9 | exact bt hp.out.drew hb9); (first | replace Y2 := Lib.hid (boxed_below Y2.out hb9) | replace Y2 := Lib.hid (boxed_onD Y2.out hb9)); replace c2 := Y2.out.cell; replace f2 := Y2.out.frozen; (first | replace HK := Lib.hid (box_next HK.out hb9) | replace HK := Lib.hid (box_onD HK.out hb9)); replace HL := Lib.hid (show _ ∧ _ ∧ _ from ⟨Nat.lt_of_lt_of_le HL.out.1 hb9.size, Nat.lt_of_lt_of_le HL.out.2.1 hb9.size, Nat.lt_of_lt_of_le HL.out.2.2 hb9.size⟩); clear hb9)
      | (go_at_call 44; refine (HRY.out _ (HRB.out _ (by first | exact hp.out | exact hp.out.drew))).mono ?_; rintro e w9 ⟨rfl, hb9⟩; replace c1 := ((bcell hb9).1 _ _ HL.out.1).trans c1; replace c30 := ((bcell hb9).1 _ _ HL.out.2.1).trans c30; replace c31 := ((bcell hb9).1 _ _ HL.out.2.1).trans c31; replace c4 := ((bcell hb9).1 _ _ HL.out.2.2).trans c4; replace hp := Lib.hid (show Below W.heap.size W w9 from by first | exact bt hp.out hb9 | exact bt hp.out.drew hb9); (first | replace Y2 := Lib.hid (boxed_below Y2.out hb9) | replace Y2 := Lib.hid (boxed_onD Y2.out hb9)); replace c2 := Y2.out.cell; replace f2 := Y2.out.frozen; (first | replace HK := Lib.hid (box_next HK.out hb9) | replace HK := Lib.hid (box_onD HK.out hb9)); replace HL := Lib.hid (show _ ∧ _ ∧ _ from ⟨Nat.lt_of_lt_of_le HL.out.1 hb9.size, Nat.lt_of_lt_of_le HL.out.2.1 hb9.size, Nat.lt_of_lt_of_le HL.out.2.2 hb9.size⟩); clear hb9))
    simp only [Exit.then]
    apply_assumption
    gi_wp2_with fail
    have hK5 := (KeepsOthers.setCell w9 ⟨w.heap.size + 1, 0, none⟩ (.bool true)).same D _ HK.out rfl
    have y2 := Y2.out.set (.bool true)
    have hrow : ∀ r, some D = some r → w7.heap.size ≤ r ∧ ∃ o : Obj, (w9.setCell ⟨w.heap.size + 1, 0, none⟩ (.bool true)).heap[r]? = some o ∧ o.isCells = false := fun r e => by
      cases e
      exact ⟨HD.out, _, hK5, rfl⟩
    have hgr := grownBy_putObj' (w9.setCell ⟨w.heap.size + 1, 0, none⟩ (.bool true)) D (.deferred none)
    have q2 := (boxed_own' y2 hgr fun r e => (hrow r e).2).cell
    have hb5 := below_grown ((bt HBL.out hp.out).setCell (p := ⟨w.heap.size + 1, 0, none⟩) (by simp) (.bool true)) hgr fun r e => by have := (hrow r e).1; have := HB07.out.size; omega
    refine ⟨by simp, .inl ⟨_, _, rfl, run_takeDeferred hK5, ?_⟩⟩
    refine ⟨.bool true, by simp [results, Try.results8, go_sem, q2], rfl, hb5⟩
  case stop =>
    rintro D cd pre W hD ⟨j, hj⟩ ⟨rfl, hX⟩ hK
    exact absurd hj (hX.ne j)

set_option maxRecDepth 100000 in
theorem bitsRanks_lifted (os : Os) (started : os.Started) (H : Type) (enc : TypeId × Value → H) :
    ReturnsInHanded {} Try.checked os 8 .any (Rows.bitsRanksSpec.pre6 enc Try.prog Try.f8 Rows.bitsRanksRow.domain false) (Rows.bitsRanksSpec.post enc Try.prog Try.f8 false true false false) := by
  refine returnsInHanded_of_change_sized (C := Try.checked) own started (by kernel_rfl) Try.func8
    (ChangeSpec.witness6 (enc := enc) (C := Try.checked) false ⟨#[], #[.slice none 0 0], []⟩ 8 (by kernel_rfl) (by kernel_rfl) (by kernel_rfl) (by kernel_rfl)) ?_
  intro W base args ds gs before hval0 hW _ hsz _
  have hval : ∀ (j : Nat) t v, Try.f8.params[j]? = some t → args[j]? = some v → Value.okWide Try.prog W .any base t v := hval0
  have hW' := hW
  obtain ⟨p, q, hA0, hV, rfl, hfz, hnd⟩ := hW
  have hA : DataW.TrodAll enc Try.prog W 0 (fun _ => true) true Try.f8.params.toList args.toList ds p := hA0
  rw [Try.params8] at hA hval
  obtain ⟨v0, vs0, d0, ds0, p0, q0, hargs, rfl, rfl, h0, r0⟩ := trodAll_cons hA
  obtain ⟨rfl, rfl, rfl⟩ := trodAll_nil r0
  obtain rfl : args = #[v0] := by cases args; simp_all
  obtain ⟨rfl, rfl⟩ := trodVars_none hV
  simp only [List.append_nil] at hW'
  have hlt0 : ∀ x ∈ p0, x.block < W.heap.size := fun x hx => hW'.lt x (by simp [hx])
  have hreach : reachBytes ≤ 140737488351232 := by decide
  obtain ⟨A0, cap0, l, rfl, hR0, hc0, hn0, hd0⟩ := open_bools_ (hval 0 22 v0 rfl rfl) h0
  have b0 : l.length ≤ reachBytes := by
    rcases hd0 with h0 | ⟨el, sp, e, he⟩
    · rw [h0]; simp
    · have hs : (el.length + sp.length) * Try.prog.bytesOf 4 ≤ reachBytes := sized_slice hsz (j := 0) (t := 22) (e := 4) rfl (by rw [e]; rfl) Try.underlying22
      rw [show Try.prog.bytesOf 4 = 1 by kernel_rfl] at hs
      omega
  clear hA0 hval0
  refine (bitsRanks_walk A0 cap0 l W hR0 (by omega)).mono fun e W' ⟨he, hg⟩ => ?_
  subst he
  have hpost : Rows.bitsRanksSpec.post enc Try.prog Try.f8 false true false false W _ _ W' := post_of_below (pa := p0 ++ []) (pv := []) hW' (fun _ _ _ => (trodAll_cons_mk (shut_bool Try.underlying4 _) trodAll_mk0)) (fun sp hsp => (trodAll_cons_mk (WideElems.Trod_stays laidOut (by kernel_rfl) (of_decide_eq_true (by kernel_rfl)) h0 (fun x hx => hg.same (hlt0 x hx)) (fun x hx => hsp x (by simp [hx]))) trodAll_mk0)) (fun _ _ => rfl) (by simp) hg (ok_one (by kernel_rfl) rfl (okWide_bool_mk Try.underlying4 _))
  exact ⟨_, rfl, hpost⟩

theorem bitsRanks_holds : Rows.BitsRanksSaid :=
  OpenClaim.holds_of_wide 8 Try.f8 rfl rfl rfl rfl rfl rfl rfl ⟨rfl, rfl, rfl, rfl, rfl⟩ rfl rfl rfl rfl rfl (by kernel_rfl) Try.func8 (by kernel_rfl)
    (of_decide_eq_true (by kernel_rfl)) (by unfold Func.isWrapper; first | (rw [if_pos (by decide +kernel)]; kernel_rfl) | (rw [if_neg (by decide +kernel)]; exact ⟨rfl, rfl⟩))
    (fun os started H enc _ => bitsRanks_lifted os started H enc)
end Go.Proofs.Ytpdffcopigajgaa
