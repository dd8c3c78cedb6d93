/-
  Of bits: contracts of Not and Same, the program's.
-/
import Derived.Test.YtpdffcopigajgaaKRank
namespace Go.Proofs.Ytpdffcopigajgaa
open Go.ChangeShapes Go.WideShapes Go.ChangeAt Go.RowKit Go.Deep
set_option linter.unusedVariables false

def notT (t : List Bool) : List Bool := t.map (!·)
def notB (c : UInt8) : UInt8 := byB fun k => !bitB c k
theorem not_tr (t : List Bool) : trB (t.length : Int) ((pkB t).map notB) = notT t := by
  have hsz : szB (t.length : Int) ((pkB t).map notB) = t.length := by unfold szB; rw [List.length_map, pk_len]; omega
  apply List.ext_getElem
  · rw [tr_len, hsz]; simp [notT]
  · intro i h1 h2
    have hi : i < t.length := by rw [tr_len, hsz] at h1; exact h1
    have hp : i / 8 < (pkB t).length := by rw [pk_len]; omega
    rw [tr_get, bitL_in (by rw [List.length_map]; exact hp), List.getElem_map]
    unfold notB
    rw [bitB_byB _ _ (by omega)]
    have h3 := bit_pk t i
    rw [bitL_in hp, getD_lt hi] at h3
    rw [h3]
    simp [notT]
/-- After k rounds. -/
def notU (l : List UInt8) (k : Nat) : List UInt8 := (l.take k).map notB ++ l.drop k
theorem notU_len (l : List UInt8) (k : Nat) : (notU l k).length = l.length := by
  unfold notU
  rw [List.length_append, List.length_map, List.length_take, List.length_drop]; omega
theorem notU_get (l : List UInt8) (k : Nat) (h : k < l.length) : (notU l k).getD k 0 = l[k] := by
  have hl : ((l.take k).map notB).length = k := by rw [List.length_map, List.length_take]; omega
  unfold notU
  rw [getD_lt (by rw [List.length_append, hl, List.length_drop]; omega), List.getElem_append_right (by omega)]
  simp only [List.getElem_drop, hl]
  congr 1
  omega
theorem notU_set (l : List UInt8) (k : Nat) (h : k < l.length) : (notU l k).set k (notB l[k]) = notU l (k + 1) := by
  have hl : ((l.take k).map notB).length = k := by rw [List.length_map, List.length_take]; omega
  unfold notU
  rw [List.set_append_right _ _ (by omega), hl, Nat.sub_self, List.drop_eq_getElem_cons h, List.set_cons_zero, List.take_succ_eq_append_getElem h, List.map_append, List.append_assoc]
  rfl
theorem notU_all (l : List UInt8) : notU l l.length = l.map notB := by simp [notU]
theorem not_int (c : UInt8) : bits .xor .u8 (if IntKind.u8.signed = true then -1 else IntKind.u8.max) (c.toNat : Int) = ((notB c).toNat : Int) := by
  have h : ((notB c).toNat : Int) = 255 - (c.toNat : Int) := xor_not c
  have h2 := c.toNat_lt
  have key : ∀ n, n < 256 → 255 ^^^ n = 255 - n := by decide +kernel
  rw [h, show (if IntKind.u8.signed = true then -1 else IntKind.u8.max) = ((255 : Nat) : Int) from rfl, u8_xor_nat _ _ (by decide) h2, key _ h2]
  omega
set_option maxHeartbeats 8000000 in
set_option maxRecDepth 100000 in
theorem not_any (N : Int) (A : Option Addr) (c : Nat) (l : List UInt8) (w : World) (hA : BRd w A l) (hl : l.length ≤ 140737488355328) : Calls Try.prog 28 #[.agg #[.int .i64 N, .slice A l.length c]] w (BPost (notT (trB N l)) w) := by
  have HC := Lib.hid (fun (W : World) (h : BRd W A l) => normal_any N A c l W h hl)
  have HA := Lib.hid (fun (W : World) (h : Below w.heap.size w W) => hA.below h)
  have htl : (trB N l).length ≤ 8 * l.length := by rw [tr_len]; exact sz_le N l
  generalize trB N l = t at *
  have hpl : (pkB t).length ≤ 140737488355328 := by rw [pk_len]; omega
  have HNM := Lib.hid (fun (W : World) (a : Option Addr) (c : Nat) (h : BRd W a ((pkB t).map notB)) => normal_any (t.length : Int) a c ((pkB t).map notB) W h (by rw [List.length_map]; exact hpl))
  rw [not_tr, List.length_map] at HNM
  unfold BPost at HC
  have HX1 := Lib.hid (box_next (box_new w (.cells #[.int .i64 N, .slice A l.length c] 25)) (alloc_below _ (.cells #[.int .i64 0, .slice none 0 0] 25)))
  have hX2 := box_new (w.alloc (.cells #[.int .i64 N, .slice A l.length c] 25)) (.cells #[.int .i64 0, .slice none 0 0] 25)
  rw [World.size_alloc] at hX2
  have HX2 := Lib.hid hX2
  have HB := Lib.hid (bt (alloc_below w (.cells #[.int .i64 N, .slice A l.length c] 25)) (alloc_below _ (.cells #[.int .i64 0, .slice none 0 0] 25)))
  obtain ⟨p, hp⟩ : ∃ p, p = (pkB t).length := ⟨_, rfl⟩
  have HP := Lib.hid hp
  rw [← hp] at HC HNM
  have hpB : p ≤ 140737488355328 := by omega
  clear hA hX2 hp hpl htl hl
  generalize pkB t = L at *
  go_enter Try.func28, Try.ntmps28
  go_wp2_with fail
  refine (HC.out _ (HA.out _ HB.out)).mono ?_
  rintro e w2 ⟨a, c2, rfl, ho, hac, hnc, hb⟩
  have hal := alloc_below w2 (.cells #[.int .i64 (t.length : Int), .slice a p c2] 25)
  have Z2 := Lib.hid (box_next (box_next HX2.out hb) hal)
  have Z3 := Lib.hid (box_new w2 (.cells #[.int .i64 (t.length : Int), .slice a p c2] 25))
  have HO := Lib.hid (ho.alloc (.cells #[.int .i64 (t.length : Int), .slice a p c2] 25))
  have B2 := Lib.hid (bt (bt HB.out hb) hal)
  clear ho hac hnc hb hal HX1 HX2 HB HA HC
  obtain ⟨⟨r0, r1⟩, rf⟩ := box_cells2 Z3.out
  go_wp2_with fail
  go_loopw [11] (fun idx wr => ∃ k : Nat, k ≤ p ∧ idx = .int .i64 (k : Int) ∧ OwnB wr (w.heap.size + 2) (.slice a p c2) (notU L k) ∧ wr.heap[w.heap.size + 1]? = some (.cells #[.int .i64 0, .slice none 0 0] 25 (0, 0)) ∧ wr.heap[w2.heap.size]? = some (.cells #[.int .i64 (t.length : Int), .slice a p c2] 25 (0, 0)) ∧ Below w.heap.size w wr) (fun idx _ => p - (intOf idx).toNat)
  case atStart => exact ⟨0, by omega, rfl, by have h := HO.out; simp only [World.size_alloc] at h; simpa [notU] using h, Z2.out, Z3.out, B2.out⟩
  case round =>
    clear HO Z2 Z3 B2 r0 r1 rf
    obtain ⟨k, hk, rfl, hown, x2, x3, hb⟩ := hrel
    have HB := Lib.hid hb
    have HO := Lib.hid hown
    by_cases hkp : k < p
    · have hkl : k < L.length := by rw [← HP.out]; exact hkp
      obtain ⟨g, e, hgB, hgl, hfz, hcc, hput⟩ := OwnB.put hown (by rw [notU_len]; exact HP.out) k hkp
      subst e
      rw [notU_get L k hkl] at hcc
      have HPU := Lib.hid (hput (notB L[k]))
      rw [notU_set L k hkl] at HPU
      have HNI := Lib.hid (not_int L[k])
      have n2 : ¬ w.heap.size + 1 = g := fun e => by subst e; exact box_off hown x2 (by decide) rfl
      have n3 : ¬ w2.heap.size = g := fun e => by subst e; exact box_off hown x3 (by decide) rfl
      have X2 := Lib.hid (box_fr x2 HPU.out.2 n2)
      have X3 := Lib.hid (box_fr x3 HPU.out.2 n3)
      have B3 := Lib.hid (below_tr HB.out (HPU.out.2.below (B := w.heap.size) (fun j e => by omega) HB.out.size))
      obtain ⟨⟨r0, r1⟩, rf⟩ := box_cells2 x3
      have kI : (k : Int) < (p : Int) := by omega
      have kN : k < p := hkp
      clear hput hown x2 x3 hb hkp
      generalize L[k] = ch at *
      clear hkl
      go_wp2_with fail
      rw [HNI.out]
      go_roundw
      case rel => exact ⟨k + 1, by omega, by go_num, HPU.out.1, X2.out, X3.out, B3.out⟩
      case measure => simp [intOf]; omega
    · obtain rfl : k = p := by omega
      have kI : ¬ ((k : Int) < (k : Int)) := by omega
      have ho := HO.out
      rw [HP.out, notU_all] at ho
      have hbr := ho.brdn (by rw [List.length_map])
      have HN := Lib.hid (HNM.out wr a c2 hbr)
      obtain ⟨⟨r0, r1⟩, rf⟩ := box_cells2 x3
      have X2 := Lib.hid x2
      have HWS := Lib.hid (box_lt x2)
      clear ho hbr hown x2 x3 hb hkp
      go_wp2_with fail
      refine HN.out.mono ?_
      rintro e w5 ⟨a5, c5, rfl, ho5, hac5, hnc5, hb5⟩
      obtain ⟨⟨s0, s1⟩, sf⟩ := box_cells2 (box_next X2.out hb5)
      have HO5 := Lib.hid ho5
      have HA5 := Lib.hid hac5
      have B5 := Lib.hid (bt HB.out hb5)
      clear ho5 hac5 hb5
      go_wp2_with fail
      refine bodyPost_ret (v := .agg #[.int .i64 (notT t).length, .slice a5 (pkB (notT t)).length c5]) (by simp [results, Try.results28, go_sem, s0, s1]) rfl ?_
      exact BPost.box HO5.out rfl HA5.out hnc5 (by have := HWS.out; omega) B5.out (w.heap.size + 1) (by omega) HWS.out _ _
theorem brd_onD {W w9 : World} {a : Option Addr} {l : List UInt8} (h : BRd W a l) (hb : Below W.drew.heap.size W.drew w9) : BRd w9 a l := BRd.below (w := W.drew) h hb
theorem krd_onD {W w9 : World} {a : Option Addr} {l : List Bool} (h : KRd W a l) (hb : Below W.drew.heap.size W.drew w9) : KRd w9 a l := KRd.below (w := W.drew) h hb
theorem box_onD {W w9 : World} {b : Nat} {o : Obj} (h : W.heap[b]? = some o) (hb : Below W.drew.heap.size W.drew w9) : w9.heap[b]? = some o := box_next (w := W.drew) h hb
theorem set4_box {w : World} {b : Nat} {x0 x1 y0 y1 : Value} {T : TypeId} (h2 : w.heap[b]? = some (.cells #[x0, x1] T (0, 0))) (h3 : w.heap[b + 1]? = some (.cells #[y0, y1] T (0, 0))) (u0 u1 v0 v1 : Value) :
    ((((w.setCell ⟨b, 0, none⟩ u0).setCell ⟨b, 1, none⟩ u1).setCell ⟨b + 1, 0, none⟩ v0).setCell ⟨b + 1, 1, none⟩ v1).heap[b]? = some (.cells #[u0, u1] T (0, 0)) ∧ ((((w.setCell ⟨b, 0, none⟩ u0).setCell ⟨b, 1, none⟩ u1).setCell ⟨b + 1, 0, none⟩ v0).setCell ⟨b + 1, 1, none⟩ v1).heap[b + 1]? = some (.cells #[v0, v1] T (0, 0)) ∧ Fr (fun k => k = b ∨ k = b + 1) w ((((w.setCell ⟨b, 0, none⟩ u0).setCell ⟨b, 1, none⟩ u1).setCell ⟨b + 1, 0, none⟩ v0).setCell ⟨b + 1, 1, none⟩ v1) := by
  have f1 := set2_fr w b u0 u1
  have e1 := box_set2 h2 u0 u1
  have e2 := box_fr h3 f1 (by omega)
  have f2 := set2_fr ((w.setCell ⟨b, 0, none⟩ u0).setCell ⟨b, 1, none⟩ u1) (b + 1) v0 v1
  exact ⟨box_fr e1 f2 (by omega), box_set2 e2 v0 v1, (f1.mono fun k _ h => .inl h).trans (f2.mono fun k _ h => .inr h)⟩
theorem BRd.fr {F : Nat → Prop} {w w' : World} {A : Option Addr} {l : List UInt8} (h : BRd w A l) (hf : Fr F w w') (hn : ∀ a, A = some a → ¬ F a.block) : BRd w' A l := fun h0 => by
  obtain ⟨g, off, rfl, hl, hc⟩ := h h0
  have hb : w'.heap[g]? = w.heap[g]? := hf.block g hl (hn _ rfl)
  refine ⟨g, off, rfl, Nat.lt_of_lt_of_le hl hf.size, fun i hi => ?_⟩
  rw [World.cell?_of_block (w := w) (w' := w') (a := ⟨g, off + i, none⟩) hb]
  exact hc i hi
/-- What a call made lies behind what was there. -/
theorem OwnB.beyond {w : World} {B c n : Nat} {a : Option Addr} {l : List UInt8} (h : OwnB w B (.slice a n c) l) : ∀ x, a = some x → B ≤ x.block := fun x e => by
  subst e
  exact (World.ownsRow.lt h x.block rfl).1
theorem ne_box {n m k : Nat} (h1 : n + 1 < m) (h2 : m ≤ k) : ¬ (k = n ∨ k = n + 1) := by omega
theorem same_iff (s t : List Bool) : (s == t) = (decide ((s.length : Int) = (t.length : Int)) && (pkB s == pkB t)) := by
  by_cases h : s = t
  · subst h; simp
  · rw [beq_eq_false_iff_ne.2 h]
    by_cases hl : (s.length : Int) = (t.length : Int)
    · have : ¬ pkB s = pkB t := fun e => h (pk_inj (by omega) e)
      rw [beq_eq_false_iff_ne.2 this]
      simp
    · rw [decide_eq_false hl]; rfl
set_option maxHeartbeats 16000000 in
set_option maxRecDepth 100000 in
theorem same_any (N M : Int) (A C : Option Addr) (c d : Nat) (l m : List UInt8) (w : World) (hA : BRd w A l) (hC : BRd w C m) (hl : l.length ≤ 140737488355328) (hm : m.length ≤ 140737488355328) : Calls Try.prog 32 #[.agg #[.int .i64 N, .slice A l.length c], .agg #[.int .i64 M, .slice C m.length d]] w fun e w' => e = .returned (.bool (trB N l == trB M m)) ∧ Below w.heap.size w w' := by
  have H1 := Lib.hid (fun (W : World) (h : BRd W A l) => normal_any N A c l W h hl)
  have H2 := Lib.hid (fun (W : World) (h : BRd W C m) => normal_any M C d m W h hm)
  have HA := Lib.hid (fun (W : World) (h : Below w.heap.size w W) => hA.below h)
  have HC := Lib.hid (fun (W : World) (h : Below w.heap.size w W) => hC.below h)
  have HQ := Lib.hid (same_iff (trB N l) (trB M m))
  generalize trB N l = s at *
  generalize trB M m = t at *
  unfold BPost at H1 H2
  have hX2 := box_next (box_new w (.cells #[.int .i64 N, .slice A l.length c] 25)) (alloc_below _ (.cells #[.int .i64 M, .slice C m.length d] 25))
  have hX3 := box_new (w.alloc (.cells #[.int .i64 N, .slice A l.length c] 25)) (.cells #[.int .i64 M, .slice C m.length d] 25)
  rw [World.size_alloc] at hX3
  have hp := Lib.hid (bt (alloc_below w (.cells #[.int .i64 N, .slice A l.length c] 25)) (alloc_below _ (.cells #[.int .i64 M, .slice C m.length d] 25)))
  have X2 := Lib.hid hX2
  have X3 := Lib.hid hX3
  obtain ⟨⟨k0, k1⟩, kf⟩ := box_cells2 hX2
  obtain ⟨⟨j0, j1⟩, jf⟩ := box_cells2 hX3
  clear hA hC hX2 hX3
  generalize (s == t) = b at *
  go_enter Try.func32, Try.ntmps32
  go_wp2_with fail
  go_region_with (first
    | (go_at_call 53; (with_reducible refine (H1.out _ (HA.out _ (by first | exact hp.out | exact hp.out.drew))).mono ?_); rintro e w3 ⟨a3, c3, rfl, ho3, -, -, hb3⟩; have NE1 := Lib.hid (fun (a : Addr) (e : a3 = some a) => ne_box (box_lt X3.out) (ho3.beyond a e)); (first | replace X2 := Lib.hid (box_next X2.out hb3) | replace X2 := Lib.hid (box_onD X2.out hb3)); (first | replace X3 := Lib.hid (box_next X3.out hb3) | replace X3 := Lib.hid (box_onD X3.out hb3)); (first | replace hp := Lib.hid (bt hp.out hb3) | replace hp := Lib.hid (bt hp.out.drew hb3)); (first | replace R1 := Lib.hid (R1.out.below hb3) | replace R1 := Lib.hid (brd_onD R1.out hb3) | skip); (first | replace R2 := Lib.hid (R2.out.below hb3) | replace R2 := Lib.hid (brd_onD R2.out hb3) | skip); clear hb3 k0 k1 kf j0 j1 jf; obtain ⟨⟨k0, k1⟩, kf⟩ := box_cells2 X2.out; obtain ⟨⟨j0, j1⟩, jf⟩ := box_cells2 X3.out; have R1 := Lib.hid ho3.brd; clear ho3)
    | (go_at_call 53; (with_reducible refine (H2.out _ (HC.out _ (by first | exact hp.out | exact hp.out.drew))).mono ?_); rintro e w3 ⟨a4, c4, rfl, ho3, -, -, hb3⟩; have NE2 := Lib.hid (fun (a : Addr) (e : a4 = some a) => ne_box (box_lt X3.out) (ho3.beyond a e)); (first | replace X2 := Lib.hid (box_next X2.out hb3) | replace X2 := Lib.hid (box_onD X2.out hb3)); (first | replace X3 := Lib.hid (box_next X3.out hb3) | replace X3 := Lib.hid (box_onD X3.out hb3)); (first | replace hp := Lib.hid (bt hp.out hb3) | replace hp := Lib.hid (bt hp.out.drew hb3)); (first | replace R1 := Lib.hid (R1.out.below hb3) | replace R1 := Lib.hid (brd_onD R1.out hb3) | skip); (first | replace R2 := Lib.hid (R2.out.below hb3) | replace R2 := Lib.hid (brd_onD R2.out hb3) | skip); clear hb3 k0 k1 kf j0 j1 jf; obtain ⟨⟨k0, k1⟩, kf⟩ := box_cells2 X2.out; obtain ⟨⟨j0, j1⟩, jf⟩ := box_cells2 X3.out; have R2 := Lib.hid ho3.brd; clear ho3))
  all_goals
    obtain ⟨q2, q3, qf⟩ := set4_box X2.out X3.out (.int .i64 (s.length : Int)) (.slice a3 (pkB s).length c3) (.int .i64 (t.length : Int)) (.slice a4 (pkB t).length c4)
    have R3 := Lib.hid (R1.out.fr qf (fun a e h => NE1.out a e h))
    have R4 := Lib.hid (R2.out.fr qf (fun a e h => NE2.out a e h))
    have B5 := Lib.hid (below_tr hp.out (qf.below (B := w.heap.size) (fun k e => by omega) hp.out.size))
    clear k0 k1 kf j0 j1 jf X2 X3 R1 R2 hp qf
    generalize ((((w3.setCell ⟨w.heap.size, 0, none⟩ (.int .i64 (s.length : Int))).setCell ⟨w.heap.size, 1, none⟩ (.slice a3 (pkB s).length c3)).setCell ⟨w.heap.size + 1, 0, none⟩ (.int .i64 (t.length : Int))).setCell ⟨w.heap.size + 1, 1, none⟩ (.slice a4 (pkB t).length c4)) = W5 at *
    obtain ⟨⟨k0, k1⟩, kf⟩ := box_cells2 q2
    obtain ⟨⟨j0, j1⟩, jf⟩ := box_cells2 q3
    have HEQ := Lib.hid (equal_any a3 a4 c3 c4 (pkB s) (pkB t) W5 R3.out R4.out)
    by_cases hn : (s.length : Int) = (t.length : Int)
    · have hq := HQ.out
      rw [decide_eq_true hn, Bool.true_and] at hq
      have hn' : ((s.length : Int) == (t.length : Int)) = true := by simpa using hn
      rw [← hq] at HEQ
      clear hq hn q2 q3
      go_wp2_with fail
      refine HEQ.out.mono ?_
      rintro e w' ⟨rfl, rfl⟩
      go_wp2_with fail
      go_ret
      exact ⟨ret_bool (by simp), B5.out⟩
    · have hq := HQ.out
      rw [decide_eq_false hn, Bool.false_and] at hq
      have hn' : ((s.length : Int) == (t.length : Int)) = false := by simpa using hn
      have HQ2 := Lib.hid hq
      clear hq hn q2 q3
      go_wp2_with fail
      go_ret
      exact ⟨ret_bool HQ2.out.symm, B5.out⟩
end Go.Proofs.Ytpdffcopigajgaa
