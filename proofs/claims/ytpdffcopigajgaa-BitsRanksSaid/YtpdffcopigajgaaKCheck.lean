/-
  Of bits: contracts of Check and Set, the program's and the document's.
-/
import Derived.Test.YtpdffcopigajgaaKList
namespace Go.Proofs.Ytpdffcopigajgaa
open Go.ChangeShapes Go.WideShapes Go.ChangeAt Go.RowKit Go.Deep
set_option linter.unusedVariables false

def checkE (N : Int) (l : List UInt8) : Int := if (szB N l : Int) = N ∧ pkB (trB N l) = l then 0 else 70
set_option maxHeartbeats 4000000 in
set_option maxRecDepth 100000 in
theorem check_any (N : Int) (A : Option Addr) (c : Nat) (l : List UInt8) (w : World) (hA : BRd w A l) (hl : l.length ≤ 17592186044416) : Calls Try.prog 19 #[.agg #[.int .i64 N, .slice A l.length c]] w fun e w' => e = .returned (.int .i64 (checkE N l)) ∧ Below w.heap.size w w' := by
  have HA := Lib.hid (fun (W : World) (h : Below w.heap.size w W) => hA.below h)
  have HC := Lib.hid (fun (W : World) (h : BRd W A l) => normal_any N A c l W h (by omega))
  have HE : Hid (checkE N l = if (szB N l : Int) = N ∧ pkB (trB N l) = l then 0 else 70) := rfl
  have HTL := tr_len N l
  unfold BPost at HC
  rw [HTL] at HC
  generalize pkB (trB N l) = m at *
  generalize szB N l = z at *
  generalize checkE N l = E at *
  clear hA HTL
  go_enter Try.func19, Try.ntmps19
  go_wp2_with fail
  refine (HC.out _ (HA.out _ (alloc_below _ _))).mono ?_
  rintro e w2 ⟨a, c2, rfl, ho, hac, hnc, hb2⟩
  have x1 := box_next (box_next (box_new w (.cells #[.int .i64 N, .slice A l.length c] 25)) hb2) (alloc_below w2 (.cells #[.int .i64 (z : Int), .slice a m.length c2] 25))
  have HB := Lib.hid (bt (bt (alloc_below w _) hb2) (alloc_below w2 (.cells #[.int .i64 (z : Int), .slice a m.length c2] 25)))
  obtain ⟨⟨r0, r1⟩, rf⟩ := box_cells2 x1
  have HEQ := Lib.hid (equal_any a A c2 c m l _ (ho.alloc (.cells #[.int .i64 (z : Int), .slice a m.length c2] 25)).brd (HA.out _ HB.out))
  clear ho hac hnc hb2 x1
  by_cases hz : (z : Int) = N
  · have hz' : ((z : Int) != N) = false := by simpa using hz
    have HZ := Lib.hid hz
    clear hz
    by_cases hm : m = l
    · have HM := Lib.hid hm
      rw [show (m == l) = true by simpa using hm] at HEQ
      clear hm
      go_wp2_with fail
      refine HEQ.out.mono ?_
      rintro e w' ⟨rfl, rfl⟩
      go_wp2_with fail
      go_ret
      exact ⟨ret_int (by rw [HE.out, if_pos ⟨HZ.out, HM.out⟩]), HB.out⟩
    · have HM := Lib.hid hm
      rw [show (m == l) = false by simpa using hm] at HEQ
      clear hm
      go_wp2_with fail
      refine HEQ.out.mono ?_
      rintro e w' ⟨rfl, rfl⟩
      go_wp2_with fail
      go_ret
      exact ⟨ret_int (by rw [HE.out, if_neg (fun h => HM.out h.2)]), HB.out⟩
  · have hz' : ((z : Int) != N) = true := by simpa using hz
    have HZ := Lib.hid hz
    clear hz
    go_wp2_with fail
    go_ret
    exact ⟨ret_int (by rw [HE.out, if_neg (fun h => HZ.out h.1)]), HB.out⟩
set_option maxHeartbeats 8000000 in
set_option maxRecDepth 100000 in
theorem rcheck_any (N : Int) (A : Option Addr) (c : Nat) (l : List UInt8) (w : World) (hA : BRd w A l) (hl : l.length ≤ 17592186044416) : Calls Try.prog 20 #[.agg #[.int .i64 N, .slice A l.length c]] w fun e w' => e = .returned (.int .i64 (checkE N l)) ∧ Below w.heap.size w w' := by
  have HA := Lib.hid (fun (W : World) (h : Below w.heap.size w W) => hA.below h)
  have HL := Lib.hid (fun (W : World) (h : BRd W A l) => rlist_any N A c l W h (by omega))
  have HE : Hid (checkE N l = if (szB N l : Int) = N ∧ pkB (trB N l) = l then 0 else 70) := rfl
  have HTL : Hid ((trB N l).length = szB N l) := tr_len N l
  have HSZ := Lib.hid (sz_le N l)
  have HEX := Lib.hid (fun (W : World) (C : Option Addr) (d : Nat) (h1 : BRd W A l) (h2 : BRd W C (pkB (trB N l))) => exact_any N ((trB N l).length : Int) A C c d l (pkB (trB N l)) W h1 h2)
  have HO := Lib.hid (fun (W : World) (C : Option Addr) (d : Nat) (h : KRd W C (trB N l)) => rof_any C d (trB N l) W h (by rw [HTL.out]; have := HSZ.out; omega))
  generalize trB N l = t at *
  generalize szB N l = z at *
  generalize checkE N l = E at *
  have HX := Lib.hid (box_new w (.cells #[.int .i64 N, .slice A l.length c] 25))
  have HB := Lib.hid (alloc_below w (.cells #[.int .i64 N, .slice A l.length c] 25))
  obtain ⟨⟨k0, k1⟩, kf⟩ := box_cells2 HX.out
  have hlt := box_lt HX.out
  have HLT := Lib.hid hlt
  clear hA hlt
  by_cases hn : N < 0
  · have HN := Lib.hid hn
    have hd : decide (N < 0) = true := by simpa using hn
    clear kf
    go_enter Try.func20, Try.ntmps20
    go_wp2_with fail
    go_quiet (fail)
    go_wp2_with fail
    go_ret
    exact ⟨ret_int (by rw [HE.out, if_neg (fun h => by have := HN.out; have := h.1; omega)]), below_drewN HB.out _⟩
  · have hd : decide (N < 0) = false := by simpa using hn
    have HEQ : Hid ((decide (N = (t.length : Int)) && (l == pkB t)) = decide ((z : Int) = N ∧ pkB t = l)) := by
      show _ = _
      rw [HTL.out]
      by_cases h1 : N = (z : Int)
      · by_cases h2 : l = pkB t
        · rw [decide_eq_true h1, decide_eq_true (⟨h1.symm, h2.symm⟩ : (z : Int) = N ∧ pkB t = l), show (l == pkB t) = true from beq_iff_eq.2 h2]; rfl
        · rw [decide_eq_true h1, decide_eq_false (fun h : (z : Int) = N ∧ pkB t = l => h2 h.2.symm), show (l == pkB t) = false from beq_eq_false_iff_ne.2 h2]; rfl
      · rw [decide_eq_false h1, decide_eq_false (fun h : (z : Int) = N ∧ pkB t = l => h1 h.1.symm)]; rfl
    have HN := Lib.hid hn
    clear hn kf
    cases hq : decide ((z : Int) = N ∧ pkB t = l) with
    | true =>
      have HQ := Lib.hid (of_decide_eq_true hq)
      rw [hq] at HEQ
      rw [HEQ.out] at HEX
      clear hq
      go_enter Try.func20, Try.ntmps20
      go_wp2_with fail
      have hp := HB
      have hlt2 := HLT
      go_region_held3 (fun W => W.cell? ⟨w.heap.size, 0, none⟩ = some (.int .i64 N) ∧ W.cell? ⟨w.heap.size, 1, none⟩ = some (.slice A l.length c)) (first | exact ⟨k0, k1⟩ | go_keep) (first
        | (go_at_call 18; refine (HL.out _ (HA.out _ (by first | exact hp.out | exact hp.out.drew))).mono ?_; rintro e w2 ⟨a2, c2, rfl, ho2, hac2, hnc2, hb2⟩; have HO2 := Lib.hid ho2.krd; have hp := Lib.hid (show Below w.heap.size w w2 from by first | exact bt hp.out hb2 | exact bt hp.out.drew hb2); have k0 := ((bcell hb2).1 _ _ hlt2.out).trans k0; have k1 := ((bcell hb2).1 _ _ hlt2.out).trans k1; have hlt2 := Lib.hid (Nat.lt_of_lt_of_le hlt2.out hb2.size); clear ho2 hac2 hnc2 hb2)
        | (go_at_call 15; refine (HO.out _ _ _ HO2.out).mono ?_; rintro e w3 ⟨a3, c3, rfl, ho3, hac3, hnc3, hb3⟩; have HO3 := Lib.hid ho3.brd; have hp := Lib.hid (show Below w.heap.size w w3 from by first | exact bt hp.out hb3 | exact bt hp.out.drew hb3); have k0 := ((bcell hb3).1 _ _ hlt2.out).trans k0; have k1 := ((bcell hb3).1 _ _ hlt2.out).trans k1; have hlt2 := Lib.hid (Nat.lt_of_lt_of_le hlt2.out hb3.size); clear ho3 hac3 hnc3 hb3)
        | (go_at_call 13; refine (HEX.out _ _ _ (HA.out _ (by first | exact hp.out | exact hp.out.drew)) HO3.out).mono ?_; rintro e w4 ⟨rfl, hb4⟩; have hp := Lib.hid (show Below w.heap.size w w4 from by first | exact bt hp.out hb4 | exact bt hp.out.drew hb4); have k0 := ((bcell hb4).1 _ _ hlt2.out).trans k0; have k1 := ((bcell hb4).1 _ _ hlt2.out).trans k1; clear hb4))
      go_wp2_with fail
      go_ret
      exact ⟨ret_int (by rw [HE.out, if_pos HQ.out]), hp.out⟩
    | false =>
      have HQ := Lib.hid (of_decide_eq_false hq)
      rw [hq] at HEQ
      rw [HEQ.out] at HEX
      clear hq
      go_enter Try.func20, Try.ntmps20
      go_wp2_with fail
      have hp := HB
      have hlt2 := HLT
      go_region_held3 (fun W => W.cell? ⟨w.heap.size, 0, none⟩ = some (.int .i64 N) ∧ W.cell? ⟨w.heap.size, 1, none⟩ = some (.slice A l.length c)) (first | exact ⟨k0, k1⟩ | go_keep) (first
        | (go_at_call 18; refine (HL.out _ (HA.out _ (by first | exact hp.out | exact hp.out.drew))).mono ?_; rintro e w2 ⟨a2, c2, rfl, ho2, hac2, hnc2, hb2⟩; have HO2 := Lib.hid ho2.krd; have hp := Lib.hid (show Below w.heap.size w w2 from by first | exact bt hp.out hb2 | exact bt hp.out.drew hb2); have k0 := ((bcell hb2).1 _ _ hlt2.out).trans k0; have k1 := ((bcell hb2).1 _ _ hlt2.out).trans k1; have hlt2 := Lib.hid (Nat.lt_of_lt_of_le hlt2.out hb2.size); clear ho2 hac2 hnc2 hb2)
        | (go_at_call 15; refine (HO.out _ _ _ HO2.out).mono ?_; rintro e w3 ⟨a3, c3, rfl, ho3, hac3, hnc3, hb3⟩; have HO3 := Lib.hid ho3.brd; have hp := Lib.hid (show Below w.heap.size w w3 from by first | exact bt hp.out hb3 | exact bt hp.out.drew hb3); have k0 := ((bcell hb3).1 _ _ hlt2.out).trans k0; have k1 := ((bcell hb3).1 _ _ hlt2.out).trans k1; have hlt2 := Lib.hid (Nat.lt_of_lt_of_le hlt2.out hb3.size); clear ho3 hac3 hnc3 hb3)
        | (go_at_call 13; refine (HEX.out _ _ _ (HA.out _ (by first | exact hp.out | exact hp.out.drew)) HO3.out).mono ?_; rintro e w4 ⟨rfl, hb4⟩; have hp := Lib.hid (show Below w.heap.size w w4 from by first | exact bt hp.out hb4 | exact bt hp.out.drew hb4); have k0 := ((bcell hb4).1 _ _ hlt2.out).trans k0; have k1 := ((bcell hb4).1 _ _ hlt2.out).trans k1; clear hb4))
      go_wp2_with fail
      go_ret
      exact ⟨ret_int (by rw [HE.out, if_neg HQ.out]), hp.out⟩
/-- What a call answers that makes bits, or ErrArg. -/
def oT (o : Option (List Bool)) : List Bool := o.getD []
def oE (o : Option (List Bool)) : Int := if o.isSome then 0 else 1
def OPost (o : Option (List Bool)) (w : World) (e : Ending) (w' : World) : Prop := ∃ a c, e = .returned (.tuple #[.agg #[.int .i64 ((oT o).length : Int), .slice a (pkB (oT o)).length c], .int .i64 (oE o)]) ∧ OwnB w' w.heap.size (.slice a (pkB (oT o)).length c) (pkB (oT o)) ∧ (a = none → c = 0) ∧ Below w.heap.size w w'
theorem OPost.none' {w w' : World} (hb : Below w.heap.size w w') : OPost none w (.returned (.tuple #[.agg #[.int .i64 0, .slice none 0 0], .int .i64 1])) w' := ⟨none, 0, rfl, OwnB.nil _ _, fun _ => rfl, hb⟩
theorem OPost.box {t : List Bool} {w W2 : World} {B c n : Nat} {a : Option Addr} (ho : OwnB W2 B (.slice a n c) (pkB t)) (hn : n = (pkB t).length) (hac : a = none → c = 0) (hB : w.heap.size ≤ B) (hb : Below w.heap.size w W2) (b : Nat) (h1 : w.heap.size ≤ b) (h2 : (Value.slice a n c).ownBlock ≠ some b) (u0 u1 : Value) :
    OPost (some t) w (.returned (.tuple #[.agg #[.int .i64 (t.length : Int), .slice a n c], .int .i64 0])) ((W2.setCell ⟨b, 0, none⟩ u0).setCell ⟨b, 1, none⟩ u1) := by
  subst hn
  refine ⟨a, c, rfl, (ho.fr (set2_fr W2 b u0 u1) fun k hk e => ?_).low hB, hac, ?_⟩
  · subst e; exact h2 hk
  · exact below_tr hb ((set2_fr W2 b u0 u1).below (fun k e => by omega) hb.size)
def setV (N : Int) (l : List UInt8) (i : Int) (y : Bool) : Option (List Bool) := if hasB N l i then some ((trB N l).set i.toNat y) else none
set_option maxHeartbeats 8000000 in
set_option maxRecDepth 100000 in
theorem set_any (N : Int) (A : Option Addr) (c : Nat) (l : List UInt8) (i : Int) (y : Bool) (w : World) (hA : BRd w A l) (hl : l.length ≤ 17592186044416) : Calls Try.prog 23 #[.agg #[.int .i64 N, .slice A l.length c], .int .i64 i, .bool y] w (OPost (setV N l i y) w) := by
  have HA := Lib.hid (fun (W : World) (h : Below w.heap.size w W) => hA.below h)
  have HH := Lib.hid (fun W => has_any N A c l i W (by omega))
  have HC := Lib.hid (fun (W : World) (h : BRd W A l) => normal_any N A c l W h (by omega))
  unfold BPost at HC
  have HX3 := Lib.hid (box_next (box_new w (.cells #[.int .i64 N, .slice A l.length c] 25)) (alloc_below _ (.cells #[.int .i64 0, .slice none 0 0] 25)))
  have hX6 := box_new (w.alloc (.cells #[.int .i64 N, .slice A l.length c] 25)) (.cells #[.int .i64 0, .slice none 0 0] 25)
  rw [World.size_alloc] at hX6
  have HX6 := Lib.hid hX6
  have HB := Lib.hid (bt (alloc_below w (.cells #[.int .i64 N, .slice A l.length c] 25)) (alloc_below _ (.cells #[.int .i64 0, .slice none 0 0] 25)))
  clear hA hX6
  cases hh : hasB N l i with
  | false =>
    have HV := Lib.hid (show setV N l i y = none by unfold setV; rw [hh]; rfl)
    rw [hh] at HH
    rw [HV.out]
    clear hh HC
    go_enter Try.func23, Try.ntmps23
    go_wp2_with fail
    refine (HH.out _).mono ?_
    rintro e w1 ⟨rfl, hb⟩
    obtain ⟨⟨s0, s1⟩, sf⟩ := box_cells2 (box_next HX6.out hb)
    have HB1 := Lib.hid (bt HB.out hb)
    clear hb
    go_wp2_with fail
    refine bodyPost_ret (v := .tuple #[.agg #[.int .i64 0, .slice none 0 0], .int .i64 1]) (by simp [results, Try.results23, go_sem, s0, s1]) rfl ?_
    exact OPost.none' (below_tr HB1.out ((set2_fr w1 _ _ _).below (fun k e => by omega) HB1.out.size))
  | true =>
    have hi : 0 ≤ i ∧ i < (szB N l : Int) := by
      unfold hasB at hh
      simpa using hh
    obtain ⟨k, rfl⟩ : ∃ k : Nat, i = (k : Int) := ⟨i.toNat, by omega⟩
    have hkt : k < (trB N l).length := by rw [tr_len]; omega
    have hsl := sz_le N l
    have HV := Lib.hid (show setV N l k y = some ((trB N l).set k y) by unfold setV; rw [hh]; rfl)
    have HPT := Lib.hid (fun (M : Int) (W : World) (B c : Nat) (a : Option Addr) (h : OwnB W B (.slice a (pkB (trB N l)).length c) (pkB (trB N l))) => put_any M B (pkB (trB N l)).length c a (pkB (trB N l)) k y W h rfl (by rw [pk_len]; omega) (by rw [pk_len, tr_len]; omega))
    rw [put_pk hkt] at HPT
    have HSL : Hid ((pkB (trB N l)).length = (pkB ((trB N l).set k y)).length ∧ (trB N l).length = ((trB N l).set k y).length) := by
      refine ⟨?_, ?_⟩
      · rw [pk_len, pk_len, List.length_set]
      · rw [List.length_set]
    rw [hh] at HH
    rw [HV.out]
    clear hh hi hkt hsl
    generalize (trB N l).set k y = s at *
    generalize pkB (trB N l) = m at *
    generalize trB N l = t at *
    go_enter Try.func23, Try.ntmps23
    go_wp2_with fail
    refine (HH.out _).mono ?_
    rintro e w1 ⟨rfl, hb⟩
    have X3 := Lib.hid (box_next HX3.out hb)
    have X6 := Lib.hid (box_next HX6.out hb)
    have B1 := Lib.hid (bt HB.out hb)
    obtain ⟨⟨r0, r1⟩, rf⟩ := box_cells2 X3.out
    clear hb HX3 HX6 HB
    go_wp2_with fail
    refine (HC.out _ (HA.out _ B1.out)).mono ?_
    rintro e w2 ⟨a, c2, rfl, ho, hac, hnc, hb⟩
    have Y3 := Lib.hid (box_next X3.out hb)
    have Y6 := Lib.hid (box_next X6.out hb)
    have B2 := Lib.hid (bt B1.out hb)
    obtain ⟨⟨t0, t1⟩, tf⟩ := box_cells2 Y3.out
    have hsz := box_lt X6.out
    have hf := set2_fr w2 w.heap.size (.int .i64 (t.length : Int)) (.slice a m.length c2)
    have HO3 := Lib.hid (ho.fr hf fun j h e => by subst e; have := (World.ownsRow.lt ho _ h).1; omega)
    have Z3 := Lib.hid (box_set2 Y3.out (.int .i64 (t.length : Int)) (.slice a m.length c2))
    have Z6 := Lib.hid (box_fr Y6.out hf (by omega))
    have B3 := Lib.hid (below_tr B2.out (hf.below (B := w.heap.size) (fun j e => by omega) B2.out.size))
    have HSZ := Lib.hid (show w.heap.size + 1 < w1.heap.size from hsz)
    have HAC := Lib.hid hac
    clear ho hb hsz hf hac hnc
    go_wp2_with fail
    generalize ((w2.setCell ⟨w.heap.size, 0, none⟩ (.int .i64 (t.length : Int))).setCell ⟨w.heap.size, 1, none⟩ (.slice a m.length c2)) = W3 at *
    refine (HPT.out _ _ _ _ _ HO3.out).mono ?_
    rintro e w4 ⟨rfl, ho4, hf4⟩
    have hoff := box_off HO3.out Z3.out (by decide)
    have hoff6 := box_off HO3.out Z6.out (by decide)
    have U3 := Lib.hid (box_fr Z3.out hf4 (fun ⟨b, e, h⟩ => hoff (by subst e; exact congrArg some h.symm)))
    have U6 := Lib.hid (box_fr Z6.out hf4 (fun ⟨b, e, h⟩ => hoff6 (by subst e; exact congrArg some h.symm)))
    have B4 := Lib.hid (below_tr B3.out (hf4.below (B := w.heap.size) (fun j ⟨b, e, h⟩ => by subst e; have := (World.ownsRow.lt HO3.out b.block rfl).1; have := HSZ.out; omega) B3.out.size))
    have HO4 := Lib.hid ho4
    obtain ⟨⟨u0, u1⟩, uf⟩ := box_cells2 U3.out
    obtain ⟨⟨z0, z1⟩, zf⟩ := box_cells2 U6.out
    have HOFF := Lib.hid hoff6
    clear ho4 hf4 hoff hoff6 r0 r1 rf t0 t1 tf
    go_wp2_with fail
    refine bodyPost_ret (v := .tuple #[.agg #[.int .i64 t.length, .slice a m.length c2], .int .i64 0]) (by simp [results, Try.results23, go_sem, z0, z1]) rfl ?_
    rw [HSL.out.2]
    exact OPost.box HO4.out HSL.out.1 HAC.out (by have := HSZ.out; omega) B4.out (w.heap.size + 1) (by omega) HOFF.out _ _
set_option maxHeartbeats 8000000 in
set_option maxRecDepth 100000 in
theorem rset_any (N : Int) (A : Option Addr) (c : Nat) (l : List UInt8) (i : Int) (y : Bool) (w : World) (hA : BRd w A l) (hl : l.length ≤ 17592186044416) : Calls Try.prog 24 #[.agg #[.int .i64 N, .slice A l.length c], .int .i64 i, .bool y] w (OPost (setV N l i y) w) := by
  have HA := Lib.hid (fun (W : World) (h : Below w.heap.size w W) => hA.below h)
  have HL := Lib.hid (fun (W : World) (h : BRd W A l) => rlist_any N A c l W h (by omega))
  unfold TPost at HL
  have HX6 := box_new (w.alloc (.cells #[.int .i64 N, .slice A l.length c] 25)) (.cells #[.int .i64 0, .slice none 0 0] 25)
  rw [World.size_alloc] at HX6
  have X6 := Lib.hid HX6
  have HB := Lib.hid (bt (alloc_below w (.cells #[.int .i64 N, .slice A l.length c] 25)) (alloc_below _ (.cells #[.int .i64 0, .slice none 0 0] 25)))
  have hsl := sz_le N l
  have HH : Hid (hasB N l i = decide (0 ≤ i ∧ i < ((trB N l).length : Int))) := by
    show _ = _
    unfold hasB
    rw [tr_len, Bool.decide_and]
  have HV : Hid (setV N l i y = if hasB N l i then some ((trB N l).set i.toNat y) else none) := rfl
  have HOF := Lib.hid (fun (t : List Bool) (W : World) (C : Option Addr) (d : Nat) (h : KRd W C t) (hl : t.length ≤ 1000000000000000) => rof_any C d t W h hl)
  have HTL : Hid ((trB N l).length ≤ 140737488355328) := by show _ ≤ _; rw [tr_len]; omega
  clear hA HX6 hsl
  generalize trB N l = t at *
  go_enter Try.func24, Try.ntmps24
  go_wp2_with fail
  refine (HL.out _ (HA.out _ HB.out)).mono ?_
  rintro e w2 ⟨a, c2, rfl, ho, hac, hnc, hb⟩
  have Y6 := Lib.hid (box_next X6.out hb)
  have B2 := Lib.hid (bt HB.out hb)
  have HO := Lib.hid ho
  have HSZ : Hid (w.heap.size + 1 < w2.heap.size) := box_lt Y6.out
  have HS0 : Hid (((w.alloc (.cells #[.int .i64 N, .slice A l.length c] 25)).alloc (.cells #[.int .i64 0, .slice none 0 0] 25)).heap.size = w.heap.size + 2) := by show _ = _; simp
  clear ho hb X6 HB
  by_cases h0 : 0 ≤ i
  · by_cases h1 : i < (t.length : Int)
    · have hv := HV.out
      rw [HH.out, decide_eq_true ⟨h0, h1⟩, if_pos rfl] at hv
      obtain ⟨k, rfl⟩ : ∃ k : Nat, i = (k : Int) := ⟨i.toNat, by omega⟩
      have hkt : k < t.length := by omega
      have HVV := Lib.hid hv
      obtain ⟨g, rfl, hgB, hgl, hfz, hcc, hput⟩ := OwnT.put HO.out rfl k hkt
      have HP := Lib.hid (hput y)
      have hne : ¬ g = w.heap.size + 1 := fun e => by subst e; exact box_off HO.out Y6.out (by decide) rfl
      have Z6 := Lib.hid (box_fr Y6.out (hput y).2 (fun e => hne e.symm))
      have hgw : w.heap.size + 2 ≤ g := by have := HS0.out; omega
      have B3 := Lib.hid (below_tr B2.out ((hput y).2.below (B := w.heap.size) (fun j e => by omega) B2.out.size))
      have hti : (k : Int) < (t.length : Int) := h1
      have HSET : Hid ((t.set k y).length = t.length) := List.length_set
      have HKR := Lib.hid (OwnT.krd (HP.out.1))
      have HOF2 := HOF.out (t.set k y)
      rw [HSET.out] at HOF2
      have HOF3 := Lib.hid HOF2
      have HGE : Hid (w.heap.size + 1 < g) := by show _ < _; omega
      clear hput HV HH hv HOF2 HOF hac hnc
      go_wp2_with fail
      refine (HOF3.out _ _ _ HKR.out (by have := HTL.out; omega)).mono ?_
      rintro e w4 ⟨a4, c4, rfl, ho4, hac4, hnc4, hb4⟩
      have U6 := Lib.hid (box_next Z6.out hb4)
      have B4 := Lib.hid (bt B3.out hb4)
      have HO4 := Lib.hid ho4
      have HAC := Lib.hid hac4
      obtain ⟨⟨z0, z1⟩, zf⟩ := box_cells2 U6.out
      have HSB : Hid (w.heap.size + 1 < (w2.setCell ⟨g, k, none⟩ (.bool y)).heap.size) := by show _ < _; simpa using HSZ.out
      clear ho4 hac4 hnc4 hb4
      go_wp2_with fail
      refine bodyPost_ret (v := .tuple #[.agg #[.int .i64 (t.set k y).length, .slice a4 (pkB (t.set k y)).length c4], .int .i64 0]) (by simp [results, Try.results24, go_sem, z0, z1]) rfl ?_
      rw [HVV.out]
      exact OPost.box HO4.out rfl HAC.out (by have := HSB.out; omega) B4.out (w.heap.size + 1) (by omega) (box_off HO4.out U6.out (by decide)) _ _
    · have hv := HV.out
      rw [HH.out, decide_eq_false (fun h => h1 h.2), if_neg (by simp)] at hv
      have HVV := Lib.hid hv
      obtain ⟨⟨s0, s1⟩, sf⟩ := box_cells2 Y6.out
      clear HV HH hv
      go_wp2_with fail
      refine bodyPost_ret (v := .tuple #[.agg #[.int .i64 0, .slice none 0 0], .int .i64 1]) (by simp [results, Try.results24, go_sem, s0, s1]) rfl ?_
      rw [HVV.out]
      exact OPost.none' (below_tr B2.out ((set2_fr w2 (w.heap.size + 1) _ _).below (fun k e => by omega) B2.out.size))
  · have hv := HV.out
    rw [HH.out, decide_eq_false (fun h => h0 h.1), if_neg (by simp)] at hv
    have HVV := Lib.hid hv
    obtain ⟨⟨s0, s1⟩, sf⟩ := box_cells2 Y6.out
    clear HV HH hv
    go_wp2_with fail
    refine bodyPost_ret (v := .tuple #[.agg #[.int .i64 0, .slice none 0 0], .int .i64 1]) (by simp [results, Try.results24, go_sem, s0, s1]) rfl ?_
    rw [HVV.out]
    exact OPost.none' (below_tr B2.out ((set2_fr w2 (w.heap.size + 1) _ _).below (fun k e => by omega) B2.out.size))
end Go.Proofs.Ytpdffcopigajgaa
