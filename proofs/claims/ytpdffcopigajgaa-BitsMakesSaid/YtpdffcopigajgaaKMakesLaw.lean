/-
  BitsMakes: bits of truths, truths of bits, and which bits may be, are the document's. No condition beyond the form's own.
-/
import Derived.Test.YtpdffcopigajgaaKSetsLaw
namespace Go.Proofs.Ytpdffcopigajgaa
open Go.ChangeShapes Go.WideShapes Go.ChangeAt Go.RowKit Go.Deep
set_option linter.unusedVariables false

theorem krd_onD {W w9 : World} {a : Option Addr} {l : List Bool} (h : KRd W a l) (hb : Below W.drew.heap.size W.drew w9) : KRd w9 a l := KRd.below (w := W.drew) h hb
theorem field0 (x : Int) (v : Value) (W : World) : (Instr.field 25 (.agg #[.int .i64 x, v]) 0).run Try.prog W = .ok (.int .i64 x) W := by kernel_rfl
set_option maxHeartbeats 2000000 in
theorem rnew_any (n : Int) (w : World) : Calls Try.prog 22 #[.int .i64 n] w (BPost (List.replicate (newN n) false) w) := by
  have HN : Hid (min (max n 0) 1048576 = ((newN n : Nat) : Int)) := by show _ = _; unfold newN; omega
  have hm : newN n ≤ 1048576 := by unfold newN; omega
  generalize newN n = m at *
  have hmk := run_make_row' (P := Try.prog) 22 4 (.bool false) 1 Try.underlying22 boolInfo rfl .i64 .i64 m (by omega) (by omega)
  have HMK := Lib.hid (OwnT.made (w.alloc (.cells #[.int .i64 0, .slice none 0 0] 25)) m (by omega))
  have HK : Hid (KRd ((w.alloc (.cells #[.int .i64 0, .slice none 0 0] 25)).alloc (.cells (madeCells #[.bool false] m) 4)) (some ⟨w.heap.size + 1, 0, none⟩) (List.replicate m false)) := by
    have h := HMK.out.krd
    rw [World.size_alloc] at h
    exact h
  obtain ⟨t, ht⟩ : ∃ t : List Bool, t = List.replicate m false := ⟨_, rfl⟩
  have htl : t.length = m := by rw [ht, List.length_replicate]
  rw [← ht] at HK ⊢
  have HOF := Lib.hid (fun (W : World) (C : Option Addr) (d : Nat) (h : KRd W C t) => rof_any C d t W h (by omega))
  rw [htl] at HOF
  have HT := Lib.hid htl
  clear ht htl HMK
  have hq := HN.out
  go_enter Try.func22, Try.ntmps22
  go_wp2_with fail
  refine (HOF.out _ _ _ HK.out).mono ?_
  rintro e w2 ⟨a, c, rfl, ho, hac, hnc, hb⟩
  obtain ⟨⟨r0, r1⟩, rf⟩ := box_cells2 (box_next (box_next (box_new w (.cells #[.int .i64 0, .slice none 0 0] 25)) (alloc_below _ _)) hb)
  have HO := Lib.hid ho
  have HB := Lib.hid (bt (bt (alloc_below _ _) (alloc_below _ _)) hb)
  have HAC := Lib.hid hac
  clear ho hb hac hmk HK
  go_wp2_with fail
  refine bodyPost_ret (v := .agg #[.int .i64 t.length, .slice a (pkB t).length c]) (by simp [results, Try.results22, go_sem, r0, r1]) rfl ?_
  exact BPost.box HO.out rfl HAC.out hnc (by simp; omega) HB.out _ (Nat.le_refl _) (by simp; omega) _ _
set_option maxHeartbeats 32000000 in
set_option maxRecDepth 100000 in
theorem bitsMakes_walk (A0 : Option Addr) (c0 : Nat) (t : List Bool) (N : Int) (A : Option Addr) (c : Nat) (l : List UInt8) (n : Int) (w : World) (hT : KRd w A0 t) (htl : t.length ≤ 140737488355328) (hA : BRd w A l) (hc : l.length ≤ c) (hl : l.length ≤ 140737488355328) (hn : 0 ≤ n) (hn2 : n ≤ 65535) :
    Calls Try.prog 3 #[.slice A0 t.length c0, .agg #[.int .i64 N, .slice A l.length c], .int .u16 n] w fun e w' => e = .returned (.bool true) ∧ Below w.heap.size w w' := by
  have HSM := Lib.hid (fun W => small_any N A c l W hc hl)
  have hs4 : (smallL l).length ≤ 4096 := by rw [small_len]; omega
  have HA : Hid (∀ W : World, Below w.heap.size w W → BRd W A (smallL l)) := fun W h => brd_take' (hA.below h) 4096
  have HT := Lib.hid (fun (W : World) (h : Below w.heap.size w W) => hT.below h)
  clear hA hl hT
  generalize hn1 : (smallL l) = m at *
  clear hn1
  have HOF := Lib.hid (fun (W : World) (h : KRd W A0 t) => of_any A0 c0 t W h (by omega))
  have HROF := Lib.hid (fun (W : World) (h : KRd W A0 t) => rof_any A0 c0 t W h (by omega))
  have HE1 := Lib.hid (fun (W : World) (a a' : Option Addr) (c c' : Nat) (h : BRd W a (pkB t)) (h' : BRd W a' (pkB t)) => exact_any (t.length : Int) (t.length : Int) a a' c c' (pkB t) (pkB t) W h h')
  rw [show (decide ((t.length : Int) = (t.length : Int)) && (pkB t == pkB t)) = true by simp] at HE1
  unfold BPost at HOF HROF
  generalize pkB t = PT at *
  have HL := Lib.hid (fun (W : World) (h : BRd W A m) => list_any N A c m W h (by omega))
  have HRL := Lib.hid (fun (W : World) (h : BRd W A m) => rlist_any N A c m W h (by omega))
  unfold TPost at HL HRL
  have htr : (trB N m).length ≤ 140737488355328 := by have := sz_le N m; rw [tr_len]; omega
  have HEQ := Lib.hid (fun (W : World) (a a' : Option Addr) (c c' : Nat) (h : KRd W a (trB N m)) (h' : KRd W a' (trB N m)) => sameT_any a a' c c' (trB N m).length (trB N m) W h h' rfl htr)
  have HC := Lib.hid (fun (W : World) (h : BRd W A m) => check_any N A c m W h (by omega))
  have HRC := Lib.hid (fun (W : World) (h : BRd W A m) => rcheck_any N A c m W h (by omega))
  generalize checkE N m = ck at *
  have HN := Lib.hid (fun W => new_any n W)
  have HRN := Lib.hid (fun W => rnew_any n W)
  have hz0 : newN (-n) = 0 := by unfold newN; omega
  have HNM := Lib.hid (fun W => new_any (-n) W)
  rw [hz0] at HNM
  have HE2 := Lib.hid (fun (W : World) (a a' : Option Addr) (c c' : Nat) (h : BRd W a (pkB (List.replicate (newN n) false))) (h' : BRd W a' (pkB (List.replicate (newN n) false))) => exact_any ((List.replicate (newN n) false).length : Int) ((List.replicate (newN n) false).length : Int) a a' c c' (pkB (List.replicate (newN n) false)) (pkB (List.replicate (newN n) false)) W h h')
  rw [show (decide (((List.replicate (newN n) false).length : Int) = ((List.replicate (newN n) false).length : Int)) && (pkB (List.replicate (newN n) false) == pkB (List.replicate (newN n) false))) = true by simp] at HE2
  unfold BPost at HN HRN HNM
  generalize pkB (List.replicate (newN n) false) = PN at *
  generalize ((List.replicate (newN n) false).length : Int) = LN at *
  rw [show ((List.replicate 0 false).length : Int) = 0 from rfl] at HNM
  have HX3 := Lib.hid (box_new w (.cells #[.int .i64 N, .slice A l.length c] 25))
  have HB := Lib.hid (alloc_below w (.cells #[.int .i64 N, .slice A l.length c] 25))
  clear htr hz0 hc htl
  go_enter Try.func3, Try.ntmps3
  go_wp2_with fail
  refine (HSM.out _).mono ?_
  rintro e w1 ⟨rfl, hb⟩
  have X3 := box_next HX3.out hb
  have hf := set2_fr w1 w.heap.size (.int .i64 N) (.slice A m.length c)
  have Y3 := Lib.hid (box_set2 X3 (.int .i64 N) (.slice A m.length c))
  have hB1 := bt HB.out hb
  have hp := Lib.hid (below_tr hB1 (hf.below (B := w.heap.size) (fun j e => by omega) hB1.size))
  obtain ⟨⟨r0, r1⟩, rf⟩ := box_cells2 X3
  clear X3 hf hB1 hb HX3 HB HSM
  go_wp2_with fail
  generalize ((w1.setCell ⟨w.heap.size, 0, none⟩ (.int .i64 N)).setCell ⟨w.heap.size, 1, none⟩ (.slice A m.length c)) = W1 at *
  clear r0 r1 rf
  have HLT := Lib.hid (box_lt Y3.out)
  obtain ⟨⟨k0, k1⟩, -⟩ := box_cells2 Y3.out
  clear Y3
  have hfl := field0
  have hck : (ck == ck) = true := by simp
  have hw1 : IntKind.i64.wrap n = n := IntWalk.i64_in _ (by omega)
  have hw2 : IntKind.i64.wrap (-n) = -n := IntWalk.i64_in _ (by omega)
  go_region_held3 (fun W => W.cell? ⟨w.heap.size, 0, none⟩ = some (.int .i64 N) ∧ W.cell? ⟨w.heap.size, 1, none⟩ = some (.slice A m.length c)) (first | exact ⟨k0, k1⟩ | go_keep) (first
    | (go_at_call 12; refine (begun_any _).mono ?_; rintro e w9 ⟨rfl, hb9⟩; replace k0 := ((bcell hb9).1 _ _ HLT.out).trans k0; replace k1 := ((bcell hb9).1 _ _ HLT.out).trans k1; replace hp := Lib.hid (show Below w.heap.size w w9 from by first | exact bt hp.out hb9 | exact bt hp.out.drew hb9); (first | replace RA := Lib.hid (RA.out.below hb9) | replace RA := Lib.hid (brd_onD RA.out hb9) | skip); (first | replace RB := Lib.hid (RB.out.below hb9) | replace RB := Lib.hid (brd_onD RB.out hb9) | skip); (first | replace RC := Lib.hid (RC.out.below hb9) | replace RC := Lib.hid (brd_onD RC.out hb9) | skip); (first | replace RD := Lib.hid (RD.out.below hb9) | replace RD := Lib.hid (brd_onD RD.out hb9) | skip); (first | replace TA := Lib.hid (TA.out.below hb9) | replace TA := Lib.hid (krd_onD TA.out hb9) | skip); (first | replace TB := Lib.hid (TB.out.below hb9) | replace TB := Lib.hid (krd_onD TB.out hb9) | skip); replace HLT := Lib.hid (Nat.lt_of_lt_of_le HLT.out hb9.size); clear hb9)
    | (go_at_call 14; refine (HOF.out _ (HT.out _ (by first | exact hp.out | exact hp.out.drew))).mono ?_; rintro e w9 ⟨aA, cA, rfl, hoA, -, -, hb9⟩; replace k0 := ((bcell hb9).1 _ _ HLT.out).trans k0; replace k1 := ((bcell hb9).1 _ _ HLT.out).trans k1; replace hp := Lib.hid (show Below w.heap.size w w9 from by first | exact bt hp.out hb9 | exact bt hp.out.drew hb9); (first | replace RA := Lib.hid (RA.out.below hb9) | replace RA := Lib.hid (brd_onD RA.out hb9) | skip); (first | replace RB := Lib.hid (RB.out.below hb9) | replace RB := Lib.hid (brd_onD RB.out hb9) | skip); (first | replace RC := Lib.hid (RC.out.below hb9) | replace RC := Lib.hid (brd_onD RC.out hb9) | skip); (first | replace RD := Lib.hid (RD.out.below hb9) | replace RD := Lib.hid (brd_onD RD.out hb9) | skip); (first | replace TA := Lib.hid (TA.out.below hb9) | replace TA := Lib.hid (krd_onD TA.out hb9) | skip); (first | replace TB := Lib.hid (TB.out.below hb9) | replace TB := Lib.hid (krd_onD TB.out hb9) | skip); replace HLT := Lib.hid (Nat.lt_of_lt_of_le HLT.out hb9.size); clear hb9; have RA := Lib.hid hoA.brd; clear hoA)
    | (go_at_call 15; refine (HROF.out _ (HT.out _ (by first | exact hp.out | exact hp.out.drew))).mono ?_; rintro e w9 ⟨aB, cB, rfl, hoB, -, -, hb9⟩; replace k0 := ((bcell hb9).1 _ _ HLT.out).trans k0; replace k1 := ((bcell hb9).1 _ _ HLT.out).trans k1; replace hp := Lib.hid (show Below w.heap.size w w9 from by first | exact bt hp.out hb9 | exact bt hp.out.drew hb9); (first | replace RA := Lib.hid (RA.out.below hb9) | replace RA := Lib.hid (brd_onD RA.out hb9) | skip); (first | replace RB := Lib.hid (RB.out.below hb9) | replace RB := Lib.hid (brd_onD RB.out hb9) | skip); (first | replace RC := Lib.hid (RC.out.below hb9) | replace RC := Lib.hid (brd_onD RC.out hb9) | skip); (first | replace RD := Lib.hid (RD.out.below hb9) | replace RD := Lib.hid (brd_onD RD.out hb9) | skip); (first | replace TA := Lib.hid (TA.out.below hb9) | replace TA := Lib.hid (krd_onD TA.out hb9) | skip); (first | replace TB := Lib.hid (TB.out.below hb9) | replace TB := Lib.hid (krd_onD TB.out hb9) | skip); replace HLT := Lib.hid (Nat.lt_of_lt_of_le HLT.out hb9.size); clear hb9; have RB := Lib.hid hoB.brd; clear hoB)
    | (go_at_call 13; refine (HE1.out _ _ _ _ _ RA.out RB.out).mono ?_; rintro e w9 ⟨rfl, hb9⟩; replace k0 := ((bcell hb9).1 _ _ HLT.out).trans k0; replace k1 := ((bcell hb9).1 _ _ HLT.out).trans k1; replace hp := Lib.hid (show Below w.heap.size w w9 from by first | exact bt hp.out hb9 | exact bt hp.out.drew hb9); (first | replace RA := Lib.hid (RA.out.below hb9) | replace RA := Lib.hid (brd_onD RA.out hb9) | skip); (first | replace RB := Lib.hid (RB.out.below hb9) | replace RB := Lib.hid (brd_onD RB.out hb9) | skip); (first | replace RC := Lib.hid (RC.out.below hb9) | replace RC := Lib.hid (brd_onD RC.out hb9) | skip); (first | replace RD := Lib.hid (RD.out.below hb9) | replace RD := Lib.hid (brd_onD RD.out hb9) | skip); (first | replace TA := Lib.hid (TA.out.below hb9) | replace TA := Lib.hid (krd_onD TA.out hb9) | skip); (first | replace TB := Lib.hid (TB.out.below hb9) | replace TB := Lib.hid (krd_onD TB.out hb9) | skip); replace HLT := Lib.hid (Nat.lt_of_lt_of_le HLT.out hb9.size); clear hb9; clear RA RB)
    | (go_at_call 17; refine (HL.out _ (HA.out _ (by first | exact hp.out | exact hp.out.drew))).mono ?_; rintro e w9 ⟨bA, dA, rfl, hoA, -, -, hb9⟩; replace k0 := ((bcell hb9).1 _ _ HLT.out).trans k0; replace k1 := ((bcell hb9).1 _ _ HLT.out).trans k1; replace hp := Lib.hid (show Below w.heap.size w w9 from by first | exact bt hp.out hb9 | exact bt hp.out.drew hb9); (first | replace RA := Lib.hid (RA.out.below hb9) | replace RA := Lib.hid (brd_onD RA.out hb9) | skip); (first | replace RB := Lib.hid (RB.out.below hb9) | replace RB := Lib.hid (brd_onD RB.out hb9) | skip); (first | replace RC := Lib.hid (RC.out.below hb9) | replace RC := Lib.hid (brd_onD RC.out hb9) | skip); (first | replace RD := Lib.hid (RD.out.below hb9) | replace RD := Lib.hid (brd_onD RD.out hb9) | skip); (first | replace TA := Lib.hid (TA.out.below hb9) | replace TA := Lib.hid (krd_onD TA.out hb9) | skip); (first | replace TB := Lib.hid (TB.out.below hb9) | replace TB := Lib.hid (krd_onD TB.out hb9) | skip); replace HLT := Lib.hid (Nat.lt_of_lt_of_le HLT.out hb9.size); clear hb9; have TA := Lib.hid hoA.krd; clear hoA)
    | (go_at_call 18; refine (HRL.out _ (HA.out _ (by first | exact hp.out | exact hp.out.drew))).mono ?_; rintro e w9 ⟨bB, dB, rfl, hoB, -, -, hb9⟩; replace k0 := ((bcell hb9).1 _ _ HLT.out).trans k0; replace k1 := ((bcell hb9).1 _ _ HLT.out).trans k1; replace hp := Lib.hid (show Below w.heap.size w w9 from by first | exact bt hp.out hb9 | exact bt hp.out.drew hb9); (first | replace RA := Lib.hid (RA.out.below hb9) | replace RA := Lib.hid (brd_onD RA.out hb9) | skip); (first | replace RB := Lib.hid (RB.out.below hb9) | replace RB := Lib.hid (brd_onD RB.out hb9) | skip); (first | replace RC := Lib.hid (RC.out.below hb9) | replace RC := Lib.hid (brd_onD RC.out hb9) | skip); (first | replace RD := Lib.hid (RD.out.below hb9) | replace RD := Lib.hid (brd_onD RD.out hb9) | skip); (first | replace TA := Lib.hid (TA.out.below hb9) | replace TA := Lib.hid (krd_onD TA.out hb9) | skip); (first | replace TB := Lib.hid (TB.out.below hb9) | replace TB := Lib.hid (krd_onD TB.out hb9) | skip); replace HLT := Lib.hid (Nat.lt_of_lt_of_le HLT.out hb9.size); clear hb9; have TB := Lib.hid hoB.krd; clear hoB)
    | (go_at_call 16; refine (HEQ.out _ _ _ _ _ TA.out TB.out).mono ?_; rintro e w9 ⟨rfl, hb9⟩; replace k0 := ((bcell hb9).1 _ _ HLT.out).trans k0; replace k1 := ((bcell hb9).1 _ _ HLT.out).trans k1; replace hp := Lib.hid (show Below w.heap.size w w9 from by first | exact bt hp.out hb9 | exact bt hp.out.drew hb9); (first | replace RA := Lib.hid (RA.out.below hb9) | replace RA := Lib.hid (brd_onD RA.out hb9) | skip); (first | replace RB := Lib.hid (RB.out.below hb9) | replace RB := Lib.hid (brd_onD RB.out hb9) | skip); (first | replace RC := Lib.hid (RC.out.below hb9) | replace RC := Lib.hid (brd_onD RC.out hb9) | skip); (first | replace RD := Lib.hid (RD.out.below hb9) | replace RD := Lib.hid (brd_onD RD.out hb9) | skip); (first | replace TA := Lib.hid (TA.out.below hb9) | replace TA := Lib.hid (krd_onD TA.out hb9) | skip); (first | replace TB := Lib.hid (TB.out.below hb9) | replace TB := Lib.hid (krd_onD TB.out hb9) | skip); replace HLT := Lib.hid (Nat.lt_of_lt_of_le HLT.out hb9.size); clear hb9; clear TA TB)
    | (go_at_call 19; refine (HC.out _ (HA.out _ (by first | exact hp.out | exact hp.out.drew))).mono ?_; rintro e w9 ⟨rfl, hb9⟩; replace k0 := ((bcell hb9).1 _ _ HLT.out).trans k0; replace k1 := ((bcell hb9).1 _ _ HLT.out).trans k1; replace hp := Lib.hid (show Below w.heap.size w w9 from by first | exact bt hp.out hb9 | exact bt hp.out.drew hb9); (first | replace RA := Lib.hid (RA.out.below hb9) | replace RA := Lib.hid (brd_onD RA.out hb9) | skip); (first | replace RB := Lib.hid (RB.out.below hb9) | replace RB := Lib.hid (brd_onD RB.out hb9) | skip); (first | replace RC := Lib.hid (RC.out.below hb9) | replace RC := Lib.hid (brd_onD RC.out hb9) | skip); (first | replace RD := Lib.hid (RD.out.below hb9) | replace RD := Lib.hid (brd_onD RD.out hb9) | skip); (first | replace TA := Lib.hid (TA.out.below hb9) | replace TA := Lib.hid (krd_onD TA.out hb9) | skip); (first | replace TB := Lib.hid (TB.out.below hb9) | replace TB := Lib.hid (krd_onD TB.out hb9) | skip); replace HLT := Lib.hid (Nat.lt_of_lt_of_le HLT.out hb9.size); clear hb9)
    | (go_at_call 20; refine (HRC.out _ (HA.out _ (by first | exact hp.out | exact hp.out.drew))).mono ?_; rintro e w9 ⟨rfl, hb9⟩; replace k0 := ((bcell hb9).1 _ _ HLT.out).trans k0; replace k1 := ((bcell hb9).1 _ _ HLT.out).trans k1; replace hp := Lib.hid (show Below w.heap.size w w9 from by first | exact bt hp.out hb9 | exact bt hp.out.drew hb9); (first | replace RA := Lib.hid (RA.out.below hb9) | replace RA := Lib.hid (brd_onD RA.out hb9) | skip); (first | replace RB := Lib.hid (RB.out.below hb9) | replace RB := Lib.hid (brd_onD RB.out hb9) | skip); (first | replace RC := Lib.hid (RC.out.below hb9) | replace RC := Lib.hid (brd_onD RC.out hb9) | skip); (first | replace RD := Lib.hid (RD.out.below hb9) | replace RD := Lib.hid (brd_onD RD.out hb9) | skip); (first | replace TA := Lib.hid (TA.out.below hb9) | replace TA := Lib.hid (krd_onD TA.out hb9) | skip); (first | replace TB := Lib.hid (TB.out.below hb9) | replace TB := Lib.hid (krd_onD TB.out hb9) | skip); replace HLT := Lib.hid (Nat.lt_of_lt_of_le HLT.out hb9.size); clear hb9)
    | (go_at_call 21; (with_reducible refine (HN.out _).mono ?_); rintro e w9 ⟨aC, cC, rfl, hoC, -, -, hb9⟩; replace k0 := ((bcell hb9).1 _ _ HLT.out).trans k0; replace k1 := ((bcell hb9).1 _ _ HLT.out).trans k1; replace hp := Lib.hid (show Below w.heap.size w w9 from by first | exact bt hp.out hb9 | exact bt hp.out.drew hb9); (first | replace RA := Lib.hid (RA.out.below hb9) | replace RA := Lib.hid (brd_onD RA.out hb9) | skip); (first | replace RB := Lib.hid (RB.out.below hb9) | replace RB := Lib.hid (brd_onD RB.out hb9) | skip); (first | replace RC := Lib.hid (RC.out.below hb9) | replace RC := Lib.hid (brd_onD RC.out hb9) | skip); (first | replace RD := Lib.hid (RD.out.below hb9) | replace RD := Lib.hid (brd_onD RD.out hb9) | skip); (first | replace TA := Lib.hid (TA.out.below hb9) | replace TA := Lib.hid (krd_onD TA.out hb9) | skip); (first | replace TB := Lib.hid (TB.out.below hb9) | replace TB := Lib.hid (krd_onD TB.out hb9) | skip); replace HLT := Lib.hid (Nat.lt_of_lt_of_le HLT.out hb9.size); clear hb9; have RC := Lib.hid hoC.brd; clear hoC)
    | (go_at_call 21; (with_reducible refine (HNM.out _).mono ?_); rintro e w9 ⟨aE, cE, rfl, -, -, -, hb9⟩; replace k0 := ((bcell hb9).1 _ _ HLT.out).trans k0; replace k1 := ((bcell hb9).1 _ _ HLT.out).trans k1; replace hp := Lib.hid (show Below w.heap.size w w9 from by first | exact bt hp.out hb9 | exact bt hp.out.drew hb9); (first | replace RA := Lib.hid (RA.out.below hb9) | replace RA := Lib.hid (brd_onD RA.out hb9) | skip); (first | replace RB := Lib.hid (RB.out.below hb9) | replace RB := Lib.hid (brd_onD RB.out hb9) | skip); (first | replace RC := Lib.hid (RC.out.below hb9) | replace RC := Lib.hid (brd_onD RC.out hb9) | skip); (first | replace RD := Lib.hid (RD.out.below hb9) | replace RD := Lib.hid (brd_onD RD.out hb9) | skip); (first | replace TA := Lib.hid (TA.out.below hb9) | replace TA := Lib.hid (krd_onD TA.out hb9) | skip); (first | replace TB := Lib.hid (TB.out.below hb9) | replace TB := Lib.hid (krd_onD TB.out hb9) | skip); replace HLT := Lib.hid (Nat.lt_of_lt_of_le HLT.out hb9.size); clear hb9)
    | (go_at_call 22; refine (HRN.out _).mono ?_; rintro e w9 ⟨aD, cD, rfl, hoD, -, -, hb9⟩; replace k0 := ((bcell hb9).1 _ _ HLT.out).trans k0; replace k1 := ((bcell hb9).1 _ _ HLT.out).trans k1; replace hp := Lib.hid (show Below w.heap.size w w9 from by first | exact bt hp.out hb9 | exact bt hp.out.drew hb9); (first | replace RA := Lib.hid (RA.out.below hb9) | replace RA := Lib.hid (brd_onD RA.out hb9) | skip); (first | replace RB := Lib.hid (RB.out.below hb9) | replace RB := Lib.hid (brd_onD RB.out hb9) | skip); (first | replace RC := Lib.hid (RC.out.below hb9) | replace RC := Lib.hid (brd_onD RC.out hb9) | skip); (first | replace RD := Lib.hid (RD.out.below hb9) | replace RD := Lib.hid (brd_onD RD.out hb9) | skip); (first | replace TA := Lib.hid (TA.out.below hb9) | replace TA := Lib.hid (krd_onD TA.out hb9) | skip); (first | replace TB := Lib.hid (TB.out.below hb9) | replace TB := Lib.hid (krd_onD TB.out hb9) | skip); replace HLT := Lib.hid (Nat.lt_of_lt_of_le HLT.out hb9.size); clear hb9; have RD := Lib.hid hoD.brd; clear hoD)
    | (go_at_call 13; refine (HE2.out _ _ _ _ _ RC.out RD.out).mono ?_; rintro e w9 ⟨rfl, hb9⟩; replace k0 := ((bcell hb9).1 _ _ HLT.out).trans k0; replace k1 := ((bcell hb9).1 _ _ HLT.out).trans k1; replace hp := Lib.hid (show Below w.heap.size w w9 from by first | exact bt hp.out hb9 | exact bt hp.out.drew hb9); (first | replace RA := Lib.hid (RA.out.below hb9) | replace RA := Lib.hid (brd_onD RA.out hb9) | skip); (first | replace RB := Lib.hid (RB.out.below hb9) | replace RB := Lib.hid (brd_onD RB.out hb9) | skip); (first | replace RC := Lib.hid (RC.out.below hb9) | replace RC := Lib.hid (brd_onD RC.out hb9) | skip); (first | replace RD := Lib.hid (RD.out.below hb9) | replace RD := Lib.hid (brd_onD RD.out hb9) | skip); (first | replace TA := Lib.hid (TA.out.below hb9) | replace TA := Lib.hid (krd_onD TA.out hb9) | skip); (first | replace TB := Lib.hid (TB.out.below hb9) | replace TB := Lib.hid (krd_onD TB.out hb9) | skip); replace HLT := Lib.hid (Nat.lt_of_lt_of_le HLT.out hb9.size); clear hb9; clear RC RD))
  go_wp2_with fail
  go_ret
  exact ⟨rfl, hp.out⟩

set_option maxRecDepth 100000 in
theorem bitsMakes_lifted (os : Os) (started : os.Started) (H : Type) (enc : TypeId × Value → H) :
    ReturnsInHanded {} Try.checked os 3 .any (Rows.bitsMakesSpec.pre6 enc Try.prog Try.f3 Rows.bitsMakesRow.domain false) (Rows.bitsMakesSpec.post enc Try.prog Try.f3 false true false false) := by
  refine returnsInHanded_of_change_sized (C := Try.checked) own started (by kernel_rfl) Try.func3
    (ChangeSpec.witness6 (enc := enc) (C := Try.checked) false ⟨#[], #[.slice none 0 0, .agg #[.int .i64 0, .slice none 0 0], .int .u16 0], []⟩ 8 (by kernel_rfl) (by kernel_rfl) (by kernel_rfl) (by kernel_rfl)) ?_
  intro W base args ds gs before hval0 hW _ hsz _
  have hval : ∀ (j : Nat) t v, Try.f3.params[j]? = some t → args[j]? = some v → Value.okWide Try.prog W .any base t v := hval0
  have hW' := hW
  obtain ⟨p, q, hA0, hV, rfl, hfz, hnd⟩ := hW
  have hA : DataW.TrodAll enc Try.prog W 0 (fun _ => true) true Try.f3.params.toList args.toList ds p := hA0
  rw [Try.params3] at hA hval
  obtain ⟨v0, vs0, d0, ds0, p0, q0, hargs, rfl, rfl, h0, r0⟩ := trodAll_cons hA
  obtain ⟨v1, vs1, d1, ds1, p1, q1, rfl, rfl, rfl, h1, r1⟩ := trodAll_cons r0
  obtain ⟨v2, vs2, d2, ds2, p2, q2, rfl, rfl, rfl, h2, r2⟩ := trodAll_cons r1
  obtain ⟨rfl, rfl, rfl⟩ := trodAll_nil r2
  obtain rfl : args = #[v0, v1, v2] := by cases args; simp_all
  obtain ⟨rfl, rfl⟩ := trodVars_none hV
  simp only [List.append_nil] at hW'
  have hlt0 : ∀ x ∈ p0, x.block < W.heap.size := fun x hx => hW'.lt x (by simp [hx])
  have hlt1 : ∀ x ∈ p1, x.block < W.heap.size := fun x hx => hW'.lt x (by simp [hx])
  have hlt2 : ∀ x ∈ p2, x.block < W.heap.size := fun x hx => hW'.lt x (by simp [hx])
  have hreach : reachBytes ≤ 140737488351232 := by decide
  obtain ⟨A0, cap0, tt, rfl, hR0, hc0, hn0, hd0⟩ := open_bools_ (hval 0 22 v0 rfl rfl) h0
  have b0 : tt.length ≤ reachBytes := by
    rcases hd0 with h0 | ⟨el, sp, e, he⟩
    · rw [h0]; simp
    · have hs : (el.length + sp.length) * Try.prog.bytesOf 4 ≤ reachBytes := sized_slice hsz (j := 0) (t := 22) (e := 4) rfl (by rw [e]; rfl) Try.underlying22
      rw [show Try.prog.bytesOf 4 = 1 by kernel_rfl] at hs
      omega
  obtain ⟨bb, rfl, rd1, ok1, sy1⟩ := open_bits (hval 1 25 v1 rfl rfl) h1
  have b1 : bb.l.length ≤ reachBytes := by
    rcases sy1.weight with h0 | ⟨n, hn, hle⟩
    · rw [h0]; exact Nat.zero_le _
    · have := List.all_eq_true.1 hsz _ (DataW.weights_mem_each (j := 1) (t := 25) rfl rfl _ hn)
      have : n ≤ reachBytes := by simpa using this
      omega
  obtain ⟨nn, rfl, -, -, w2⟩ := open_int Try.underlying26 (hval 2 26 v2 rfl rfl) h2
  have i2 : 0 ≤ nn ∧ nn ≤ 65535 := by simpa [Lit.wf, IntKind.min, IntKind.max, IntKind.signed, IntKind.bits] using w2
  clear hA0 hval0
  refine (bitsMakes_walk A0 cap0 tt bb.N bb.A bb.c bb.l nn W hR0 (by omega) rd1 ok1.c (by omega) i2.1 i2.2).mono fun e W' ⟨he, hg⟩ => ?_
  subst he
  have hpost : Rows.bitsMakesSpec.post enc Try.prog Try.f3 false true false false W _ _ W' := post_of_below (pa := p0 ++ (p1 ++ (p2 ++ []))) (pv := []) hW' (fun _ _ _ => (trodAll_cons_mk (shut_bool Try.underlying4 _) trodAll_mk0)) (fun sp hsp => (trodAll_cons_mk (WideElems.Trod_stays laidOut (by kernel_rfl) (of_decide_eq_true (by kernel_rfl)) h0 (fun x hx => hg.same (hlt0 x hx)) (fun x hx => hsp x (by simp [hx]))) (trodAll_cons_mk (WideElems.Trod_stays laidOut (by kernel_rfl) (of_decide_eq_true (by kernel_rfl)) h1 (fun x hx => hg.same (hlt1 x hx)) (fun x hx => hsp x (by simp [hx]))) (trodAll_cons_mk (WideElems.Trod_stays laidOut (by kernel_rfl) (of_decide_eq_true (by kernel_rfl)) h2 (fun x hx => hg.same (hlt2 x hx)) (fun x hx => hsp x (by simp [hx]))) trodAll_mk0)))) (fun _ _ => rfl) (by simp) hg (ok_one (by kernel_rfl) rfl (okWide_bool_mk Try.underlying4 _))
  exact ⟨_, rfl, hpost⟩

theorem bitsMakes_holds : Rows.BitsMakesSaid :=
  OpenClaim.holds_of_wide 3 Try.f3 rfl rfl rfl rfl rfl rfl rfl ⟨rfl, rfl, rfl, rfl, rfl⟩ rfl rfl rfl rfl rfl (by kernel_rfl) Try.func3 (by kernel_rfl)
    (of_decide_eq_true (by kernel_rfl)) (by unfold Func.isWrapper; first | (rw [if_pos (by decide +kernel)]; kernel_rfl) | (rw [if_neg (by decide +kernel)]; exact ⟨rfl, rfl⟩))
    (fun os started H enc _ => bitsMakes_lifted os started H enc)
end Go.Proofs.Ytpdffcopigajgaa
