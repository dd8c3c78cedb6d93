/-
  Of bits: contracts of Rank and Count; the start of the laws.
-/
import Derived.Test.YtpdffcopigajgaaKCut2
namespace Go.Proofs.Ytpdffcopigajgaa
open Go.ChangeShapes Go.WideShapes Go.ChangeAt Go.RowKit Go.Deep
set_option linter.unusedVariables false

def cntT (t : List Bool) : Nat := t.count true
theorem ones_eight (n : Nat) (h : n < 256) : Lib.onesCount n = cntT ((List.range 8).map (fun k => n.testBit k)) := by
  have key : ∀ n, n < 256 → Lib.onesCount n = cntT ((List.range 8).map (fun k => n.testBit k)) := by decide +kernel
  exact key n h
/-- The first bytes' truths. -/
theorem take_eight (t : List Bool) (j : Nat) (h : j < (pkB t).length) : (t.take (8 * (j + 1))) = t.take (8 * j) ++ (t.drop (8 * j)).take 8 := by
  rw [show 8 * (j + 1) = 8 * j + 8 by omega, List.take_add]
theorem cnt_eight (t : List Bool) (j : Nat) (h : j < (pkB t).length) : cntT ((List.range 8).map (bitB (pkB t)[j])) = cntT ((t.drop (8 * j)).take 8) := by
  have e : (List.range 8).map (bitB (pkB t)[j]) = (t.drop (8 * j)).take 8 ++ List.replicate (8 - ((t.drop (8 * j)).take 8).length) false := by
    apply List.ext_getElem
    · simp; omega
    · intro k h1 h2
      have hk : k < 8 := by simpa using h1
      rw [List.getElem_map, List.getElem_range, pk_get, bitB_byB _ _ hk]
      by_cases hl : k < ((t.drop (8 * j)).take 8).length
      · rw [List.getElem_append_left hl, List.getElem_take, List.getElem_drop]
        rw [List.length_take, List.length_drop] at hl
        rw [getD_lt (by omega)]
      · rw [List.getElem_append_right (by omega), List.getElem_replicate]
        rw [List.length_take, List.length_drop] at hl
        rw [getD_ge (by omega)]
  rw [e]
  unfold cntT
  rw [List.count_append, List.count_replicate]
  simp
theorem cnt_step (t : List Bool) (j : Nat) (h : j < (pkB t).length) : cntT (t.take (8 * (j + 1))) = cntT (t.take (8 * j)) + Lib.onesCount ((pkB t)[j]).toNat := by
  rw [ones_eight _ (pkB t)[j].toNat_lt]
  have := cnt_eight t j h
  unfold bitB at this
  rw [this, take_eight t j h]
  unfold cntT
  rw [List.count_append]
theorem cnt_le (t : List Bool) : cntT t ≤ t.length := List.count_le_length
def rankV (t : List Bool) (i : Int) : Nat := cntT (t.take i.toNat)
theorem ones_ex : ∃ f : UInt8 → Nat, (∀ (c : UInt8) (W : World), Calls Try.prog 60 #[.int .u8 (c.toNat : Int)] W fun e w' => e = .returned (.int .i64 (f c)) ∧ W = w') ∧ ∀ (t : List Bool) (j : Nat) (h : j < (pkB t).length), cntT (t.take (8 * (j + 1))) = cntT (t.take (8 * j)) + f (pkB t)[j] := by
  refine ⟨fun c => Lib.onesCount c.toNat, fun c W => ?_, cnt_step⟩
  have h := Try.bits_OnesCount8 (c.toNat : Int) W (Int.natCast_nonneg _) (by have := c.toNat_lt; omega)
  rw [Int.toNat_natCast] at h
  exact h.mono fun e w' ⟨he, hw⟩ => ⟨he, hw.symm⟩
theorem field1 (x : Int) (v : Value) (W : World) : (Instr.field 25 (.agg #[.int .i64 x, v]) 1).run Try.prog W = .ok v W := by kernel_rfl
set_option maxHeartbeats 4000000 in
set_option maxRecDepth 100000 in
theorem rank_any (N : Int) (A : Option Addr) (c : Nat) (l : List UInt8) (i : Int) (w : World) (hA : BRd w A l) (hl : l.length ≤ 17592186044416) (hc : l.length ≤ c) (hac : A = none → c = 0) :
    Calls Try.prog 44 #[.agg #[.int .i64 N, .slice A l.length c], .int .i64 i] w fun e w' => e = .returned (.int .i64 (rankV (trB N l) i : Nat)) ∧ Below w.heap.size w w' := by
  have HA := Lib.hid (fun (W : World) (h : Below w.heap.size w W) => hA.below h)
  have HC := Lib.hid (fun (W : World) (h : BRd W A l) => cutq_any N A c l 0 i W h hl hc hac)
  have hR : rankV (trB N l) i = cntT (cutT (trB N l) 0 i) := by unfold rankV cutT; rfl
  have htl : (cutT (trB N l) 0 i).length ≤ 140737488355328 := by
    unfold cutT
    rw [List.length_take, List.length_drop, tr_len]
    have := sz_le N l
    omega
  rw [hR]
  generalize cutT (trB N l) 0 i = t at *
  obtain ⟨ocf, hcall, hstep⟩ := ones_ex
  have HT := Lib.hid (hstep t)
  have HON := Lib.hid hcall
  clear hcall hstep
  have HPL : Hid ((pkB t).length = (t.length + 7) / 8) := pk_len t
  have HTL := Lib.hid htl
  obtain ⟨p, hp⟩ : ∃ p, p = (pkB t).length := ⟨_, rfl⟩
  have HP := Lib.hid hp
  unfold BPost at HC
  rw [← hp] at HC
  have HX := Lib.hid (alloc_below w (.cells #[.int .i64 N, .slice A l.length c] 25))
  have HCL := Lib.hid (fun k => cnt_le (t.take (8 * k)))
  have hpB : p ≤ 140737488355328 := by have := HPL.out; omega
  clear hA hc hac hR htl hp
  go_enter Try.func44, Try.ntmps44
  go_wp2_with fail
  refine (HC.out _ (HA.out _ HX.out)).mono ?_
  rintro e w1 ⟨a, c1, rfl, ho, -, hnc, hb⟩
  have HR1 := Lib.hid (OwnB.brdn ho HP.out)
  have HB1 := Lib.hid (bt HX.out hb)
  clear ho hb
  have hfl := fun W => field1 (t.length : Int) (.slice a p c1) W
  go_wp2_with fail
  clear hfl
  go_loopw [5, 13] (fun v idx wr => ∃ k : Nat, k ≤ p ∧ idx = .int .i64 (k : Int) ∧ v = .int .i64 (cntT (t.take (8 * k)) : Nat) ∧ wr = w1) (fun _ idx _ => p - (intOf idx).toNat)
  case atStart => exact ⟨0, by omega, rfl, rfl, rfl⟩
  case round =>
    obtain ⟨k, hk, rfl, rfl, rfl⟩ := hrel
    by_cases hkp : k < p
    · have hkt : k < (pkB t).length := by rw [← HP.out]; exact hkp
      obtain ⟨g, off, rfl, hgl, hcell⟩ := HR1.out (by omega)
      have c0 := hcell k hkt
      have kI : (k : Int) < (p : Int) := by omega
      have kN : k < p := hkp
      have HS := Lib.hid (HT.out k hkt)
      have hcl := HCL.out k
      rw [List.length_take] at hcl
      have hcl2 := HCL.out (k + 1)
      rw [List.length_take, HS.out] at hcl2
      have hb1 : cntT (t.take (8 * k)) ≤ 140737488355328 := by have := HTL.out; omega
      have hb2 : ocf (pkB t)[k] ≤ 140737488355328 := by have := HTL.out; omega
      clear hcell hkp hcl hcl2
      generalize (pkB t)[k] = ch at *
      clear hkt
      have HON2 := Lib.hid (HON.out ch)
      clear HON
      generalize ocf ch = oc at *
      generalize cntT (t.take (8 * k)) = cc at *
      go_wp2_with fail
      refine (HON2.out _).mono ?_
      rintro e w' ⟨rfl, rfl⟩
      go_wp2_with fail
      go_roundw
      case rel => exact ⟨k + 1, by omega, by go_num, by rw [HS.out]; first | rfl | go_num, by first | rfl | trivial⟩
      case measure => simp [intOf]; omega
    · obtain rfl : k = p := by omega
      have kI : ¬ ((k : Int) < (k : Int)) := by omega
      go_wp2_with fail
      go_ret
      exact ⟨ret_int (by rw [List.take_of_length_le (by have := HP.out; have := HPL.out; omega)]), HB1.out⟩
set_option maxHeartbeats 4000000 in
set_option maxRecDepth 100000 in
theorem count_any (N : Int) (A : Option Addr) (c : Nat) (l : List UInt8) (w : World) (hA : BRd w A l) (hl : l.length ≤ 17592186044416) (hc : l.length ≤ c) (hac : A = none → c = 0) :
    Calls Try.prog 43 #[.agg #[.int .i64 N, .slice A l.length c]] w fun e w' => e = .returned (.int .i64 (cntT (trB N l) : Nat)) ∧ Below w.heap.size w w' := by
  have HA := Lib.hid (fun (W : World) (h : Below w.heap.size w W) => hA.below h)
  have HS := Lib.hid (fun W => size_any N A c l W (by omega))
  have HR := Lib.hid (fun (W : World) (h : BRd W A l) => rank_any N A c l (szB N l : Nat) W h hl hc hac)
  have hr : rankV (trB N l) (szB N l : Nat) = cntT (trB N l) := by
    unfold rankV
    rw [List.take_of_length_le (by rw [tr_len]; simp)]
  rw [hr] at HR
  generalize cntT (trB N l) = C at *
  generalize szB N l = z at *
  have HX := Lib.hid (box_new w (.cells #[.int .i64 N, .slice A l.length c] 25))
  have hp := Lib.hid (alloc_below w (.cells #[.int .i64 N, .slice A l.length c] 25))
  obtain ⟨⟨k0, k1⟩, kf⟩ := box_cells2 HX.out
  have hlt2 := Lib.hid (box_lt HX.out)
  clear hA hl hc hac hr kf
  go_enter Try.func43, Try.ntmps43
  go_wp2_with fail
  go_region_held3 (fun W => W.cell? ⟨w.heap.size, 0, none⟩ = some (.int .i64 N) ∧ W.cell? ⟨w.heap.size, 1, none⟩ = some (.slice A l.length c)) (first | exact ⟨k0, k1⟩ | go_keep) (first
    | (go_at_call 51; refine (HS.out _).mono ?_; rintro e w2 ⟨rfl, hb2⟩; have hp := Lib.hid (show Below w.heap.size w w2 from by first | exact bt hp.out hb2 | exact bt hp.out.drew hb2); have k0 := ((bcell hb2).1 _ _ hlt2.out).trans k0; have k1 := ((bcell hb2).1 _ _ hlt2.out).trans k1; have hlt2 := Lib.hid (Nat.lt_of_lt_of_le hlt2.out hb2.size); clear hb2)
    | (go_at_call 44; refine (HR.out _ (HA.out _ (by first | exact hp.out | exact hp.out.drew))).mono ?_; rintro e w3 ⟨rfl, hb3⟩; have hp := Lib.hid (show Below w.heap.size w w3 from by first | exact bt hp.out hb3 | exact bt hp.out.drew hb3); have k0 := ((bcell hb3).1 _ _ hlt2.out).trans k0; have k1 := ((bcell hb3).1 _ _ hlt2.out).trans k1; clear hb3))
  go_wp2_with fail
  go_ret
  exact ⟨rfl, hp.out⟩
/-- The truths of the laws' first example. -/
def ex3 : List Bool := [true, false, true]
theorem pk_ex3 : pkB ex3 = [5] := by decide +kernel
set_option maxHeartbeats 8000000 in
set_option maxRecDepth 100000 in
theorem begun_any (w : World) : Calls Try.prog 12 #[] w fun e w' => e = .returned (.bool true) ∧ Below w.heap.size w w' := by
  have HO := Lib.hid (fun (W : World) (C : Option Addr) (d : Nat) (h : KRd W C ex3) => of_any C d ex3 W h (by decide))
  unfold BPost at HO
  rw [pk_ex3] at HO
  have HC := Lib.hid (fun (W : World) (a : Option Addr) (c : Nat) (h : BRd W a [5]) (hc : 1 ≤ c) (ha : a = none → c = 0) => count_any 3 a c [5] W h (by decide) hc ha)
  have HG := Lib.hid (fun (W : World) (a : Option Addr) (c : Nat) (i : Int) (h : BRd W a [5]) => get_any 3 a c [5] i W h (by decide))
  rw [show cntT (trB 3 [5]) = 2 by decide +kernel] at HC
  have g2 : getB 3 [5] 2 = true := by decide +kernel
  have g1 : getB 3 [5] 1 = false := by decide +kernel
  have HG2 := Lib.hid (fun (W : World) (a : Option Addr) (c : Nat) (h : BRd W a [5]) => HG.out W a c 2 h)
  have HG1 := Lib.hid (fun (W : World) (a : Option Addr) (c : Nat) (h : BRd W a [5]) => HG.out W a c 1 h)
  rw [g2] at HG2
  rw [g1] at HG1
  have hk3 : KRd (w.alloc (.cells #[.bool true, .bool false, .bool true] 4)) (some ⟨w.heap.size, 0, none⟩) ex3 := fun _ => by
    refine ⟨_, _, rfl, by simp, fun i hi => ?_⟩
    match i, hi with
    | 0, _ => exact World.cell?_alloc_at _ _ _ _ rfl
    | 1, _ => exact World.cell?_alloc_at _ _ _ _ rfl
    | 2, _ => exact World.cell?_alloc_at _ _ _ _ rfl
  have HK3 := Lib.hid hk3
  clear hk3 g1 g2 HG
  go_enter Try.func12, Try.ntmps12
  go_wp2_with fail
  refine (HO.out _ _ _ HK3.out).mono ?_
  rintro e w1 ⟨a, c, rfl, ho, hac, hnc, hb⟩
  have B1 := Lib.hid (bt (bt (alloc_below w _) hb) (alloc_below w1 (.cells #[.int .i64 3, .slice a 1 c] 25)))
  have x1 := box_new w1 (.cells #[.int .i64 3, .slice a 1 c] 25)
  have hbr := (ho.alloc (.cells #[.int .i64 3, .slice a 1 c] 25)).brdn rfl
  obtain ⟨g, off, rfl, hgl, hcell⟩ := hbr (by decide)
  have c0 : (w1.alloc (.cells #[.int .i64 3, .slice (some ⟨g, off, none⟩) 1 c] 25)).cell? ⟨g, off, none⟩ = some (.int .u8 5) := hcell 0 (by decide)
  obtain ⟨⟨r0, r1⟩, rf⟩ := box_cells2 x1
  have HBR := Lib.hid hbr
  have X1 := Lib.hid x1
  have HAC := Lib.hid hac
  have HNC := Lib.hid hnc
  clear ho hac hnc hb x1 hcell hbr
  go_wp2_with fail
  refine (HC.out _ _ _ HBR.out HNC.out HAC.out).mono ?_
  rintro e w2 ⟨rfl, hb2⟩
  have X2 := Lib.hid (box_next X1.out hb2)
  have HBR2 := Lib.hid (HBR.out.below hb2)
  have B2 := Lib.hid (bt B1.out hb2)
  clear hb2 r0 r1 rf c0
  obtain ⟨⟨r0, r1⟩, rf⟩ := box_cells2 X2.out
  go_wp2_with fail
  refine (HG2.out _ _ _ HBR2.out).mono ?_
  rintro e w3 ⟨rfl, hb3⟩
  have X3 := Lib.hid (box_next X2.out hb3)
  have HBR3 := Lib.hid (HBR2.out.below hb3)
  have B3 := Lib.hid (bt B2.out hb3)
  clear hb3 r0 r1 rf
  obtain ⟨⟨r0, r1⟩, rf⟩ := box_cells2 X3.out
  go_wp2_with fail
  refine (HG1.out _ _ _ HBR3.out).mono ?_
  rintro e w4 ⟨rfl, hb4⟩
  have B4 := Lib.hid (bt B3.out hb4)
  clear hb4
  go_wp2_with fail
  go_ret
  exact ⟨rfl, B4.out⟩
end Go.Proofs.Ytpdffcopigajgaa
