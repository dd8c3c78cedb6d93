/-
  Of bits: Cut where nothing is left; Cut whole.
-/
import Derived.Test.YtpdffcopigajgaaKCut
namespace Go.Proofs.Ytpdffcopigajgaa
open Go.ChangeShapes Go.WideShapes Go.ChangeAt Go.RowKit Go.Deep
set_option linter.unusedVariables false

set_option maxHeartbeats 8000000 in
set_option maxRecDepth 100000 in
theorem cut_none (N : Int) (l : List UInt8) (F n : Int) (w : World) (z f : Nat) (hL : l.length = 0) (hz : z = szB N l) (hf : f = min F.toNat z) (hfq : f / 8 = 0) (hl : l.length ≤ 17592186044416) :
    Calls Try.prog 30 #[.agg #[.int .i64 N, .slice none 0 0], .int .i64 F, .int .i64 n] w (BPost (cutT (trB N l) F n) w) := by
  have hsl := sz_le N l
  have hT : cutT (trB N l) F n = [] := by
    unfold cutT
    rw [List.drop_eq_nil_of_le (by rw [tr_len]; omega), List.take_nil]
  have HS := Lib.hid (fun W => size_any N none 0 l W (by omega))
  rw [hL, ← hz] at HS
  have hq1 : min (max F 0) ((z : Nat) : Int) = (f : Int) := by omega
  have hq2 : min (max n 0) ((z : Int) - (f : Int)) = ((0 : Nat) : Int) := by omega
  have HC := Lib.hid (fun W => cleared_any 0 W (by omega))
  unfold BPost at HC
  rw [pk_none] at HC
  simp only [List.length_replicate] at HC
  have HNM := Lib.hid (fun (W : World) (a : Option Addr) (c : Nat) (h : BRd W a []) => normal_any ((0 : Nat) : Int) a c [] W h (by simp))
  rw [show trB ((0 : Nat) : Int) [] = [] from rfl] at HNM
  have hz0 : ((0 : Nat) : Int) = 0 := rfl
  rw [hz0] at HC HNM hq2
  have q3 : (f : Int) / 8 = 0 := by omega
  have q8 : (z : Int) ≤ 200000000000000 := by omega
  have q9 : (f : Int) ≤ (z : Int) := by omega
  obtain ⟨s, hs⟩ : ∃ s, s = f % 8 := ⟨_, rfl⟩
  have q4 : (f : Int) % 8 = (s : Int) := by omega
  have HX3 := Lib.hid (box_next (box_new w (.cells #[.int .i64 N, .slice none 0 0] 25)) (alloc_below _ (.cells #[.int .i64 0, .slice none 0 0] 25)))
  have hX6 := box_new (w.alloc (.cells #[.int .i64 N, .slice none 0 0] 25)) (.cells #[.int .i64 0, .slice none 0 0] 25)
  rw [World.size_alloc] at hX6
  have HX6 := Lib.hid hX6
  have HB := Lib.hid (bt (alloc_below w (.cells #[.int .i64 N, .slice none 0 0] 25)) (alloc_below _ (.cells #[.int .i64 0, .slice none 0 0] 25)))
  rw [hT]
  clear hT hf hz hsl hfq hX6 hs hL hl hz0
  go_enter Try.func30, Try.ntmps30
  go_wp2_with fail
  refine (HS.out _).mono ?_
  rintro e w1 ⟨rfl, hb⟩
  have X3 := Lib.hid (box_next HX3.out hb)
  have X6 := Lib.hid (box_next HX6.out hb)
  have B1 := Lib.hid (bt HB.out hb)
  obtain ⟨⟨r0, r1⟩, rf⟩ := box_cells2 X3.out
  clear hb HX3 HX6 HB
  go_wp2_with fail
  refine (HS.out _).mono ?_
  rintro e w2 ⟨rfl, hb⟩
  have Y3 := Lib.hid (box_next X3.out hb)
  have Y6 := Lib.hid (box_next X6.out hb)
  have B2 := Lib.hid (bt B1.out hb)
  clear hb X3 X6 B1 r0 r1 rf
  go_wp2_with fail
  refine (HC.out _).mono ?_
  rintro e w3 ⟨a, c3, rfl, ho, hac, hnc, hb⟩
  have x7 := box_new w3 (.cells #[.int .i64 0, .slice a 0 c3] 25)
  have hal := alloc_below w3 (.cells #[.int .i64 0, .slice a 0 c3] 25)
  have Z3 := Lib.hid (box_next (box_next Y3.out hb) hal)
  have Z6 := Lib.hid (box_next (box_next Y6.out hb) hal)
  have Z7 := Lib.hid x7
  have B3 := Lib.hid (bt (bt B2.out hb) hal)
  obtain ⟨⟨r0, r1⟩, rf⟩ := box_cells2 Z3.out
  have HN := Lib.hid (HNM.out (w3.alloc (.cells #[.int .i64 0, .slice a 0 c3] 25)) a c3 (BRd.nil _ _))
  clear ho hac hnc hb x7 hal Y3 Y6 B2
  go_wp2_with fail
  go_loopw [34] (fun idx wr => idx = .int .i64 0 ∧ wr = (w3.alloc (.cells #[.int .i64 0, .slice a 0 c3] 25))) (fun idx _ => 0)
  case atStart => exact ⟨rfl, rfl⟩
  case round =>
    obtain ⟨rfl, rfl⟩ := hrel
    go_wp2_with fail
    refine HN.out.mono ?_
    rintro e w5 ⟨a5, c5, rfl, ho5, hac5, hnc5, hb5⟩
    obtain ⟨⟨s0, s1⟩, sf⟩ := box_cells2 (box_next Z6.out hb5)
    have HO5 := Lib.hid ho5
    have HA5 := Lib.hid hac5
    have B5 := Lib.hid (bt B3.out hb5)
    have HWS := Lib.hid (box_lt Z6.out)
    clear ho5 hac5 hb5
    go_wp2_with fail
    refine bodyPost_ret (v := .agg #[.int .i64 ([] : List Bool).length, .slice a5 (pkB []).length c5]) (by simp [results, Try.results30, go_sem, s0, s1]) rfl ?_
    exact BPost.box HO5.out rfl HA5.out hnc5 (by have := HWS.out; omega) B5.out (w.heap.size + 1) (by omega) HWS.out _ _
set_option maxHeartbeats 8000000 in
set_option maxRecDepth 100000 in
theorem cut_last (N : Int) (a : Addr) (q : Nat) (l : List UInt8) (F n : Int) (w : World) (z f : Nat) (hL : l.length = q) (hz : z = szB N l) (hf : f = min F.toNat z) (hfq : f / 8 = q) (hl : l.length ≤ 17592186044416) :
    Calls Try.prog 30 #[.agg #[.int .i64 N, .slice (some a) q q], .int .i64 F, .int .i64 n] w (BPost (cutT (trB N l) F n) w) := by
  have hsl := sz_le N l
  have hT : cutT (trB N l) F n = [] := by
    unfold cutT
    rw [List.drop_eq_nil_of_le (by rw [tr_len]; omega), List.take_nil]
  have HS := Lib.hid (fun W => size_any N (some a) q l W (by omega))
  rw [hL, ← hz] at HS
  have hq1 : min (max F 0) ((z : Nat) : Int) = (f : Int) := by omega
  have hq2 : min (max n 0) ((z : Int) - (f : Int)) = ((0 : Nat) : Int) := by omega
  have HC := Lib.hid (fun W => cleared_any 0 W (by omega))
  unfold BPost at HC
  rw [pk_none] at HC
  simp only [List.length_replicate] at HC
  have HNM := Lib.hid (fun (W : World) (a : Option Addr) (c : Nat) (h : BRd W a []) => normal_any ((0 : Nat) : Int) a c [] W h (by simp))
  rw [show trB ((0 : Nat) : Int) [] = [] from rfl] at HNM
  have hz0 : ((0 : Nat) : Int) = 0 := rfl
  rw [hz0] at HC HNM hq2
  have q3 : (f : Int) / 8 = (q : Int) := by omega
  have q8 : (z : Int) ≤ 200000000000000 := by omega
  have q9 : (f : Int) ≤ (z : Int) := by omega
  obtain ⟨s, hs⟩ : ∃ s, s = f % 8 := ⟨_, rfl⟩
  have q4 : (f : Int) % 8 = (s : Int) := by omega
  have HX3 := Lib.hid (box_next (box_new w (.cells #[.int .i64 N, .slice (some a) q q] 25)) (alloc_below _ (.cells #[.int .i64 0, .slice none 0 0] 25)))
  have hX6 := box_new (w.alloc (.cells #[.int .i64 N, .slice (some a) q q] 25)) (.cells #[.int .i64 0, .slice none 0 0] 25)
  rw [World.size_alloc] at hX6
  have HX6 := Lib.hid hX6
  have HB := Lib.hid (bt (alloc_below w (.cells #[.int .i64 N, .slice (some a) q q] 25)) (alloc_below _ (.cells #[.int .i64 0, .slice none 0 0] 25)))
  rw [hT]
  clear hT hf hz hsl hfq hX6 hs hL hl hz0
  go_enter Try.func30, Try.ntmps30
  go_wp2_with fail
  refine (HS.out _).mono ?_
  rintro e w1 ⟨rfl, hb⟩
  have X3 := Lib.hid (box_next HX3.out hb)
  have X6 := Lib.hid (box_next HX6.out hb)
  have B1 := Lib.hid (bt HB.out hb)
  obtain ⟨⟨r0, r1⟩, rf⟩ := box_cells2 X3.out
  clear hb HX3 HX6 HB
  go_wp2_with fail
  refine (HS.out _).mono ?_
  rintro e w2 ⟨rfl, hb⟩
  have Y3 := Lib.hid (box_next X3.out hb)
  have Y6 := Lib.hid (box_next X6.out hb)
  have B2 := Lib.hid (bt B1.out hb)
  clear hb X3 X6 B1 r0 r1 rf
  go_wp2_with fail
  refine (HC.out _).mono ?_
  rintro e w3 ⟨a, c3, rfl, ho, hac, hnc, hb⟩
  have x7 := box_new w3 (.cells #[.int .i64 0, .slice a 0 c3] 25)
  have hal := alloc_below w3 (.cells #[.int .i64 0, .slice a 0 c3] 25)
  have Z3 := Lib.hid (box_next (box_next Y3.out hb) hal)
  have Z6 := Lib.hid (box_next (box_next Y6.out hb) hal)
  have Z7 := Lib.hid x7
  have B3 := Lib.hid (bt (bt B2.out hb) hal)
  obtain ⟨⟨r0, r1⟩, rf⟩ := box_cells2 Z3.out
  have HN := Lib.hid (HNM.out (w3.alloc (.cells #[.int .i64 0, .slice a 0 c3] 25)) a c3 (BRd.nil _ _))
  clear ho hac hnc hb x7 hal Y3 Y6 B2
  go_wp2_with fail
  go_loopw [34] (fun idx wr => idx = .int .i64 0 ∧ wr = (w3.alloc (.cells #[.int .i64 0, .slice a 0 c3] 25))) (fun idx _ => 0)
  case atStart => exact ⟨rfl, rfl⟩
  case round =>
    obtain ⟨rfl, rfl⟩ := hrel
    go_wp2_with fail
    refine HN.out.mono ?_
    rintro e w5 ⟨a5, c5, rfl, ho5, hac5, hnc5, hb5⟩
    obtain ⟨⟨s0, s1⟩, sf⟩ := box_cells2 (box_next Z6.out hb5)
    have HO5 := Lib.hid ho5
    have HA5 := Lib.hid hac5
    have B5 := Lib.hid (bt B3.out hb5)
    have HWS := Lib.hid (box_lt Z6.out)
    clear ho5 hac5 hb5
    go_wp2_with fail
    refine bodyPost_ret (v := .agg #[.int .i64 ([] : List Bool).length, .slice a5 (pkB []).length c5]) (by simp [results, Try.results30, go_sem, s0, s1]) rfl ?_
    exact BPost.box HO5.out rfl HA5.out hnc5 (by have := HWS.out; omega) B5.out (w.heap.size + 1) (by omega) HWS.out _ _
set_option maxHeartbeats 8000000 in
set_option maxRecDepth 100000 in
theorem cut_empty (N : Int) (a : Addr) (c : Nat) (hc0 : ¬ c = 0) (l : List UInt8) (F n : Int) (w : World) (z f : Nat) (hL : l.length = 0) (hz : z = szB N l) (hf : f = min F.toNat z) (hfq : f / 8 = 0) (hl : l.length ≤ 17592186044416) :
    Calls Try.prog 30 #[.agg #[.int .i64 N, .slice (some a) 0 c], .int .i64 F, .int .i64 n] w (BPost (cutT (trB N l) F n) w) := by
  have hsl := sz_le N l
  have hT : cutT (trB N l) F n = [] := by
    unfold cutT
    rw [List.drop_eq_nil_of_le (by rw [tr_len]; omega), List.take_nil]
  have HS := Lib.hid (fun W => size_any N (some a) c l W (by omega))
  rw [hL, ← hz] at HS
  have hq1 : min (max F 0) ((z : Nat) : Int) = (f : Int) := by omega
  have hq2 : min (max n 0) ((z : Int) - (f : Int)) = ((0 : Nat) : Int) := by omega
  have HC := Lib.hid (fun W => cleared_any 0 W (by omega))
  unfold BPost at HC
  rw [pk_none] at HC
  simp only [List.length_replicate] at HC
  have HNM := Lib.hid (fun (W : World) (a : Option Addr) (c : Nat) (h : BRd W a []) => normal_any ((0 : Nat) : Int) a c [] W h (by simp))
  rw [show trB ((0 : Nat) : Int) [] = [] from rfl] at HNM
  have hz0 : ((0 : Nat) : Int) = 0 := rfl
  rw [hz0] at HC HNM hq2
  have q3 : (f : Int) / 8 = 0 := by omega
  have q8 : (z : Int) ≤ 200000000000000 := by omega
  have q9 : (f : Int) ≤ (z : Int) := by omega
  obtain ⟨s, hs⟩ : ∃ s, s = f % 8 := ⟨_, rfl⟩
  have q4 : (f : Int) % 8 = (s : Int) := by omega
  have HX3 := Lib.hid (box_next (box_new w (.cells #[.int .i64 N, .slice (some a) 0 c] 25)) (alloc_below _ (.cells #[.int .i64 0, .slice none 0 0] 25)))
  have hX6 := box_new (w.alloc (.cells #[.int .i64 N, .slice (some a) 0 c] 25)) (.cells #[.int .i64 0, .slice none 0 0] 25)
  rw [World.size_alloc] at hX6
  have HX6 := Lib.hid hX6
  have HB := Lib.hid (bt (alloc_below w (.cells #[.int .i64 N, .slice (some a) 0 c] 25)) (alloc_below _ (.cells #[.int .i64 0, .slice none 0 0] 25)))
  rw [hT]
  clear hT hf hz hsl hfq hX6 hs hL hl hz0
  go_enter Try.func30, Try.ntmps30
  go_wp2_with fail
  refine (HS.out _).mono ?_
  rintro e w1 ⟨rfl, hb⟩
  have X3 := Lib.hid (box_next HX3.out hb)
  have X6 := Lib.hid (box_next HX6.out hb)
  have B1 := Lib.hid (bt HB.out hb)
  obtain ⟨⟨r0, r1⟩, rf⟩ := box_cells2 X3.out
  clear hb HX3 HX6 HB
  go_wp2_with fail
  refine (HS.out _).mono ?_
  rintro e w2 ⟨rfl, hb⟩
  have Y3 := Lib.hid (box_next X3.out hb)
  have Y6 := Lib.hid (box_next X6.out hb)
  have B2 := Lib.hid (bt B1.out hb)
  clear hb X3 X6 B1 r0 r1 rf
  go_wp2_with fail
  refine (HC.out _).mono ?_
  rintro e w3 ⟨a, c3, rfl, ho, hac, hnc, hb⟩
  have x7 := box_new w3 (.cells #[.int .i64 0, .slice a 0 c3] 25)
  have hal := alloc_below w3 (.cells #[.int .i64 0, .slice a 0 c3] 25)
  have Z3 := Lib.hid (box_next (box_next Y3.out hb) hal)
  have Z6 := Lib.hid (box_next (box_next Y6.out hb) hal)
  have Z7 := Lib.hid x7
  have B3 := Lib.hid (bt (bt B2.out hb) hal)
  obtain ⟨⟨r0, r1⟩, rf⟩ := box_cells2 Z3.out
  have HN := Lib.hid (HNM.out (w3.alloc (.cells #[.int .i64 0, .slice a 0 c3] 25)) a c3 (BRd.nil _ _))
  clear ho hac hnc hb x7 hal Y3 Y6 B2
  go_wp2_with fail
  go_loopw [34] (fun idx wr => idx = .int .i64 0 ∧ wr = (w3.alloc (.cells #[.int .i64 0, .slice a 0 c3] 25))) (fun idx _ => 0)
  case atStart => exact ⟨rfl, rfl⟩
  case round =>
    obtain ⟨rfl, rfl⟩ := hrel
    go_wp2_with fail
    refine HN.out.mono ?_
    rintro e w5 ⟨a5, c5, rfl, ho5, hac5, hnc5, hb5⟩
    obtain ⟨⟨s0, s1⟩, sf⟩ := box_cells2 (box_next Z6.out hb5)
    have HO5 := Lib.hid ho5
    have HA5 := Lib.hid hac5
    have B5 := Lib.hid (bt B3.out hb5)
    have HWS := Lib.hid (box_lt Z6.out)
    clear ho5 hac5 hb5
    go_wp2_with fail
    refine bodyPost_ret (v := .agg #[.int .i64 ([] : List Bool).length, .slice a5 (pkB []).length c5]) (by simp [results, Try.results30, go_sem, s0, s1]) rfl ?_
    exact BPost.box HO5.out rfl HA5.out hnc5 (by have := HWS.out; omega) B5.out (w.heap.size + 1) (by omega) HWS.out _ _
theorem cutq_any (N : Int) (A : Option Addr) (c : Nat) (l : List UInt8) (F n : Int) (w : World) (hA : BRd w A l) (hl : l.length ≤ 17592186044416) (hc : l.length ≤ c) (hac : A = none → c = 0) :
    Calls Try.prog 30 #[.agg #[.int .i64 N, .slice A l.length c], .int .i64 F, .int .i64 n] w (BPost (cutT (trB N l) F n) w) := by
  have hsl := sz_le N l
  cases A with
  | none =>
    obtain rfl := hac rfl
    have h0 : l.length = 0 := by omega
    have h := cut_none N l F n w (szB N l) (min F.toNat (szB N l)) h0 rfl rfl (by omega) hl
    rw [h0]
    exact h
  | some a =>
    by_cases hq : min F.toNat (szB N l) / 8 < c
    · by_cases h0 : 0 < l.length
      · obtain ⟨g, off, e, hg, _⟩ := hA h0
        cases e
        exact cut_some N g off c l F n w hA hl hc hg hq
      · have h0' : l.length = 0 := by omega
        have h := cut_empty N a c (by omega) l F n w (szB N l) (min F.toNat (szB N l)) h0' rfl rfl (by omega) hl
        rw [h0']
        exact h
    · have hL : l.length = min F.toNat (szB N l) / 8 := by omega
      have hcL : c = l.length := by omega
      subst hcL
      have h := cut_last N a (min F.toNat (szB N l) / 8) l F n w (szB N l) (min F.toNat (szB N l)) hL rfl rfl rfl hl
      rw [hL]
      exact h
end Go.Proofs.Ytpdffcopigajgaa
