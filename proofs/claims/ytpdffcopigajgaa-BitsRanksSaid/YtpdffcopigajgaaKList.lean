/-
  Of bits: contracts of List, the program's and the document's.
-/
import Derived.Test.YtpdffcopigajgaaKRef
namespace Go.Proofs.Ytpdffcopigajgaa
open Go.ChangeShapes Go.WideShapes Go.ChangeAt Go.RowKit Go.Deep
set_option linter.unusedVariables false

/-- What a call answers that makes truths. -/
def TPost (t : List Bool) (w : World) (e : Ending) (w' : World) : Prop := ∃ a c, e = .returned (.slice a t.length c) ∧ OwnT w' w.heap.size (.slice a t.length c) t ∧ (a = none → c = 0) ∧ t.length ≤ c ∧ Below w.heap.size w w'
theorem getB_tr (N : Int) (l : List UInt8) (k : Nat) (h : k < (trB N l).length) : getB N l (k : Int) = (trB N l)[k] := by
  have h1 : k < szB N l := by rw [← tr_len]; exact h
  unfold getB hasB
  rw [tr_get]
  simp [h1]
set_option maxHeartbeats 4000000 in
set_option maxRecDepth 100000 in
theorem list_any (N : Int) (A : Option Addr) (c : Nat) (l : List UInt8) (w : World) (hA : BRd w A l) (hl : l.length ≤ 17592186044416) : Calls Try.prog 17 #[.agg #[.int .i64 N, .slice A l.length c]] w (TPost (trB N l) w) := by
  have HA := Lib.hid (fun (W : World) (h : Below w.heap.size w W) => hA.below h)
  have HS := Lib.hid (fun W => size_any N A c l W (by omega))
  have hsl := sz_le N l
  obtain ⟨n, hn⟩ : ∃ n, n = szB N l := ⟨_, rfl⟩
  have HTL : Hid ((trB N l).length = n) := by show _ = _; rw [tr_len, hn]
  rw [← hn] at HS hsl
  have HG := Lib.hid (fun (W : World) (k : Nat) (h : BRd W A l) => get_any N A c l (k : Int) W h (by omega))
  have HGT : Hid (∀ k (h : k < (trB N l).length), getB N l (k : Int) = (trB N l)[k]) := getB_tr N l
  have hmk := run_make_row' (P := Try.prog) 22 4 (.bool false) 1 Try.underlying22 boolInfo rfl .i64 .i64 n (by omega) (by omega)
  have HMK := Lib.hid hmk
  have HMD := Lib.hid (fun W => OwnT.made W n (by omega))
  have hnI : (n : Int) ≤ 140737488355328 := by omega
  clear hA hn hsl hmk
  go_enter Try.func17, Try.ntmps17
  go_wp2_with fail
  refine (HS.out _).mono ?_
  rintro e w1 ⟨rfl, hb1⟩
  have x1 := box_next (box_new w (.cells #[.int .i64 N, .slice A l.length c] 25)) hb1
  have hmk := HMK.out w1
  have HO := Lib.hid (HMD.out w1)
  have HX := Lib.hid (box_next x1 (alloc_below w1 (.cells (madeCells #[.bool false] n) 4)))
  have HB := Lib.hid (bt (bt (alloc_below w _) hb1) (alloc_below w1 (.cells (madeCells #[.bool false] n) 4)))
  have HZ : Hid (w.heap.size < w1.heap.size) := by show _ < _; have := hb1.size; simp at this; omega
  clear hb1 x1 HMK HMD
  go_wp2_with fail
  clear hmk
  go_loopw [10] (fun idx wr => ∃ k : Nat, k ≤ n ∧ idx = .int .i64 (k : Int) ∧ OwnT wr w1.heap.size (.slice (some ⟨w1.heap.size, 0, none⟩) n n) (upT (trB N l) k) ∧ wr.heap[w.heap.size]? = some (.cells #[.int .i64 N, .slice A l.length c] 25 (0, 0)) ∧ Below w.heap.size w wr) (fun idx _ => n - (intOf idx).toNat)
  case atStart => exact ⟨0, by omega, rfl, by rw [upT_zero, HTL.out]; exact HO.out, HX.out, HB.out⟩
  case round =>
    clear HO HX HB
    obtain ⟨k, hk, rfl, hown, x1, hb⟩ := hrel
    have HB := Lib.hid hb
    have HO := Lib.hid hown
    by_cases hkn : k < n
    · have hkt : k < (trB N l).length := by rw [HTL.out]; exact hkn
      obtain ⟨⟨r0, r1⟩, rf⟩ := box_cells2 x1
      have X1 := Lib.hid x1
      have kI : (k : Int) < (n : Int) := by omega
      have kN : k < n := hkn
      have HGK := Lib.hid (HG.out wr k (HA.out _ hb))
      rw [HGT.out k hkt] at HGK
      have HT := Lib.hid (upT_set (trB N l) k hkt)
      have HUL := Lib.hid (upT_len (trB N l) k)
      generalize (trB N l)[k] = y at *
      clear hown x1 hb hkn hkt
      go_wp2_with fail
      refine HGK.out.mono ?_
      rintro e w3 ⟨rfl, hb3⟩
      have ho3 := HO.out.below hb3
      have hx3 := box_next X1.out hb3
      obtain ⟨g, e, hgB, hgl, hfz, hcc, hput⟩ := OwnT.put ho3 (by rw [HUL.out, HTL.out]) k kN
      obtain rfl : w1.heap.size = g := by simpa using e
      have HP := Lib.hid (hput y)
      rw [HT.out] at HP
      have HX3 := Lib.hid (box_fr hx3 (hput y).2 (by have := HZ.out; omega))
      have B3 := Lib.hid (below_tr (bt HB.out hb3) ((hput y).2.below (B := w.heap.size) (fun k e => by have := HZ.out; omega) (bt HB.out hb3).size))
      clear ho3 hx3 hput hb3 e
      go_wp2_with fail
      go_roundw
      case rel => exact ⟨k + 1, by omega, by go_num, HP.out.1, HX3.out, B3.out⟩
      case measure => simp [intOf]; omega
    · obtain rfl : k = n := by omega
      have kI : ¬ ((k : Int) < (k : Int)) := by omega
      clear hown x1 hb hkn
      go_wp2_with fail
      go_ret
      have h := HO.out
      rw [← HTL.out, upT_all] at h
      rw [← HTL.out]
      exact ⟨_, _, rfl, h.low (by have := HZ.out; omega), (fun h => by cases h), Nat.le_refl _, HB.out⟩
set_option maxHeartbeats 4000000 in
set_option maxRecDepth 100000 in
theorem rlist_any (N : Int) (A : Option Addr) (c : Nat) (l : List UInt8) (w : World) (hA : BRd w A l) (hl : l.length ≤ 17592186044416) : Calls Try.prog 18 #[.agg #[.int .i64 N, .slice A l.length c]] w (TPost (trB N l) w) := by
  have HA := Lib.hid (fun (W : World) (h : Below w.heap.size w W) => hA.below h)
  have HS := Lib.hid (fun W => places_any N A c l W (by omega))
  have hsl := sz_le N l
  obtain ⟨n, hn⟩ : ∃ n, n = szB N l := ⟨_, rfl⟩
  have HTL : Hid ((trB N l).length = n) := by show _ = _; rw [tr_len, hn]
  rw [← hn] at HS hsl
  have HG := Lib.hid (fun (W : World) (k : Nat) (h : BRd W A l) => rget_any N A c l (k : Int) W h (by omega))
  have HGT : Hid (∀ k (h : k < (trB N l).length), getB N l (k : Int) = (trB N l)[k]) := getB_tr N l
  have hnI : (n : Int) ≤ 140737488355328 := by omega
  have HX := Lib.hid (box_new w (.cells #[.int .i64 N, .slice A l.length c] 25))
  have HB := Lib.hid (alloc_below w (.cells #[.int .i64 N, .slice A l.length c] 25))
  clear hA hn hsl
  go_enter Try.func18, Try.ntmps18
  go_wp2_with fail
  go_loopw [3, 4] (fun v idx wr => ∃ (k : Nat), k ≤ n ∧ idx = .int .i64 (k : Int) ∧ OwnT wr (w.heap.size + 1) v ((trB N l).take k) ∧ wr.heap[w.heap.size]? = some (.cells #[.int .i64 N, .slice A l.length c] 25 (0, 0)) ∧ Below w.heap.size w wr) (fun _ idx _ => n - (intOf idx).toNat)
  case atStart => exact ⟨0, by omega, rfl, OwnT.nil _ _, HX.out, HB.out⟩
  case round =>
    clear HX HB
    obtain ⟨k, hk, rfl, hown, x1, hb⟩ := hrel
    obtain ⟨⟨r0, r1⟩, rf⟩ := box_cells2 x1
    have X1 := Lib.hid x1
    have HB := Lib.hid hb
    have HO := Lib.hid hown
    have HSK := Lib.hid (HS.out wr)
    clear hown x1 hb
    go_wp2_with fail
    refine HSK.out.mono ?_
    rintro e w2 ⟨rfl, hb2⟩
    have X2 := Lib.hid (box_next X1.out hb2)
    have O2 := Lib.hid (HO.out.below hb2)
    have B2 := Lib.hid (bt HB.out hb2)
    clear hb2 HSK
    by_cases hkn : k < n
    · have hkt : k < (trB N l).length := by rw [HTL.out]; exact hkn
      have kI : (k : Int) < (n : Int) := by omega
      have HGK := Lib.hid (HG.out w2 k (HA.out _ B2.out))
      rw [HGT.out k hkt] at HGK
      have HT := Lib.hid (List.take_succ_eq_append_getElem hkt)
      obtain ⟨⟨s0, s1⟩, sf⟩ := box_cells2 X2.out
      generalize (trB N l)[k] = y at *
      clear hkn hkt
      go_wp2_with fail
      refine HGK.out.mono ?_
      rintro e w3 ⟨rfl, hb3⟩
      have O3 := Lib.hid (O2.out.below hb3)
      have X3 := Lib.hid (box_next X2.out hb3)
      have B3 := Lib.hid (bt B2.out hb3)
      have HZ3 := Lib.hid (box_lt X3.out)
      clear hb3
      go_wp2_with (at_builtin; go_loud (refine wpList_bool rfl _ _ rfl (w.heap.size + 1) _ ((trB N l).take k) (by rfl) rfl O3.out HZ3.out (by rw [List.length_take]; have := HTL.out; omega) ?_); intro v4 w4 hown4 hg4; refine Hid.out ?_)
      refine Lib.hid ?_
      rw [← HT.out] at hown4
      have O4 := Lib.hid hown4
      have X4 := Lib.hid ((hg4.old (box_lt X3.out) (box_off O3.out X3.out (by decide))).trans X3.out)
      have B4 := Lib.hid (below_tr B3.out ((hg4.below O3.out HZ3.out).mono (by omega)))
      clear hown4 hg4
      go_wp2_with fail
      go_roundw
      case rel => exact ⟨k + 1, by omega, by go_num, O4.out, X4.out, B4.out⟩
      case measure => simp [intOf]; omega
    · obtain rfl : k = n := by omega
      have kI : ¬ ((k : Int) < (k : Int)) := by omega
      have h := O2.out
      rw [← HTL.out, List.take_length] at h
      obtain ⟨a, c2, rfl, h1, h2⟩ := own_slice h
      have H := Lib.hid h
      have H1 := Lib.hid h1
      have H2 := Lib.hid h2
      clear hkn h h1 h2
      go_wp2_with fail
      go_ret
      exact ⟨_, _, rfl, H.out.low (by omega), H2.out, H1.out, B2.out⟩
end Go.Proofs.Ytpdffcopigajgaa
