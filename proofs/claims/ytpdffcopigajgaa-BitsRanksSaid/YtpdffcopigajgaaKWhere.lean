/-
  Of bits: contracts of the document's Where and Rank.
-/
import Derived.Test.YtpdffcopigajgaaKAll
import Derived.Test.YtpdffcopigajgaaKEq
namespace Go.Proofs.Ytpdffcopigajgaa
open Go.ChangeShapes Go.WideShapes Go.ChangeAt Go.RowKit Go.Deep
set_option linter.unusedVariables false

def whereT (t : List Bool) (i : Nat) : List Nat := (List.range i).filter fun x => t.getD x false
theorem where_eq (t : List Bool) : whereL (pkB t) = whereT t t.length := by
  have h1 : whereL (pkB t) = whereT t (8 * (pkB t).length) := by
    unfold whereL whereU whereT
    congr 1
    funext x
    exact bit_pk t x
  have h2 : t.length ≤ 8 * (pkB t).length := by rw [pk_len]; omega
  obtain ⟨m, e⟩ := Nat.exists_eq_add_of_le h2
  rw [h1, e]
  unfold whereT
  rw [List.range_add, List.filter_append]
  conv => rhs; rw [← List.append_nil (List.filter _ _)]
  congr 1
  rw [List.filter_eq_nil_iff]
  intro a ha
  obtain ⟨y, _, rfl⟩ := List.mem_map.1 ha
  rw [getD_ge (by omega)]
  simp
theorem whereT_snoc (t : List Bool) (i : Nat) (h : t.getD i false = true) : whereT t (i + 1) = whereT t i ++ [i] := by
  unfold whereT
  rw [List.range_succ, List.filter_append]
  congr 1
  rw [List.filter_cons, if_pos (by simpa using h), List.filter_nil]
theorem whereT_skip (t : List Bool) (i : Nat) (h : t.getD i false = false) : whereT t (i + 1) = whereT t i := by
  unfold whereT
  rw [List.range_succ, List.filter_append]
  conv => rhs; rw [← List.append_nil (List.filter _ _)]
  congr 1
  rw [List.filter_cons, if_neg (by rw [h]; simp), List.filter_nil]
theorem whereT_len (t : List Bool) (i : Nat) : (whereT t i).length ≤ i := by
  have := List.length_filter_le (fun x => t.getD x false) (List.range i)
  rw [List.length_range] at this
  exact this
def intsOf (l : List Nat) : List Int := l.map (fun x : Nat => (x : Int))
theorem intsOf_len (l : List Nat) : (intsOf l).length = l.length := by simp [intsOf]
/-- What a call answers that makes ints. -/
def IPost (zs : List Int) (w : World) (e : Ending) (w' : World) : Prop := ∃ a c, e = .returned (.slice a zs.length c) ∧ IRd w' a zs ∧ Below w.heap.size w w'
set_option maxHeartbeats 4000000 in
set_option maxRecDepth 100000 in
theorem rwhere_any (N : Int) (A : Option Addr) (c : Nat) (l : List UInt8) (w : World) (hA : BRd w A l) (hl : l.length ≤ 100000) : Calls Try.prog 40 #[.agg #[.int .i64 N, .slice A l.length c]] w (IPost (intsOf (whereT (trB N l) (trB N l).length)) w) := by
  have HA := Lib.hid (fun (W : World) (h : Below w.heap.size w W) => hA.below h)
  have HS := Lib.hid (fun W => places_any N A c l W (by omega))
  have hsl := sz_le N l
  obtain ⟨n, hn⟩ : ∃ n, n = szB N l := ⟨_, rfl⟩
  have HTL : Hid ((trB N l).length = n) := by show _ = _; rw [tr_len, hn]
  rw [← hn] at HS hsl
  have HG := Lib.hid (fun (W : World) (k : Nat) (h : BRd W A l) => rget_any N A c l (k : Int) W h (by omega))
  have HGT : Hid (∀ k (h : k < (trB N l).length), getB N l (k : Int) = (trB N l)[k]) := getB_tr N l
  have hnI : (n : Int) ≤ 800000 := by omega
  have HX := Lib.hid (box_new w (.cells #[.int .i64 N, .slice A l.length c] 25))
  have HB := Lib.hid (alloc_below w (.cells #[.int .i64 N, .slice A l.length c] 25))
  rw [HTL.out]
  clear hA hn hsl
  generalize trB N l = t at *
  go_enter Try.func40, Try.ntmps40
  go_wp2_with fail
  go_loopw [3, 4] (fun v idx wr => ∃ (k : Nat), k ≤ n ∧ idx = .int .i64 (k : Int) ∧ OwnI wr (w.heap.size + 1) v (intsOf (whereT t k)) ∧ wr.heap[w.heap.size]? = some (.cells #[.int .i64 N, .slice A l.length c] 25 (0, 0)) ∧ Below w.heap.size w wr) (fun _ idx _ => n - (intOf idx).toNat)
  case atStart => exact ⟨0, by omega, rfl, OwnI.nil _ _, HX.out, HB.out⟩
  case round =>
    clear HX HB
    obtain ⟨k, hk, rfl, hown, x1, hb⟩ := hrel
    obtain ⟨⟨r0, r1⟩, rf⟩ := box_cells2 x1
    have X1 := Lib.hid x1
    have HB := Lib.hid hb
    have HO := Lib.hid hown
    have HSK := Lib.hid (HS.out wr)
    clear hown x1 hb
    go_wp2_with fail
    refine HSK.out.mono ?_
    rintro e w2 ⟨rfl, hb2⟩
    have X2 := Lib.hid (box_next X1.out hb2)
    have O2 := Lib.hid (HO.out.below hb2)
    have B2 := Lib.hid (bt HB.out hb2)
    clear hb2 HSK
    by_cases hkn : k < n
    · have hkt : k < t.length := by rw [HTL.out]; exact hkn
      have kI : (k : Int) < (n : Int) := by omega
      have HGK := Lib.hid (HG.out w2 k (HA.out _ B2.out))
      rw [HGT.out k hkt] at HGK
      have hgd : t.getD k false = t[k] := getD_lt hkt
      obtain ⟨⟨s0, s1⟩, sf⟩ := box_cells2 X2.out
      cases hy : t[k] with
      | false =>
        rw [hy] at HGK
        have HT := Lib.hid (whereT_skip t k (hgd.trans hy))
        clear hkn hkt hgd hy
        go_wp2_with fail
        refine HGK.out.mono ?_
        rintro e w3 ⟨rfl, hb3⟩
        have O3 := Lib.hid (O2.out.below hb3)
        have X3 := Lib.hid (box_next X2.out hb3)
        have B3 := Lib.hid (bt B2.out hb3)
        rw [← HT.out] at O3
        clear hb3
        go_wp2_with fail
        go_roundw
        case rel => exact ⟨k + 1, by omega, by go_num, O3.out, X3.out, B3.out⟩
        case measure => simp [intOf]; omega
      | true =>
        rw [hy] at HGK
        have HT : Hid (intsOf (whereT t (k + 1)) = intsOf (whereT t k) ++ [(k : Int)]) := by
          show _ = _
          rw [whereT_snoc t k (hgd.trans hy)]
          simp [intsOf]
        have HLL : Hid ((intsOf (whereT t k)).length ≤ 1000000) := by show _ ≤ _; rw [intsOf_len]; have := whereT_len t k; omega
        clear hkn hkt hgd hy
        go_wp2_with fail
        refine HGK.out.mono ?_
        rintro e w3 ⟨rfl, hb3⟩
        have O3 := Lib.hid (O2.out.below hb3)
        have X3 := Lib.hid (box_next X2.out hb3)
        have B3 := Lib.hid (bt B2.out hb3)
        have HZ3 := Lib.hid (box_lt X3.out)
        clear hb3
        go_wp2_with (at_builtin; go_loud (refine wpList_int rfl _ _ rfl (w.heap.size + 1) _ (intsOf (whereT t k)) (by rfl) rfl O3.out HZ3.out HLL.out ?_); intro v4 w4 hown4 hg4; refine Hid.out ?_)
        refine Lib.hid ?_
        rw [← HT.out] at hown4
        have O4 := Lib.hid hown4
        have X4 := Lib.hid ((hg4.old (box_lt X3.out) (box_off O3.out X3.out (by decide))).trans X3.out)
        have B4 := Lib.hid (below_tr B3.out ((hg4.below O3.out HZ3.out).mono (by omega)))
        clear hown4 hg4
        go_wp2_with fail
        go_roundw
        case rel => exact ⟨k + 1, by omega, by go_num, O4.out, X4.out, B4.out⟩
        case measure => simp [intOf]; omega
    · obtain rfl : k = n := by omega
      have kI : ¬ ((k : Int) < (k : Int)) := by omega
      have h := O2.out
      obtain ⟨a, c2, rfl, -, -⟩ := own_slice h
      have H := Lib.hid h.ird
      clear hkn h
      go_wp2_with fail
      go_ret
      exact ⟨_, _, rfl, H.out, B2.out⟩
theorem rank_eq (t : List Bool) (i : Int) : (intsOf (whereT t t.length)).countP (fun x => decide (x < i)) = rankV t i := by
  have key : ∀ n, n ≤ t.length → (intsOf (whereT t n)).countP (fun x => decide (x < i)) = cntT ((t.take n).take i.toNat) := by
    intro n hn
    induction n with
    | zero => simp [whereT, intsOf, cntT]
    | succ n ih =>
      have hnl : n < t.length := by omega
      have ih := ih (by omega)
      rw [List.take_succ_eq_append_getElem hnl]
      by_cases hni : n < i.toNat
      · rw [List.take_of_length_le (by rw [List.length_append, List.length_take, List.length_singleton]; omega)]
        rw [List.take_of_length_le (by rw [List.length_take]; omega)] at ih
        have hgd : t.getD n false = t[n] := getD_lt hnl
        cases hy : t[n] with
        | false =>
          rw [whereT_skip t n (hgd.trans hy), ih]
          unfold cntT
          simp
        | true =>
          rw [whereT_snoc t n (hgd.trans hy)]
          have e : intsOf (whereT t n ++ [n]) = intsOf (whereT t n) ++ [(n : Int)] := by simp [intsOf]
          rw [e, List.countP_append, ih]
          unfold cntT
          rw [List.count_append]
          simp
          omega
      · have e1 : (t.take n ++ [t[n]]).take i.toNat = (t.take n).take i.toNat := by
          rw [List.take_append_of_le_length (by rw [List.length_take]; omega)]
        rw [e1, ← ih]
        have hgd : t.getD n false = t[n] := getD_lt hnl
        cases hy : t[n] with
        | false => rw [whereT_skip t n (hgd.trans hy)]
        | true =>
          rw [whereT_snoc t n (hgd.trans hy)]
          have e : intsOf (whereT t n ++ [n]) = intsOf (whereT t n) ++ [(n : Int)] := by simp [intsOf]
          rw [e, List.countP_append]
          simp
          omega
  have h := key t.length (Nat.le_refl _)
  rw [List.take_length] at h
  exact h
set_option maxHeartbeats 4000000 in
set_option maxRecDepth 100000 in
theorem rrank_any (N : Int) (A : Option Addr) (c : Nat) (l : List UInt8) (i : Int) (w : World) (hA : BRd w A l) (hl : l.length ≤ 100000) : Calls Try.prog 45 #[.agg #[.int .i64 N, .slice A l.length c], .int .i64 i] w fun e w' => e = .returned (.int .i64 (rankV (trB N l) i : Nat)) ∧ Below w.heap.size w w' := by
  have HX := Lib.hid (alloc_below w (.cells #[.int .i64 N, .slice A l.length c] 25))
  have HW := Lib.hid (rwhere_any N A c l _ (hA.below HX.out) hl)
  have HE := Lib.hid (rank_eq (trB N l) i)
  have hlen : (intsOf (whereT (trB N l) (trB N l).length)).length ≤ 800000 := by
    rw [intsOf_len]
    have := whereT_len (trB N l) (trB N l).length
    rw [tr_len] at this ⊢
    have := sz_le N l
    omega
  unfold IPost at HW
  generalize rankV (trB N l) i = R at *
  generalize intsOf (whereT (trB N l) (trB N l).length) = zs at *
  obtain ⟨n, hn⟩ : ∃ n, n = zs.length := ⟨_, rfl⟩
  rw [← hn] at HW hlen
  have HN := Lib.hid hn
  have hnI : (n : Int) ≤ 800000 := by omega
  clear hA hn
  go_enter Try.func45, Try.ntmps45
  go_wp2_with fail
  refine HW.out.mono ?_
  rintro e w1 ⟨a, c1, rfl, hr, hb⟩
  have HR := Lib.hid hr
  have HB := Lib.hid (bt HX.out hb)
  clear hr hb HW HX
  go_wp2_with fail
  go_loopw [5, 7] (fun v idx wr => ∃ k : Nat, k ≤ n ∧ idx = .int .i64 (k : Int) ∧ v = .int .i64 (((zs.take k).countP (fun x => decide (x < i)) : Nat) : Int) ∧ wr = w1) (fun _ idx _ => n - (intOf idx).toNat)
  case atStart => exact ⟨0, by omega, rfl, rfl, rfl⟩
  case round =>
    obtain ⟨k, hk, rfl, rfl, rfl⟩ := hrel
    by_cases hkn : k < n
    · have hkz : k < zs.length := by rw [← HN.out]; exact hkn
      obtain ⟨g, off, rfl, _, hc⟩ := HR.out (by omega)
      have c0 := hc k hkz
      have kI : (k : Int) < (n : Int) := by omega
      have kN : k < n := hkn
      have HS : Hid ((zs.take (k + 1)).countP (fun x => decide (x < i)) = (zs.take k).countP (fun x => decide (x < i)) + if zs[k] < i then 1 else 0) := by
        show _ = _
        rw [List.take_succ_eq_append_getElem hkz, List.countP_append]
        congr 1
        simp [List.countP_cons]
      have hcp : (zs.take k).countP (fun x => decide (x < i)) ≤ 800000 := by
        have := List.countP_le_length (p := fun x => decide (x < i)) (l := zs.take k)
        rw [List.length_take] at this
        omega
      clear hc hkn
      generalize (zs.take k).countP (fun x => decide (x < i)) = cc at *
      generalize zs[k] = z at *
      clear hkz
      by_cases hzi : z < i
      · have hs := HS.out
        rw [if_pos hzi] at hs
        have HS2 := Lib.hid hs
        clear hs
        go_wp2_with fail
        go_roundw
        case rel => exact ⟨k + 1, by omega, by go_num, by rw [HS2.out]; first | rfl | go_num, by first | rfl | trivial⟩
        case measure => simp [intOf]; omega
      · have hs := HS.out
        rw [if_neg hzi] at hs
        have HS2 := Lib.hid hs
        clear hs
        go_wp2_with fail
        go_roundw
        case rel => exact ⟨k + 1, by omega, by go_num, by rw [HS2.out]; first | rfl | go_num, by first | rfl | trivial⟩
        case measure => simp [intOf]; omega
    · obtain rfl : k = n := by omega
      have kI : ¬ ((k : Int) < (k : Int)) := by omega
      go_wp2_with fail
      go_ret
      exact ⟨ret_int (by rw [← HE.out, HN.out, List.take_length]), HB.out⟩
end Go.Proofs.Ytpdffcopigajgaa
