/-
  Of bits: contracts of New, Get (both), Exact.
-/
import Derived.Test.YtpdffcopigajgaaKSmall
namespace Go.Proofs.Ytpdffcopigajgaa
open Go.ChangeShapes Go.WideShapes Go.ChangeAt Go.RowKit Go.Deep
set_option linter.unusedVariables false

theorem set2_fr (W : World) (b : Nat) (u0 u1 : Value) : Fr (fun k => k = b) W ((W.setCell ⟨b, 0, none⟩ u0).setCell ⟨b, 1, none⟩ u1) := (Fr.set (F := fun k => k = b) _ b 0 _ rfl).trans (Fr.set (F := fun k => k = b) _ b 1 _ rfl)
/-- Behind a call, a box of one's own is written: the answer stands. -/
theorem BPost.box {t : List Bool} {w W2 : World} {B c n : Nat} {a : Option Addr} (ho : OwnB W2 B (.slice a n c) (pkB t)) (hn : n = (pkB t).length) (hac : a = none → c = 0) (hnc : n ≤ c) (hB : w.heap.size ≤ B) (hb : Below w.heap.size w W2) (b : Nat) (h1 : w.heap.size ≤ b) (h2 : b < B) (u0 u1 : Value) :
    BPost t w (.returned (.agg #[.int .i64 (t.length : Int), .slice a n c])) ((W2.setCell ⟨b, 0, none⟩ u0).setCell ⟨b, 1, none⟩ u1) := by
  subst hn
  refine ⟨a, c, rfl, (ho.fr (set2_fr W2 b u0 u1) fun k hk e => ?_).low hB, hac, hnc, ?_⟩
  · have := (World.ownsRow.lt ho k hk).1
    omega
  · exact below_tr hb ((set2_fr W2 b u0 u1).below (fun k e => by omega) hb.size)
theorem BPost.drew {t : List Bool} {w w' : World} {e : Ending} (h : BPost t w e w') : BPost t w e w'.drew := by
  obtain ⟨a, c, he, ho, h1, h2, hb⟩ := h
  exact ⟨a, c, he, ho.below ((Below.refl _ _).drew), h1, h2, hb.drew⟩
def newN (n : Int) : Nat := min n.toNat 1048576
set_option maxHeartbeats 1000000 in
theorem new_any (n : Int) (w : World) : Calls Try.prog 21 #[.int .i64 n] w (BPost (List.replicate (newN n) false) w) := by
  have HN : Hid (min (max n 0) 1048576 = ((newN n : Nat) : Int)) := by show _ = _; unfold newN; omega
  have HC := Lib.hid (fun W => cleared_any (newN n) W (by unfold newN; omega))
  generalize newN n = m at *
  have hq := HN.out
  go_enter Try.func21, Try.ntmps21
  go_wp2_with fail
  refine (HC.out _).mono ?_
  rintro e w2 ⟨a, c, rfl, ho, hac, hnc, hb⟩
  obtain ⟨⟨r0, r1⟩, rf⟩ := box_cells2 (box_next (box_new w (.cells #[.int .i64 0, .slice none 0 0] 25)) hb)
  have HO := Lib.hid ho
  have HB := Lib.hid (bt (alloc_below _ _) hb)
  have HZ := Lib.hid hb.size
  have HAC := Lib.hid hac
  clear ho hb hac
  generalize hLn : (List.replicate m false).length = L at *
  generalize hP : (pkB (List.replicate m false)).length = p at *
  go_wp2_with fail
  refine bodyPost_ret (v := .agg #[.int .i64 L, .slice a p c]) (by simp [results, Try.results21, go_sem, r0, r1]) rfl ?_
  subst hLn
  exact BPost.box HO.out hP.symm HAC.out hnc (by simp) HB.out _ (Nat.le_refl _) (by simp) _ _
def getB (N : Int) (l : List UInt8) (i : Int) : Bool := hasB N l i && bitL l i.toNat
set_option maxHeartbeats 2000000 in
theorem get_any (N : Int) (A : Option Addr) (c : Nat) (l : List UInt8) (i : Int) (w : World) (hA : BRd w A l) (h : l.length ≤ 1000000000000000) : Calls Try.prog 25 #[.agg #[.int .i64 N, .slice A l.length c], .int .i64 i] w fun e w' => e = .returned (.bool (getB N l i)) ∧ Below w.heap.size w w' := by
  have HH := Lib.hid (fun W => has_any N A c l i W h)
  have HG : Hid (getB N l i = (hasB N l i && bitL l i.toNat)) := rfl
  cases hh : hasB N l i with
  | false =>
    rw [hh] at HH HG
    clear hh hA h
    generalize getB N l i = z at *
    go_enter Try.func25, Try.ntmps25
    go_wp2_with fail
    refine (HH.out _).mono ?_
    rintro e w1 ⟨rfl, hb⟩
    have HB1 := Lib.hid (bt (alloc_below _ _) hb)
    clear hb
    go_wp2_with fail
    go_ret
    exact ⟨ret_bool (by rw [HG.out]; rfl), HB1.out⟩
  | true =>
    have hi : 0 ≤ i ∧ i < (szB N l : Int) := by
      unfold hasB at hh
      simpa using hh
    have hsz := sz_le N l
    obtain ⟨j, k, hjk, hk⟩ : ∃ j k, i.toNat = 8 * j + k ∧ k < 8 := ⟨i.toNat / 8, i.toNat % 8, by omega, by omega⟩
    have hj : j < l.length := by omega
    rw [hh] at HH HG
    obtain ⟨g, off, rfl, hgl, hc⟩ := hA (by omega)
    have hbit : bitL l i.toNat = bitB l[j] k := by rw [hjk, bitL_at hj hk]
    rw [hbit] at HG
    have c0 := hc j hj
    have HD := Lib.hid (bit_div l[j] k)
    have q1 : i / 8 = (j : Int) := by omega
    have q2 : i % 8 = (k : Int) := by omega
    have q3 : (0 : Int) ≤ i := hi.1
    have q4 : (j : Int) < (l.length : Int) := by omega
    have q5 : (k : Int) < 8 := by omega
    have q7 : i ≤ 9000000000000000 := by omega
    clear hh hi hsz hjk hbit hk h hc
    generalize l[j] = ch at *
    generalize getB N l i = z at *
    go_enter Try.func25, Try.ntmps25
    go_wp2_with fail
    refine (HH.out _).mono ?_
    rintro e w1 ⟨rfl, hb⟩
    obtain ⟨⟨r0, r1⟩, rf⟩ := box_cells2 (box_next (box_new w (.cells #[.int .i64 N, .slice (some ⟨g, off, none⟩) l.length c] 25)) hb)
    have HB1 := Lib.hid (bt (alloc_below _ _) hb)
    have c1 : w1.cell? ⟨g, off + j, none⟩ = some (.int .u8 (ch.toNat : Int)) := ((bcell HB1.out).1 _ _ hgl).trans c0
    clear hb
    go_wp2_with fail
    go_ret
    exact ⟨ret_bool (by rw [HG.out, HD.out]; cases bitB ch k <;> rfl), HB1.out⟩
set_option maxHeartbeats 2000000 in
theorem rget_any (N : Int) (A : Option Addr) (c : Nat) (l : List UInt8) (i : Int) (w : World) (hA : BRd w A l) (h : l.length ≤ 1000000000000000) : Calls Try.prog 26 #[.agg #[.int .i64 N, .slice A l.length c], .int .i64 i] w fun e w' => e = .returned (.bool (getB N l i)) ∧ Below w.heap.size w w' := by
  have HS := Lib.hid (fun W => places_any N A c l W h)
  have HG : Hid (getB N l i = (hasB N l i && bitL l i.toNat)) := rfl
  cases hh : hasB N l i with
  | false =>
    have hh2 := hh
    unfold hasB at hh2
    rw [hh] at HG
    clear hh hA h
    generalize getB N l i = z at *
    by_cases h0 : 0 ≤ i
    · have h1 : ¬ i < (szB N l : Int) := by simpa [h0] using hh2
      generalize szB N l = s at *
      clear hh2
      go_enter Try.func26, Try.ntmps26
      go_wp2_with fail
      refine (HS.out _).mono ?_
      rintro e w1 ⟨rfl, hb⟩
      have HB1 := Lib.hid (bt (alloc_below _ _) hb)
      clear hb
      go_wp2_with fail
      go_ret
      exact ⟨ret_bool (by rw [HG.out]; rfl), HB1.out⟩
    · clear hh2
      go_enter Try.func26, Try.ntmps26
      go_wp2_with fail
      go_ret
      exact ⟨ret_bool (by rw [HG.out]; rfl), alloc_below _ _⟩
  | true =>
    have hi : 0 ≤ i ∧ i < (szB N l : Int) := by
      unfold hasB at hh
      simpa using hh
    have hsz := sz_le N l
    obtain ⟨j, k, hjk, hk⟩ : ∃ j k, i.toNat = 8 * j + k ∧ k < 8 := ⟨i.toNat / 8, i.toNat % 8, by omega, by omega⟩
    have hj : j < l.length := by omega
    rw [hh] at HG
    obtain ⟨g, off, rfl, hgl, hc⟩ := hA (by omega)
    have hbit : bitL l i.toNat = bitB l[j] k := by rw [hjk, bitL_at hj hk]
    rw [hbit] at HG
    have c0 := hc j hj
    have HD := Lib.hid (bit_div l[j] k)
    have q1 : i / 8 = (j : Int) := by omega
    have q2 : i % 8 = (k : Int) := by omega
    have q3 : (0 : Int) ≤ i := hi.1
    have q6 : i < (szB N l : Int) := hi.2
    have q4 : (j : Int) < (l.length : Int) := by omega
    have q5 : (k : Int) < 8 := by omega
    have q7 : i ≤ 9000000000000000 := by omega
    clear hh hi hsz hjk hbit hk h hc
    generalize l[j] = ch at *
    generalize getB N l i = z at *
    generalize szB N l = s at *
    go_enter Try.func26, Try.ntmps26
    go_wp2_with fail
    refine (HS.out _).mono ?_
    rintro e w1 ⟨rfl, hb⟩
    obtain ⟨⟨r0, r1⟩, rf⟩ := box_cells2 (box_next (box_new w (.cells #[.int .i64 N, .slice (some ⟨g, off, none⟩) l.length c] 25)) hb)
    have HB1 := Lib.hid (bt (alloc_below _ _) hb)
    have c1 : w1.cell? ⟨g, off + j, none⟩ = some (.int .u8 (ch.toNat : Int)) := ((bcell HB1.out).1 _ _ hgl).trans c0
    clear hb
    go_wp2_with fail
    go_ret
    exact ⟨ret_bool (by rw [HG.out, HD.out]; cases bitB ch k <;> rfl), HB1.out⟩
set_option maxHeartbeats 2000000 in
theorem exact_any (N M : Int) (A C : Option Addr) (c d : Nat) (l m : List UInt8) (w : World) (hA : BRd w A l) (hC : BRd w C m) : Calls Try.prog 13 #[.agg #[.int .i64 N, .slice A l.length c], .agg #[.int .i64 M, .slice C m.length d]] w fun e w' => e = .returned (.bool (decide (N = M) && (l == m))) ∧ Below w.heap.size w w' := by
  by_cases hN : N = M
  · subst hN
    have h1 := conv_brd (k := c) (hA.below (bt (alloc_below w (.cells #[.int .i64 N, .slice A l.length c] 25)) (alloc_below _ (.cells #[.int .i64 N, .slice C m.length d] 25)))) rfl
    have h2 := conv_brd (k := d) (hC.below (bt (alloc_below w (.cells #[.int .i64 N, .slice A l.length c] 25)) (alloc_below _ (.cells #[.int .i64 N, .slice C m.length d] 25)))) rfl
    clear hA hC
    go_enter Try.func13, Try.ntmps13
    go_wp2_with fail
    go_ret
    exact ⟨ret_bool (by simp), bt (alloc_below _ _) (alloc_below _ _)⟩
  · have hN' : (N == M) = false := by simpa using hN
    clear hA hC
    go_enter Try.func13, Try.ntmps13
    go_wp2_with fail
    go_ret
    exact ⟨ret_bool (by simp [hN]), bt (alloc_below _ _) (alloc_below _ _)⟩
end Go.Proofs.Ytpdffcopigajgaa
