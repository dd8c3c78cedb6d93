/-
  Of disk: contract of Same.
-/
import Derived.Test.YtdbbghmldaekhaaDIdx
namespace Go.Proofs.Ytdbbghmldaekhaa
open Go.ChangeShapes Go.WideShapes Go.ChangeAt Go.RowKit
set_option linter.unusedVariables false

theorem same_not {p1 p2 : Value} {b1 b2 : Bool} {w : World} (h1 : Mk w p1 b1) (h2 : Mk w p2 b2) (hb : (b1 && b2) = false) : Calls Try.prog 21 #[p1, p2] w fun e w' => e = .returned (.bool false) ∧ w = w' := by
  have H1 := Lib.hid (isMade_any h1)
  have H2 := Lib.hid (isMade_any h2)
  clear h1 h2
  cases b1 with
  | false =>
    clear hb
    go_enter Try.func21, Try.ntmps21
    go_wp2_with fail
    refine H1.out.mono ?_
    rintro e w' ⟨rfl, rfl⟩
    go_wp2_with fail
    go_ret
    exact ⟨rfl, rfl⟩
  | true =>
    obtain rfl : b2 = false := by simpa using hb
    clear hb
    go_enter Try.func21, Try.ntmps21
    go_wp2_with fail
    refine H1.out.mono ?_
    rintro e w' ⟨rfl, rfl⟩
    go_wp2_with fail
    refine H2.out.mono ?_
    rintro e w' ⟨rfl, rfl⟩
    go_wp2_with fail
    go_ret
    exact ⟨rfl, rfl⟩
/-- A file's slice, as a value that shows what it is. -/
theorem now_form {w : World} {g : Nat} {v : Nat → Value} {pc : Value} {qs : List PV} {kp : Value} {s : St} (hd : DSt w g v pc qs kp s) (i : Nat) (hi : i < 4) : ∃ a n k, v i = .slice a n k ∧ n = (s.ct i).length ∧ BRd w a (s.ct i) := by
  obtain ⟨a, k, e, -, -⟩ := (hd.core.own i hi).slice
  have h := hd.core.own i hi
  rw [e] at h
  exact ⟨a, _, k, e, rfl, h.brd⟩
theorem equal_at {w W : World} {A1 A2 : Option Addr} {c1 c2 n1 n2 : Nat} {l1 l2 : List UInt8} (h1 : BRd w A1 l1) (h2 : BRd w A2 l2) (e1 : n1 = l1.length) (e2 : n2 = l2.length) (hW : Below w.heap.size w W) :
    Calls Try.prog 29 #[.slice A1 n1 c1, .slice A2 n2 c2] W fun e w' => e = .returned (.bool (l1 == l2)) ∧ W = w' := by
  subst e1 e2
  exact equal_any A1 A2 c1 c2 l1 l2 W (h1.below hW) (h2.below hW)

set_option maxHeartbeats 4000000 in
set_option maxRecDepth 100000 in
theorem same_any (g1 g2 : Nat) {w : World} {F1 R1 F2 R2 : Nat → Prop} {s1 s2 : St} (h1 : Disk w g1 F1 R1 s1) (h2 : Disk w g2 F2 R2 s2) :
    Calls Try.prog 21 #[.pointer (some ⟨g1, 0, none⟩), .pointer (some ⟨g2, 0, none⟩)] w fun e w' => e = .returned (.bool (s1.now 0 == s2.now 0 && s1.now 1 == s2.now 1)) ∧ Below w.heap.size w w' := by
  have H1 := Lib.hid (isMade_any h1.mk)
  have H2 := Lib.hid (isMade_any h2.mk)
  obtain ⟨v1, pc1, qs1, kp1, hd1, -⟩ := h1
  obtain ⟨v2, pc2, qs2, kp2, hd2, -⟩ := h2
  have hg1 : g1 < w.heap.size := (Array.getElem?_eq_some_iff.1 hd1.box).1
  have hg2 : g2 < w.heap.size := (Array.getElem?_eq_some_iff.1 hd2.box).1
  obtain ⟨⟨-, -, -, -, -, c5, c6, c7, c8, -⟩, -⟩ := box10 hd1.box
  obtain ⟨⟨-, -, -, -, -, d5, -, d7, -, -⟩, -⟩ := box10 hd2.box
  obtain ⟨a0, n0, k0, e0, l0, r0⟩ := now_form hd1 0 (by omega)
  obtain ⟨a1, n1, k1, e1, l1, r1⟩ := now_form hd1 1 (by omega)
  obtain ⟨a2, n2, k2, e2, l2, r2⟩ := now_form hd1 2 (by omega)
  obtain ⟨a3, n3, k3, e3, l3, r3⟩ := now_form hd1 3 (by omega)
  obtain ⟨b0, m0, j0, f0, x0, y0⟩ := now_form hd2 0 (by omega)
  obtain ⟨b2, m2, j2, f2, x2, y2⟩ := now_form hd2 2 (by omega)
  have l0' : s1.ct 0 = s1.now 0 := rfl
  have l2' : s1.ct 2 = s1.now 1 := rfl
  have x0' : s2.ct 0 = s2.now 0 := rfl
  have x2' : s2.ct 2 = s2.now 1 := rfl
  rw [e0] at c5
  rw [e1] at c6
  rw [e2] at c7
  rw [e3] at c8
  rw [f0] at d5
  rw [f2] at d7
  rw [l0'] at l0 r0
  rw [l2'] at l2 r2
  rw [x0'] at x0 y0
  rw [x2'] at x2 y2
  have HE0 := Lib.hid (fun W hW => equal_at (w := w) (W := W) (c1 := k0) (c2 := j0) r0 y0 l0 x0 hW)
  have HE1 := Lib.hid (fun W hW => equal_at (w := w) (W := W) (c1 := k2) (c2 := j2) r2 y2 l2 x2 hW)
  clear hd1 hd2 l0 l1 l2 l3 x0 x2 l0' l2' x0' x2' e0 e1 e2 e3 f0 f2 r0 r1 r2 r3 y0 y2
  generalize s1.now 0 = A0 at *
  generalize s1.now 1 = A1 at *
  generalize s2.now 0 = B0 at *
  generalize s2.now 1 = B1 at *
  go_enter Try.func21, Try.ntmps21
  go_wp2_with fail
  refine H1.out.mono ?_
  rintro e w' ⟨rfl, rfl⟩
  go_wp2_with fail
  refine H2.out.mono ?_
  rintro e w' ⟨rfl, rfl⟩
  go_wp2_with fail
  clear c5 c6 c7 c8
  go_loopw [19] (fun idx wr => ∃ n : Nat, n ≤ 2 ∧ idx = .int .i64 (n : Int) ∧ (1 ≤ n → A0 = B0) ∧ (2 ≤ n → A1 = B1) ∧ Below w.heap.size w wr) (fun idx _ => 2 - (intOf idx).toNat)
  case atStart => exact ⟨0, by omega, rfl, fun h => by omega, fun h => by omega, Below.refl _ _⟩
  case round =>
    obtain ⟨n, hn, rfl, hn1, hn2, hbel⟩ := hrel
    have HB := Lib.hid hbel
    have hbc := (bcell hbel).1
    have hwr : w.heap.size ≤ wr.heap.size := hbel.size
    have hg2r : g2 < wr.heap.size := by omega
    rw [← hbc _ _ hg2] at d5 d7
    rcases (by omega : n = 0 ∨ n = 1 ∨ n = 2) with rfl | rfl | rfl
    · have HN1 := Lib.hid hn1
      have HN2 := Lib.hid hn2
      clear hn1 hn2 hbel hbc hn
      have hix := fun a b c d w => (index_file a b c d w).1
      by_cases hab : A0 = B0
      all_goals
        have HAB := Lib.hid hab
        have HE := Lib.hid (fun W hW => (HE0.out W hW))
        clear HE0 HE1
        go_wp2_with fail
        go_region_held3 (fun w' => w'.cell? ⟨wr.heap.size, 0, none⟩ = some (.slice a0 n0 k0) ∧ w'.cell? ⟨g2, 5, none⟩ = some (.slice b0 m0 j0)) (((try go_split_ands); first | assumption | (refine ⟨?_, ?_⟩ <;> first | assumption | go_keep) | go_keep)) (first
          | (go_at_call 29; refine (HE.out _ (bt HB.out (alloc_below _ _).drew)).mono ?_; rintro e w4 ⟨rfl, rfl⟩)
          | fail)
        first | rw [show (A0 == B0) = false by simp [HAB.out]] | skip
        go_wp2_with fail
      · refine ⟨⟨1, by omega, rfl, fun _ => HAB.out, fun h => by omega, bt HB.out (alloc_below _ _).drew⟩, by simp [intOf]⟩
      · go_ret
        have h0 := HAB.out
        exact ⟨ret_bool (by simp [h0]), bt HB.out (alloc_below _ _).drew⟩
    · have HN1 := Lib.hid hn1
      have HN2 := Lib.hid hn2
      clear hn1 hn2 hbel hbc hn
      have hix := fun a b c d w => (index_file a b c d w).2
      by_cases hab : A1 = B1
      all_goals
        have HAB := Lib.hid hab
        have HE := Lib.hid (fun W hW => (HE1.out W hW))
        clear HE0 HE1
        go_wp2_with fail
        go_region_held3 (fun w' => w'.cell? ⟨wr.heap.size, 0, none⟩ = some (.slice a2 n2 k2) ∧ w'.cell? ⟨g2, 7, none⟩ = some (.slice b2 m2 j2)) (((try go_split_ands); first | assumption | (refine ⟨?_, ?_⟩ <;> first | assumption | go_keep) | go_keep)) (first
          | (go_at_call 29; refine (HE.out _ (bt HB.out (alloc_below _ _).drew)).mono ?_; rintro e w4 ⟨rfl, rfl⟩)
          | fail)
        first | rw [show (A1 == B1) = false by simp [HAB.out]] | skip
        go_wp2_with fail
      · refine ⟨⟨2, by omega, rfl, fun _ => HN1.out (by omega), fun _ => HAB.out, bt HB.out (alloc_below _ _).drew⟩, by simp [intOf]⟩
      · go_ret
        have h0 := HAB.out
        exact ⟨ret_bool (by simp [h0]), bt HB.out (alloc_below _ _).drew⟩
    · have HQ0 := Lib.hid (hn1 (by omega))
      have HQ1 := Lib.hid (hn2 (by omega))
      clear hn1 hn2 hbel hbc
      go_wp2_with fail
      go_ret
      exact ⟨ret_bool (by rw [HQ0.out, HQ1.out]; simp), HB.out⟩
end Go.Proofs.Ytdbbghmldaekhaa
