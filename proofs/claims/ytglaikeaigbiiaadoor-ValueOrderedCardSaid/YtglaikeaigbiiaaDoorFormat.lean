/-
  Contracts of the written whole numbers and days: FormatInt, FormatDay, and the document's FormatInt, FormatDec, FormatDay.
-/
import Derived.Test.YtglaikeaigbiiaaDoorPlain
import Derived.Test.YtglaikeaigbiiaaDoorDay
namespace Go.Proofs.YtglaikeaigbiiaaDoor
open Go.ChangeShapes Go.WideShapes Go.ChangeAt Go.RowKit Go.Sort
open Cal
set_option linter.unusedVariables false

theorem formatInt_any (n : Int) (h : In64 n) (w : World) (htab : PowLaid w) :
    Calls Tryd.prog 40 #[.int .i64 n] w fun e w' => e = .returned (.string ⟨(Lib.itoa n).toArray⟩) ∧ Below w.heap.size w w' := by
  have H : Calls Tryd.prog 53 #[.int .i64 n, .int .i64 10] w fun e w' => e = .returned (.string ⟨(Lib.itoa n).toArray⟩) ∧ Below w.heap.size w w' :=
    (Tryd.strconv_FormatInt_10 n h.1 h.2 w htab).mono fun e w' ⟨he, k, os, hw⟩ => ⟨he, by rw [hw]; exact Lib.below_grow w.heap.size w (Nat.le_refl _) k os⟩
  have HH := Lib.hid H
  clear H
  go_enter Tryd.func40, Tryd.ntmps40
  go_wp2_with (go_at_call 53; refine HH.out.mono ?_; rintro e w' ⟨rfl, hb⟩)
  go_ret
  exact ⟨rfl, hb⟩

theorem padL_one (u : Nat) (hu : u < 18446744073709551616) : padL u 1 = Lib.decDigits u := by
  have := digits_len u hu
  unfold padL
  rw [show 1 - (Lib.decDigits u).length = 0 by omega]; rfl
theorem ret_bytes {a b : ByteArray} (h : a = b) : Ending.returned (.string a) = .returned (.string b) := by rw [h]

/-- A day as a text: year, month and day. -/
def dayL (y m d : Nat) : List UInt8 := padL y 4 ++ [45] ++ padL m 2 ++ [45] ++ padL d 2
def FDayPost (n : Int) (w : World) (e : Ending) (w' : World) : Prop :=
  ∃ y m d : Nat, e = .returned (.tuple #[.string ⟨(dayL y m d).toArray⟩, .int .i64 0]) ∧ vld y m d ∧ dayNum y m d = n ∧ Below w.heap.size w w'
theorem day_bytes (Y M D : List UInt8) : (⟨Y.toArray⟩ : ByteArray) ++ ⟨#[45]⟩ ++ ⟨M.toArray⟩ ++ ⟨#[45]⟩ ++ ⟨D.toArray⟩ = ⟨(Y ++ [45] ++ M ++ [45] ++ D).toArray⟩ := by
  apply ByteArray.ext; simp

theorem formatDay_no (n : Int) (w : World) (hn : n < -719162 ∨ 2932896 < n) :
    Calls Tryd.prog 56 #[.int .i64 n] w fun e w' => e = .returned (.tuple #[.string ⟨#[]⟩, .int .i64 13]) ∧ w = w' := by
  go_enter Tryd.func56, Tryd.ntmps56
  go_wp2_with (go_at_call 72; refine (civil_no _ _ hn).mono ?_; rintro e w' ⟨rfl, rfl⟩)
  go_ret2
  exact ⟨rfl, rfl⟩
set_option maxHeartbeats 1600000 in
theorem formatDay_yes (n : Int) (w : World) (hM : MLaid w) (hP : PowLaid w) (h1 : -719162 ≤ n) (h2 : n ≤ 2932896) :
    Calls Tryd.prog 56 #[.int .i64 n] w (FDayPost n w) := by
  go_enter Tryd.func56, Tryd.ntmps56
  go_wp2_with fail
  refine (civil_yes _ _ hM h1 h2).mono ?_
  rintro e w' ⟨y, m, d, rfl, hv1, hn1, rfl⟩
  have hmb := mlen_bd y m
  obtain ⟨a1, a2, a3, a4, a5, a6⟩ := id hv1
  obtain ⟨yn, rfl⟩ : ∃ yn : Nat, y = yn := ⟨y.toNat, by omega⟩
  obtain ⟨mn, rfl⟩ : ∃ mn : Nat, m = mn := ⟨m.toNat, by omega⟩
  obtain ⟨dn, rfl⟩ : ∃ dn : Nat, d = dn := ⟨d.toNat, by omega⟩
  have hL1 := padL_len yn 4 (by omega) (by omega) (by omega)
  have hL2 := padL_len mn 2 (by omega) (by omega) (by omega)
  have hL3 := padL_len dn 2 (by omega) (by omega) (by omega)
  have HV1 := Lib.hid hv1
  have HN1 := Lib.hid hn1
  clear hv1 hn1
  go_wp2_with fail
  refine (padded_any yn 4 (by omega) (by omega) _ hP).mono ?_
  rintro e w1 ⟨rfl, hb1⟩
  go_wp2_with fail
  refine (padded_any mn 2 (by omega) (by omega) _ (hP.below hb1)).mono ?_
  rintro e w2 ⟨rfl, hb2⟩
  go_wp2_with fail
  refine (padded_any dn 2 (by omega) (by omega) _ ((hP.below hb1).below hb2)).mono ?_
  rintro e w3 ⟨rfl, hb3⟩
  go_wp2
  go_ret2
  have hb12 := hb1.trans (hb2.mono hb1.size)
  exact ⟨yn, mn, dn, ret_bytesE (day_bytes _ _ _), HV1.out, HN1.out, hb12.trans (hb3.mono hb12.size)⟩

end Go.Proofs.YtglaikeaigbiiaaDoor
