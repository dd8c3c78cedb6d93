/-
  Contract of codec.Reader.Flag.
-/
import Derived.Test.YtdjppchcnbfcoaaCRdr2
namespace Go.Proofs.Ytdjppchcnbfcoaa
open Go.ChangeShapes Go.WideShapes Go.ChangeAt Go.RowKit
set_option linter.unusedVariables false

/-- The flag that bytes begin with, how many it has, and the error. -/
def rdF (l : List UInt8) : Bool × Nat × Int := if (rdI l).2.2 = 0 then (if (rdI l).1 = 0 ∨ (rdI l).1 = 1 then (decide ((rdI l).1 = 1), (rdI l).2.1, 0) else (false, 0, 31)) else (false, 0, (rdI l).2.2)
def RFPost (g q : Nat) (l : List UInt8) (w : World) (e : Ending) (w' : World) : Prop := e = .returned (.tuple #[.bool (rdF l).1, .int .i64 (rdF l).2.2]) ∧ RdS w' g q (l.drop (rdF l).2.1) ∧ RGr w w' g
theorem RFPost.mk {g q : Nat} {l : List UInt8} {w w' : World} {e : Ending} {b b' : Bool} {k : Nat} {er er' : Int} (h : rdF l = (b, k, er)) (hb : b' = b) (her : er' = er) (he : e = .returned (.tuple #[.bool b', .int .i64 er'])) (h1 : RdS w' g q (l.drop k)) (h2 : RGr w w' g) : RFPost g q l w e w' := by
  unfold RFPost
  rw [h]
  subst hb her
  exact ⟨he, h1, h2⟩

set_option maxHeartbeats 3200000 in
theorem rFlag_any (w : World) (g q : Nat) (l : List UInt8) (h : RdS w g q l) (hl : l.length ≤ 140737488355328) :
    Calls Try.prog 45 #[.pointer (some ⟨g, 0, none⟩)] w (RFPost g q l w) := by
  have HM := Lib.hid (isMade_any w g q l h)
  have HS := Lib.hid h
  obtain ⟨A, cap, h1, h2, h3, hn, h4⟩ := h
  have HT := Lib.hid (takeInt_any A cap l w h2 hl h3)
  obtain ⟨c0, c1, f0, f1⟩ := box_cell h1
  unfold TakeI at HT
  have HF : Hid (rdF l = if (rdI l).2.2 = 0 then (if (rdI l).1 = 0 ∨ (rdI l).1 = 1 then (decide ((rdI l).1 = 1), (rdI l).2.1, 0) else (false, 0, 31)) else (false, 0, (rdI l).2.2)) := rfl
  rcases hr : rdI l with ⟨n, k, er⟩
  have hk := rdI_len hr
  rw [hr] at HT HF
  simp only at HT HF
  clear hr
  have H1 := Lib.hid h1
  have H2 := Lib.hid h2
  by_cases he : er = 0
  · subst he
    simp only [if_true] at HF
    by_cases hn01 : n = 0 ∨ n = 1
    · rw [if_pos hn01] at HF
      cases A with
      | none =>
        obtain rfl := hn rfl
        have hl0 : l = [] := List.length_eq_zero_iff.1 (by omega)
        subst hl0
        obtain rfl : k = 0 := by simpa using hk
        clear h1 h2 h3 h4 hn hk
        rcases hn01 with rfl | rfl
        all_goals
          go_enter Try.func45, Try.ntmps45
          go_wp2_with (first | (go_at_call 48; refine HM.out.mono ?_; rintro e w' ⟨rfl, rfl⟩) | (go_at_call 63; refine HT.out.mono ?_; rintro e w' ⟨rfl, rfl⟩))
          go_ret2
          exact RFPost.mk HF.out rfl rfl rfl (RdS.moved0 H1.out) (RGr.set _)
      | some a =>
        obtain ⟨ha, hq, hqs⟩ := h4 a rfl
        obtain ⟨qb, off, sp⟩ := a
        simp only [Addr.mk.injEq] at ha
        obtain ⟨rfl, -, rfl⟩ := ha
        have HQ := Lib.hid hq
        have HH3 := Lib.hid h3
        have HKL := Lib.hid hk
        have hkI : (k : Int) ≤ (l.length : Int) := by omega
        have hkc : (k : Int) ≤ (cap : Int) := by omega
        have hlc : (l.length : Int) ≤ (cap : Int) := by omega
        by_cases hck : cap = k
        · obtain rfl : k = cap := hck.symm
          have hlk : l.length = k := by omega
          have HLK := Lib.hid hlk
          clear h1 h2 h3 h4 hn hk hq hlk
          rcases hn01 with rfl | rfl
          all_goals
            go_enter Try.func45, Try.ntmps45
            go_wp2_with (first | (go_at_call 48; refine HM.out.mono ?_; rintro e w' ⟨rfl, rfl⟩) | (go_at_call 63; refine HT.out.mono ?_; rintro e w' ⟨rfl, rfl⟩))
            go_ret2
            exact RFPost.mk HF.out rfl rfl rfl (RdS.moved _ H1.out H2.out HH3.out HKL.out HQ.out hqs _ _ (by omega) (by omega) (.inr ⟨rfl, rfl⟩)).1 (RGr.set _)
        · clear h1 h2 h3 h4 hn hk hq
          rcases hn01 with rfl | rfl
          all_goals
            go_enter Try.func45, Try.ntmps45
            go_wp2_with (first | (go_at_call 48; refine HM.out.mono ?_; rintro e w' ⟨rfl, rfl⟩) | (go_at_call 63; refine HT.out.mono ?_; rintro e w' ⟨rfl, rfl⟩))
            go_ret2
            exact RFPost.mk HF.out rfl rfl rfl (RdS.moved _ H1.out H2.out HH3.out HKL.out HQ.out hqs _ _ rfl rfl (.inl rfl)).1 (RGr.set _)
    · rw [if_neg hn01] at HF
      have e0 : (n == 0) = false := by simp; omega
      have e1 : (n == 1) = false := by simp; omega
      have e2 : (n != 0) = true := by simp; omega
      have e3 : (n != 1) = true := by simp; omega
      clear h1 h2 h3 h4 hn hk hn01
      go_enter Try.func45, Try.ntmps45
      go_wp2_with (first | (go_at_call 48; refine HM.out.mono ?_; rintro e w' ⟨rfl, rfl⟩) | (go_at_call 63; refine HT.out.mono ?_; rintro e w' ⟨rfl, rfl⟩))
      go_ret2
      exact RFPost.mk HF.out rfl rfl rfl HS.out (RGr.of_below (Below.refl _ _))
  · rw [if_neg he] at HF
    have e0 : (er == 0) = false := by simp; omega
    have e2 : (er != 0) = true := by simp; omega
    clear h1 h2 h3 h4 hn hk he
    go_enter Try.func45, Try.ntmps45
    go_wp2_with (first | (go_at_call 48; refine HM.out.mono ?_; rintro e w' ⟨rfl, rfl⟩) | (go_at_call 63; refine HT.out.mono ?_; rintro e w' ⟨rfl, rfl⟩))
    go_ret2
    exact RFPost.mk HF.out rfl rfl rfl HS.out (RGr.of_below (Below.refl _ _))
end Go.Proofs.Ytdjppchcnbfcoaa
