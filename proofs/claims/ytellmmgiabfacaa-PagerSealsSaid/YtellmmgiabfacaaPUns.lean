/-
  Of pager: Unseal.
-/
import Derived.Test.YtellmmgiabfacaaPSeal
import Derived.Test.YtellmmgiabfacaaEOps2
import Derived.Test.YtellmmgiabfacaaDSame
namespace Go.Proofs.Ytellmmgiabfacaa
open Go.ChangeShapes Go.WideShapes Go.ChangeAt Go.RowKit Go.Deep
set_option linter.unusedVariables false

/-- What bytes are as a block: data, or why they are none. -/
def unsealV (b : List UInt8) : List UInt8 × Int :=
  if b.length ≠ 4096 then ([], 1) else if 4090 < leN (b.take 2) then ([], 50) else if sealB ((b.drop 2).take (leN (b.take 2))) = b then ((b.drop 2).take (leN (b.take 2)), 0) else ([], 50)
theorem unsealV_len (b : List UInt8) : (unsealV b).1.length ≤ 4090 := by
  unfold unsealV
  split
  · simp
  · split
    · simp
    · split
      · simp; omega
      · simp
/-- As RRead, and the capacity is told. -/
def RReadK (x : List UInt8 × Int) (w : World) (e : Ending) (w' : World) : Prop := ∃ a n k, e = .returned (.tuple #[.slice a n k, .int .i64 x.2]) ∧ n = x.1.length ∧ n ≤ k ∧ OwnB w' w.heap.size (.slice a n k) x.1 ∧ Below w.heap.size w w'
theorem RReadK.plain {x : List UInt8 × Int} {w : World} {e : Ending} {w' : World} (h : RReadK x w e w') : RRead x w e w' := by
  obtain ⟨a, n, k, h1, h2, -, h3, h4⟩ := h
  subst h2
  exact ⟨a, _, k, h1, rfl, h3.brd, h4⟩
set_option maxHeartbeats 3200000 in
set_option maxRecDepth 100000 in
theorem unsealK_any (A : Option Addr) (c n : Nat) (b : List UInt8) (w : World) (hA : BRd w A b) (hn : n = b.length) (hc : n ≤ c) : Calls Try.prog 17 #[.slice A n c] w (RReadK (unsealV b) w) := by
  unfold unsealV
  by_cases h4 : b.length = 4096
  · rw [if_neg (by omega)]
    obtain ⟨g, o, rfl, hg, hcs⟩ := hA (by omega)
    obtain rfl : n = 4096 := by omega
    have hc2 : 2 ≤ c := by omega
    have h2l : (b.take 2).length = 2 := by rw [List.length_take]; omega
    have HNU := Lib.hid (number_any (some ⟨g, o, none⟩) c 2 (b.take 2) w (brd_take' hA 2) h2l.symm (by omega))
    have hlt := leN_lt (b.take 2)
    rw [h2l] at hlt
    obtain ⟨N, hN⟩ : ∃ N, N = leN (b.take 2) := ⟨_, rfl⟩
    rw [← hN] at HNU hlt ⊢
    have hN6 : (N : Int) ≤ 65535 := by have : (256 : Nat) ^ 2 = 65536 := by decide
                                       omega
    have HA := Lib.hid hA
    have H4 := Lib.hid h4
    clear hcs hA hn h2l hlt hN h4
    by_cases hbig : 4090 < N
    · rw [if_pos hbig]
      have hbI : (4090 : Int) < (N : Int) := by omega
      clear hbig
      go_enter Try.func17, Try.ntmps17
      go_wp2_with fail
      refine HNU.out.mono ?_
      rintro e w' ⟨rfl, rfl⟩
      go_wp2_with fail
      go_ret2
      exact ⟨none, 0, 0, rfl, rfl, Nat.le_refl _, OwnB.nil _ _, Below.refl _ _⟩
    · rw [if_neg hbig]
      have hbI : ¬ (4090 : Int) < (N : Int) := by omega
      have hNc : 2 + N ≤ c := by omega
      obtain ⟨M, hM⟩ : ∃ M, M = 2 + N := ⟨_, rfl⟩
      have hNI : (2 : Int) + (N : Int) = (M : Int) := by omega
      have hMI : (M : Int) ≤ 4092 := by omega
      have hMc : M ≤ c := by omega
      have hM2 : 2 ≤ M := by omega
      have hMN : M - 2 = N := by omega
      obtain ⟨d, hd⟩ : ∃ d, d = (b.drop 2).take N := ⟨_, rfl⟩
      have hdl : d.length = N := by rw [hd, List.length_take, List.length_drop]; have := H4.out; omega
      have HCL := Lib.hid (clone_any (some ⟨g, o + 2, none⟩) (c - 2) d w (by rw [hd]; exact HA.out.sub 2 N) (by omega))
      rw [hdl] at HCL
      rw [← hd]
      have HDL := Lib.hid hdl
      clear hd hdl
      have HBIG := Lib.hid hbig
      clear hbig hM
      obtain ⟨x, hx⟩ : ∃ x : List UInt8 × Int, x = (if sealB d = b then (d, 0) else ([], 50)) := ⟨_, rfl⟩
      rw [← hx]
      have HX := Lib.hid hx
      clear hx
      go_enter Try.func17, Try.ntmps17
      go_wp2_with fail
      refine HNU.out.mono ?_
      rintro e w' ⟨rfl, rfl⟩
      go_wp2_with fail
      refine HCL.out.mono ?_
      rintro e w1 ⟨v1, rfl, ho1, hb1⟩
      obtain ⟨a1, k1, rfl, hk1, -⟩ := ho1.slice
      have HK1 := Lib.hid hk1
      have HO1 := Lib.hid ho1
      have HB1 := Lib.hid hb1
      have HSE := Lib.hid (seal_any a1 k1 d w1 ho1.brd (by have := HDL.out; have := HBIG.out; omega))
      rw [HDL.out] at HSE ⊢
      clear ho1 hb1 HCL hk1
      go_wp2_with fail
      refine HSE.out.mono ?_
      rintro e w2 ⟨a2, k2, rfl, ho2, hb2⟩
      have hsl : (sealB d).length = 4096 := sealB_len d (by have := HDL.out; have := HBIG.out; omega)
      have ho2' : BRd w2 a2 (sealB d) := by
        have h := ho2
        rw [← hsl] at h
        exact OwnB.brd h
      have HB2 := Lib.hid (bt HB1.out hb2)
      have HO2 := Lib.hid (HO1.out.below hb2)
      have HE := Lib.hid (equal_at (w := w2) (W := w2) (c1 := k2) (c2 := c) ho2' (HA.out.below (bt HB1.out hb2)) hsl.symm H4.out.symm (Below.refl _ _))
      clear ho2 ho2' hsl hb2 HSE
      by_cases heq : sealB d = b
      · have HXE := Lib.hid (HX.out.trans (if_pos heq))
        rw [heq, beq_self_eq_true] at HE
        clear heq
        go_wp2_with fail
        refine HE.out.mono ?_
        rintro e w' ⟨rfl, rfl⟩
        go_wp2_with fail
        go_ret2
        rw [HXE.out]
        exact ⟨a1, N, k1, rfl, HDL.out.symm, by rw [← HDL.out]; exact HK1.out, by rw [← HDL.out]; exact HO2.out, HB2.out⟩
      · have HXE := Lib.hid (HX.out.trans (if_neg heq))
        rw [show (sealB d == b) = false by simpa using heq] at HE
        clear heq
        go_wp2_with fail
        refine HE.out.mono ?_
        rintro e w' ⟨rfl, rfl⟩
        go_wp2_with fail
        go_ret2
        rw [HXE.out]
        exact ⟨none, 0, 0, rfl, rfl, Nat.le_refl _, OwnB.nil _ _, HB2.out⟩
  · rw [if_pos h4]
    have h4I : ¬ (n : Int) = 4096 := by omega
    have h4N : ¬ n = 4096 := by omega
    clear hA hn h4
    go_enter Try.func17, Try.ntmps17
    go_wp2_with fail
    go_ret2
    exact ⟨none, 0, 0, rfl, rfl, Nat.le_refl _, OwnB.nil _ _, Below.refl _ _⟩
theorem unseal_any (A : Option Addr) (c n : Nat) (b : List UInt8) (w : World) (hA : BRd w A b) (hn : n = b.length) (hc : n ≤ c) : Calls Try.prog 17 #[.slice A n c] w (RRead (unsealV b) w) :=
  (unsealK_any A c n b w hA hn hc).mono fun _ _ h => h.plain
end Go.Proofs.Ytellmmgiabfacaa
