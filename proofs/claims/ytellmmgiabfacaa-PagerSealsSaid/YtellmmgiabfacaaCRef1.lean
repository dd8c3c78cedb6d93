/-
  Contracts of the document's answers: up, turned, Int.
-/
import Derived.Test.YtellmmgiabfacaaCInt
import Derived.Test.YtellmmgiabfacaaCMath3
namespace Go.Proofs.Ytellmmgiabfacaa
open Go.ChangeShapes Go.WideShapes Go.ChangeAt Go.RowKit
set_option linter.unusedVariables false

/-- New memory that holds these bytes. -/
def Fresh (l : List UInt8) (w : World) (e : Ending) (w' : World) : Prop := ∃ v', e = .returned v' ∧ OwnB w' w.heap.size v' l ∧ Below w.heap.size w w'
theorem OwnB.base {w : World} {B B' : Nat} {v : Value} {l : List UInt8} (h : OwnB w B v l) (hb : B' ≤ B) : OwnB w B' v l := by
  refine ⟨h.1, ?_⟩
  rcases h.2 with h2 | ⟨g, cap, cur, hv, hg, rest⟩
  · exact .inl h2
  · exact .inr ⟨g, cap, cur, hv, Nat.le_trans hb hg, rest⟩
theorem own_built (w : World) (z : Int) (c : UInt8) (hz : z = (c.toNat : Int)) : OwnB (w.alloc (.cells #[.int .u8 z] 5)) w.heap.size (.slice (some ⟨w.heap.size, 0, none⟩) 1 1) [c] := by
  subst hz
  exact ⟨rfl, .inr ⟨w.heap.size, 1, _, rfl, Nat.le_refl _, heap_alloc_new w _, Nat.le_refl _, by decide, rfl, rfl⟩⟩
theorem OwnB.apart {w : World} {B n cap : Nat} {a : Option Addr} {l : List UInt8} (h : OwnB w B (.slice a n cap) l) (v : Value) (hv : ∀ k, v.ownBlock = some k → w.heap.size ≤ k) : Apart a v := fun a' e hb => by
  subst e
  have := (World.ownsRow.lt h a'.block rfl).2
  have := hv _ hb
  omega

def sliceLen : Value → Nat
  | .slice _ n _ => n
  | _ => 0
theorem OwnB.len {w : World} {B : Nat} {v : Value} {l : List UInt8} (h : OwnB w B v l) : sliceLen v = l.length := by
  obtain ⟨a, cap, rfl, _, _⟩ := h.slice
  rfl
theorem leF_step (M j : Nat) (h : j < (leF M).length) : (leF M).take (j + 1) = (leF M).take j ++ [UInt8.ofNat (M / 256 ^ j % 256)] := by
  rw [List.take_succ_eq_append_getElem h]
  congr 2
  apply UInt8.toNat_inj.1
  rw [leF_get, UInt8.toNat_ofNat']
  have := Nat.mod_lt (M / 256 ^ j) (show 0 < 256 by decide)
  omega
theorem div_step (M j : Nat) : M / 256 ^ (j + 1) = M / 256 ^ j / 256 := by rw [Nat.pow_succ, Nat.div_div_eq_div_mul]
set_option maxHeartbeats 3200000 in
set_option maxRecDepth 100000 in
theorem up_any (n : Nat) (w : World) (hn : n < 9223372036854775808) :
    Calls Try.prog 106 #[.int .i64 n] w (Fresh (upF n) w) := by
  by_cases hs : n < 120
  · have HU := Lib.hid (up_small hs)
    have hz : (128 + (n : Int)) = ((UInt8.ofNat (128 + n)).toNat : Int) := by rw [UInt8.toNat_ofNat']; omega
    have HZ := Lib.hid hz
    clear hz
    go_enter Try.func106, Try.ntmps106
    go_wp2_with fail
    go_ret
    exact ⟨_, rfl, by rw [HU.out]; exact own_built w _ _ HZ.out, alloc_below _ _⟩
  · have HU := Lib.hid (up_big hs)
    obtain ⟨M, hM⟩ : ∃ M : Nat, n = M + 120 := ⟨n - 120, by omega⟩
    subst hM
    rw [Nat.add_sub_cancel] at HU
    have hM : M < 9223372036854775688 := by omega
    obtain ⟨L, hL⟩ : ∃ L, L = (leF M).length := ⟨_, rfl⟩
    obtain ⟨l1, l2, l3, l4⟩ := leF_facts M
    rw [← hL] at l1 l3 l4 HU
    have L8 : L ≤ 8 := by rw [hL]; exact leF_le (by decide) (by omega)
    have HL := Lib.hid hL
    have H3 := Lib.hid l3
    have H4 := Lib.hid l4
    clear hL l2 l3 l4
    rw [show (((M + 120 : Nat) : Int)) = (M : Int) + 120 by omega]
    have hd8 : decide ((M : Int) + 120 < 120) = false := by simp; omega
    go_enter Try.func106, Try.ntmps106
    go_wp2_with fail
    go_loopw [3, 4] (fun m low wr => ∃ j : Nat, j ≤ L ∧ m = .int .i64 ((M / 256 ^ j : Nat) : Int) ∧ OwnB wr w.heap.size low ((leF M).take j) ∧ Below w.heap.size w wr) (fun _ low _ => L - sliceLen low)
    case atStart => exact ⟨0, by omega, by simp, OwnB.nil _ _, Below.refl _ _⟩
    case round =>
      obtain ⟨j, hj, rfl, hown, hb⟩ := hrel
      obtain ⟨a, cap, rfl, hcap, hcn⟩ := hown.slice
      have hlen : ((leF M).take j).length = j := by rw [List.length_take, ← HL.out]; omega
      rw [hlen] at hown hcap
      simp only [hlen]
      have hO := Lib.hid hown
      have hB := Lib.hid hb
      have hBr : w.heap.size ≤ wr.heap.size := hb.size
      have hXM : M / 256 ^ j ≤ M := Nat.div_le_self _ _
      have hX1 : j < L → 0 < j → 0 < M / 256 ^ j := fun h1 h2 => by
        have h3 := H4.out (by omega)
        have h4 : 256 ^ j ≤ 256 ^ (L - 1) := Nat.pow_le_pow_right (by decide) (by omega)
        exact Nat.div_pos (by omega) (Nat.pow_pos (by decide))
      have hX0 : j = L → M / 256 ^ j = 0 := fun h1 => by rw [h1]; exact Nat.div_eq_of_lt H3.out
      have HST := Lib.hid (fun h => leF_step M j (by rw [← HL.out]; exact h))
      have HDV := Lib.hid (div_step M j)
      generalize M / 256 ^ j = X at *
      clear hown hb hlen
      by_cases hjL : j < L
      · have hgo : 0 < X ∨ (X = 0 ∧ j = 0) := by
          rcases Nat.eq_zero_or_pos j with h | h
          · omega
          · exact .inl (hX1 hjL h)
        clear hX1 hX0
        have HZ : Hid ((X : Int) % 256 = ((UInt8.ofNat (X % 256)).toNat : Int)) := by show _ = _; rw [UInt8.toNat_ofNat']; omega
        have hlim : ((leF M).take j).length + 1 ≤ 140737488355328 := by rw [List.length_take]; omega
        have HLIM := Lib.hid hlim
        clear hlim
        rcases hgo with h0 | ⟨h0, h1⟩
        · go_wp2_with (at_builtin; refine wpList_byte rfl _ _ rfl w.heap.size (.slice a j cap) _ _ HZ.out rfl rfl hO.out hBr HLIM.out ?_; intro v2 w2 hown2 hg2; refine Hid.out ?_)
          refine Lib.hid ?_
          rw [← HST.out hjL] at hown2
          have hO4 := Lib.hid hown2
          have hL4 := Lib.hid hown2.len
          have hB4 := Lib.hid (below_tr hB.out (hg2.below hO.out hBr))
          clear hown2 hg2
          go_wp2_with fail
          go_roundw
          case rel => exact ⟨j + 1, by omega, by rw [HDV.out]; go_num, hO4.out, hB4.out⟩
          case measure => rw [hL4.out, List.length_take, ← HL.out]; simp [sliceLen]; omega
        · subst h0 h1
          have e0 : ((0 : Nat) : Int) = 0 := rfl
          go_wp2_with (at_builtin; refine wpList_byte rfl _ _ rfl w.heap.size (.slice a 0 cap) _ _ HZ.out rfl rfl hO.out hBr HLIM.out ?_; intro v2 w2 hown2 hg2; refine Hid.out ?_)
          refine Lib.hid ?_
          rw [← HST.out hjL] at hown2
          have hO4 := Lib.hid hown2
          have hL4 := Lib.hid hown2.len
          have hB4 := Lib.hid (below_tr hB.out (hg2.below hO.out hBr))
          clear hown2 hg2
          go_wp2_with fail
          go_roundw
          case rel => exact ⟨0 + 1, by omega, by rw [HDV.out]; rfl, hO4.out, hB4.out⟩
          case measure => rw [hL4.out, List.length_take, ← HL.out]; simp [sliceLen]; omega
      · obtain rfl : j = L := by omega
        obtain rfl : X = 0 := hX0 rfl
        rw [show ((0 : Nat) : Int) = 0 from rfl]
        have e1 : ((j : Int) == 0) = false := by simp; omega
        clear hX0 hX1 HST HDV
        have hA0 := Lib.hid ((show OwnB wr w.heap.size (.slice a (leF M).length cap) (leF M) by
          have h := hO.out
          rw [List.take_of_length_le (by rw [← HL.out]; exact Nat.le_refl _), HL.out] at h
          exact h))
        have hZC : Hid ((247 + (j : Int)) = ((UInt8.ofNat (247 + j)).toNat : Int)) := by show _ = _; rw [UInt8.toNat_ofNat']; omega
        have hOB := Lib.hid (own_built wr _ _ hZC.out)
        rename World => WR
        go_wp2_with fail
        go_loopw [5, 6] (fun b idx wr => ∃ (t : Nat) (q : Int), t ≤ j ∧ q + t + 1 = j ∧ idx = .int .i64 q ∧ OwnB wr WR.heap.size b (UInt8.ofNat (247 + j) :: (leF M).reverse.take t) ∧ Grw (WR.alloc (.cells #[.int .u8 (247 + (j : Int))] 5)) wr (.slice (some ⟨WR.heap.size, 0, none⟩) 1 1) b) (fun _ idx _ => (intOf idx + 1).toNat)
        case atStart => exact ⟨0, (j : Int) - 1, by omega, by omega, rfl, hOB.out, Grw.refl _ _⟩
        case round =>
          obtain ⟨t, q, ht, hq, rfl, hown2, hg2⟩ := hrel
          have hQ := Lib.hid hq
          have hO2 := Lib.hid hown2
          have hG2 := Lib.hid hg2
          clear hown2 hg2
          have hBr2 : WR.heap.size ≤ wr.heap.size := Nat.le_trans (by simp) hG2.out.by_.size
          by_cases htj : t < j
          · obtain ⟨i, rfl⟩ : ∃ i : Nat, q = i := ⟨q.toNat, by omega⟩
            have hi : i < (leF M).length := by rw [← HL.out]; omega
            have hrd : BRd wr a (leF M) := (hA0.out.brd.alloc _).grw hG2.out (hA0.out.apart _ fun k hk => by simp [Value.ownBlock] at hk; omega)
            obtain ⟨g, off, rfl, hgl, hc⟩ := hrd (by omega)
            have c0 := hc i hi
            have HST : Hid ((leF M).reverse.take (t + 1) = (leF M).reverse.take t ++ [(leF M)[i]]) := by
              show _ = _
              rw [List.take_succ_eq_append_getElem (by rw [List.length_reverse, ← HL.out]; omega), List.getElem_reverse]
              congr 3
              have := HL.out
              omega
            have x0 : (0 : Int) ≤ (i : Int) := by omega
            have x1 : (i : Int) < (j : Int) := by omega
            clear hrd hc hq
            have hLN : Hid ((UInt8.ofNat (247 + j) :: (leF M).reverse.take t).length + 1 ≤ 140737488355328) := by show _ ≤ _; rw [List.length_cons, List.length_take]; omega
            generalize (leF M)[i] = ch at *
            go_wp2_with (at_builtin; refine wpList_byte rfl _ _ rfl WR.heap.size u5 _ ch rfl rfl rfl hO2.out hBr2 hLN.out ?_; intro v2 w2 hown2 hg2; refine Hid.out ?_)
            refine Lib.hid ?_
            have hO4 : Hid (OwnB w2 WR.heap.size v2 (UInt8.ofNat (247 + j) :: (leF M).reverse.take (t + 1))) := by
              show OwnB _ _ _ _
              rw [HST.out]
              exact hown2
            have hG4 := Lib.hid (Grw.trans hG2.out hg2)
            clear hown2 hg2
            go_wp2_with fail
            go_roundw
            case rel => exact ⟨t + 1, (i : Int) - 1, by omega, by have := hQ.out; omega, rfl, hO4.out, hG4.out⟩
            case measure => simp [intOf]
          · obtain rfl : t = j := by omega
            obtain rfl : q = -1 := by omega
            clear hq
            go_wp2_with fail
            go_ret
            refine ⟨_, rfl, ?_, below_tr (hB.out.alloc hBr _) (hG2.out.below (hOB.out.base hBr) (by simp; omega))⟩
            rw [HU.out]
            have h := hO2.out
            rw [List.take_of_length_le (by rw [List.length_reverse, ← HL.out]; exact Nat.le_refl _)] at h
            exact h.base hBr
theorem OwnB.mono {w w' : World} {B : Nat} {v : Value} {l : List UInt8} (h : OwnB w B v l) (hb : Below w.heap.size w w') : OwnB w' B v l := h.below hb

theorem turn_take (l : List UInt8) (k : Nat) (h : k < l.length) : turnL (l.take (k + 1)) = turnL (l.take k) ++ [turnB l[k]] := by
  rw [List.take_succ_eq_append_getElem h, turn_app]
  rfl
set_option maxHeartbeats 1600000 in
set_option maxRecDepth 100000 in
theorem turned_any (A : Option Addr) (c : Nat) (l : List UInt8) (w : World) (hA : BRd w A l) (hl : l.length ≤ 140737488355328) :
    Calls Try.prog 105 #[.slice A l.length c] w (Fresh (turnL l) w) := by
  have HA := Lib.hid hA
  clear hA
  go_enter Try.func105, Try.ntmps105
  go_wp2_with fail
  go_loopw [3, 4] (fun s idx wr => ∃ k : Nat, k ≤ l.length ∧ idx = .int .i64 k ∧ OwnB wr w.heap.size s (turnL (l.take k)) ∧ Below w.heap.size w wr) (fun _ idx _ => l.length - (intOf idx).toNat)
  case atStart => exact ⟨0, by omega, rfl, OwnB.nil _ _, Below.refl _ _⟩
  case round =>
    obtain ⟨k, hk, rfl, hown2, hb2⟩ := hrel
    have hO2 := Lib.hid hown2
    have hB2 := Lib.hid hb2
    have hBr : w.heap.size ≤ wr.heap.size := hb2.size
    clear hown2 hb2
    by_cases hik : k < l.length
    · obtain ⟨g, off, rfl, hgl, hc⟩ := (HA.out.below hB2.out) (by omega)
      have c0 := hc k hik
      clear hc
      have HT := Lib.hid (turn_take l k hik)
      have hcl := l[k].toNat_lt
      have HZ : Hid (255 - (l[k].toNat : Int) = ((turnB l[k]).toNat : Int)) := by show _ = _; rw [turnB_nat]; omega
      have HLN : Hid ((turnL (l.take k)).length + 1 ≤ 140737488355328) := by show _ ≤ _; rw [turn_len, List.length_take]; omega
      have x0 : (0 : Int) ≤ (k : Int) := by omega
      have x1 : (k : Int) < (l.length : Int) := by omega
      have x2 : 0 < l.length := by omega
      have x3 : (l[k].toNat : Int) ≤ 255 := by omega
      have x4 : 0 ≤ (l[k].toNat : Int) := by omega
      generalize l[k] = ch at *
      generalize (ch.toNat : Int) = ci at *
      go_wp2_with (at_builtin; go_loud (refine wpList_byte rfl _ _ rfl w.heap.size u3 _ _ HZ.out rfl rfl hO2.out hBr HLN.out ?_); intro v2 w2 hown2 hg2; refine Hid.out ?_)
      refine Lib.hid ?_
      rw [← HT.out] at hown2
      have hO4 := Lib.hid hown2
      have hB4 := Lib.hid (below_tr hB2.out (hg2.below hO2.out hBr))
      clear hown2 hg2
      go_wp2_with fail
      go_roundw
      case rel => exact ⟨k + 1, by omega, by go_num, hO4.out, hB4.out⟩
      case measure => simp [intOf]; omega
    · obtain rfl : k = l.length := by omega
      have hikI : ¬ ((l.length : Int) < (l.length : Int)) := by omega
      rw [List.take_length] at hO2
      go_wp2_with fail
      go_ret
      exact ⟨_, rfl, hO2.out, hB2.out⟩

set_option maxHeartbeats 1600000 in
theorem refInt_any (n : Int) (w : World) (hn : In8 n) :
    Calls Try.prog 63 #[.int .i64 n] w (Fresh (encI n) w) := by
  unfold In8 at hn
  by_cases h0 : n < 0
  · have HE : Hid (encI n = turnL (upF (-(n + 1)).toNat)) := if_pos h0
    have HU : Hid (∀ W, Calls Try.prog 106 #[.int .i64 (-(n + 1))] W (Fresh (upF (-(n + 1)).toNat) W)) := by
      show ∀ W, _
      intro W
      have := up_any (-(n + 1)).toNat W (by omega)
      rwa [show (((-(n + 1)).toNat : Nat) : Int) = -(n + 1) by omega] at this
    have hl9 : (upF (-(n + 1)).toNat).length ≤ 140737488355328 := by
      by_cases h : (-(n + 1)).toNat < 120
      · rw [up_small h]; simp
      · rw [up_big h, List.length_cons, List.length_reverse]
        have := up_len8 (n := (-(n + 1)).toNat) (by omega)
        omega
    have HL9 := Lib.hid hl9
    clear hl9
    go_enter Try.func63, Try.ntmps63
    go_wp2_with fail
    refine (HU.out _).mono ?_
    rintro e w1 ⟨v1, rfl, hown1, hb1⟩
    obtain ⟨a, cap, rfl, hcap, hcn⟩ := hown1.slice
    have HR := Lib.hid hown1.brd
    have HB := Lib.hid hb1
    have hBr : w.heap.size ≤ w1.heap.size := hb1.size
    clear hown1 hb1
    go_wp2_with fail
    refine (turned_any _ _ _ _ HR.out HL9.out).mono ?_
    rintro e w2 ⟨v2, rfl, hown2, hb2⟩
    have HO2 := Lib.hid hown2
    have HB2 := Lib.hid hb2
    clear hown2 hb2
    go_wp2_with fail
    go_ret
    exact ⟨_, rfl, by rw [HE.out]; exact HO2.out.base hBr, bt HB.out HB2.out⟩
  · have HE : Hid (encI n = upF n.toNat) := if_neg h0
    have HU : Hid (∀ W, Calls Try.prog 106 #[.int .i64 n] W (Fresh (upF n.toNat) W)) := by
      show ∀ W, _
      intro W
      have := up_any n.toNat W (by omega)
      rwa [show ((n.toNat : Nat) : Int) = n by omega] at this
    go_enter Try.func63, Try.ntmps63
    go_wp2_with fail
    refine (HU.out _).mono ?_
    rintro e w1 ⟨v1, rfl, hown1, hb1⟩
    have HO := Lib.hid hown1
    have HB := Lib.hid hb1
    clear hown1 hb1
    go_wp2_with fail
    go_ret
    exact ⟨_, rfl, by rw [HE.out]; exact HO.out, HB.out⟩
end Go.Proofs.Ytellmmgiabfacaa
