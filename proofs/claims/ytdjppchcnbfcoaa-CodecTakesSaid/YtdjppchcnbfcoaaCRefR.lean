/-
  Contracts of the document's Reader.
-/
import Derived.Test.YtdjppchcnbfcoaaCRef3
import Derived.Test.YtdjppchcnbfcoaaCRdr3
import Derived.Test.YtdjppchcnbfcoaaCRef2
namespace Go.Proofs.Ytdjppchcnbfcoaa
open Go.ChangeShapes Go.WideShapes Go.ChangeAt Go.RowKit
set_option linter.unusedVariables false

/-- The document's reader, in the block g; its bytes, where there are any, lie in the block q. -/
def RefS (w : World) (g q : Nat) (l : List UInt8) : Prop := ∃ A cap, w.heap[g]? = some (.cells #[.slice A l.length cap] 39 (0, 0)) ∧ BRd w A l ∧ l.length ≤ cap ∧ (A = none → cap = 0) ∧ (0 < l.length → ∀ a, A = some a → a = ⟨q, a.off, none⟩ ∧ q ≠ g ∧ q < w.heap.size)
theorem box1 {w : World} {g : Nat} {a0 : Value} {t : TypeId} (h : w.heap[g]? = some (.cells #[a0] t (0, 0))) : w.cell? ⟨g, 0, none⟩ = some a0 ∧ w.frozen? ⟨g, 0, none⟩ = false := by
  refine ⟨?_, ?_⟩
  · rw [cell_of_row w g _ _ t (0, 0) h]; rfl
  · simp [World.frozen?, h]
theorem box1_set {w : World} {g : Nat} {a0 b : Value} {t : TypeId} (h : w.heap[g]? = some (.cells #[a0] t (0, 0))) : (w.setCell ⟨g, 0, none⟩ b).heap[g]? = some (.cells #[b] t (0, 0)) := by
  simp only [World.setCell, Array.getElem?_modify, if_pos, h, Option.map_some]
  rfl
theorem RGr.set0 {w : World} {g : Nat} (v : Value) : RGr w (w.setCell ⟨g, 0, none⟩ v) g := ⟨rfl, rfl, rfl, by simp [World.setCell], fun k hk hg => Below.heap_setCell _ _ _ _ hg⟩
theorem RefS.below {w w' : World} {g q : Nat} {l : List UInt8} (h : RefS w g q l) (hb : Below w.heap.size w w') : RefS w' g q l := by
  obtain ⟨A, cap, h1, h2, h3, hn, h4⟩ := h
  have hg : g < w.heap.size := (Array.getElem?_eq_some_iff.1 h1).1
  exact ⟨A, cap, (hb.block g hg).trans h1, h2.below hb, h3, hn, fun h0 a e => ⟨(h4 h0 a e).1, (h4 h0 a e).2.1, Nat.lt_of_lt_of_le (h4 h0 a e).2.2 hb.size⟩⟩
theorem RefS.nil {w : World} {g q cap : Nat} {A A' : Option Addr} (h1 : w.heap[g]? = some (.cells #[.slice A 0 cap] 39 (0, 0))) (hn : A' = none → cap = 0) : RefS (w.setCell ⟨g, 0, none⟩ (.slice A' 0 cap)) g q (([] : List UInt8).drop 0) :=
  ⟨A', cap, box1_set h1, BRd.nil _ _, Nat.zero_le _, hn, fun h0 => by simp at h0⟩
theorem RefS.moved {w : World} {g q k cap off : Nat} {l : List UInt8} (A' : Option Addr) (h1 : w.heap[g]? = some (.cells #[.slice (some ⟨q, off, none⟩) l.length cap] 39 (0, 0))) (h2 : BRd w (some ⟨q, off, none⟩) l) (h3 : l.length ≤ cap) (hk : k ≤ l.length) (hq : q ≠ g) (hqs : q < w.heap.size) (n' c' : Nat) (hn : n' = l.length - k) (hc : c' = cap - k)
    (hA : A' = some ⟨q, off + k, none⟩ ∨ (cap = k ∧ A' = some ⟨q, off, none⟩)) : RefS (w.setCell ⟨g, 0, none⟩ (.slice A' n' c')) g q (l.drop k) := by
  subst hn hc
  refine ⟨A', cap - k, ?_, ?_, ?_, ?_, ?_⟩
  · rw [List.length_drop]; exact box1_set h1
  · intro hn0
    rw [List.length_drop] at hn0
    obtain ⟨q', off', e, hg, hc⟩ := h2 (by omega)
    obtain ⟨rfl, rfl⟩ : q = q' ∧ off = off' := by simpa using e
    have hA2 : A' = some ⟨q, off + k, none⟩ := by
      rcases hA with h | ⟨h, _⟩
      · exact h
      · omega
    refine ⟨q, off + k, hA2, by simpa [World.setCell] using hg, fun i hi => ?_⟩
    rw [List.length_drop] at hi
    rw [World.cell?_of_block (w := w) (a := ⟨q, off + k + i, none⟩) (Below.heap_setCell _ _ _ _ hq), Nat.add_assoc, hc (k + i) (by omega)]
    simp
  · rw [List.length_drop]; omega
  · rcases hA with h | ⟨_, h⟩ <;> (rw [h]; intro e; cases e)
  · intro _ a e
    rcases hA with h | ⟨_, h⟩ <;> (rw [h] at e; obtain rfl := Option.some.inj e; exact ⟨rfl, hq, by simpa [World.setCell] using hqs⟩)

set_option maxHeartbeats 3200000 in
theorem refRInt_any (w : World) (g q : Nat) (l : List UInt8) (h : RefS w g q l) (hl : l.length ≤ 140737488355328) :
    Calls Try.prog 21 #[.pointer (some ⟨g, 0, none⟩)] w fun e w' => e = .returned (.tuple #[.int .i64 (rdI l).1, .int .i64 (rdI l).2.2]) ∧ RefS w' g q (l.drop (rdI l).2.1) ∧ RGr w w' g := by
  obtain ⟨A, cap, h1, h2, h3, hn, h4⟩ := h
  have HT := Lib.hid (refParse_any A cap l w h2 hl)
  obtain ⟨c0, f0⟩ := box1 h1
  have hgl : g < w.heap.size := (Array.getElem?_eq_some_iff.1 h1).1
  unfold TakeI2 at HT
  rcases hr : rdI l with ⟨n, k, er⟩
  have hk := rdI_len hr
  rw [hr] at HT
  simp only at HT
  simp only
  clear hr
  have H1 := Lib.hid h1
  have H2 := Lib.hid h2
  have HN := Lib.hid hn
  rcases Nat.eq_zero_or_pos l.length with hz | hz
  · have hl0 : l = [] := List.length_eq_zero_iff.1 hz
    subst hl0
    obtain rfl : k = 0 := by simpa using hk
    clear h1 h2 h3 h4 hn hk hz
    cases A with
    | none =>
      obtain rfl := HN.out rfl
      go_enter Try.func21, Try.ntmps21
      go_wp2_with fail
      refine HT.out.mono ?_
      rintro e w1 ⟨rfl, hb⟩
      have HB := Lib.hid hb
      have B1 := Lib.hid ((hb.block g hgl).trans H1.out)
      have HQS := Lib.hid hb.size
      obtain ⟨d0, e0⟩ := box1 B1.out
      clear hb c0 f0
      go_wp2_with fail
      go_ret2
      exact ⟨rfl, RefS.nil B1.out (fun _ => rfl), (RGr.of_below HB.out).trans (RGr.set0 _)⟩
    | some a =>
      have ha0 : a.add 0 = a := if_pos rfl
      by_cases hc0 : cap = 0
      · subst hc0
        go_enter Try.func21, Try.ntmps21
        go_wp2_with fail
        refine HT.out.mono ?_
        rintro e w1 ⟨rfl, hb⟩
        have HB := Lib.hid hb
        have B1 := Lib.hid ((hb.block g hgl).trans H1.out)
        have HQS := Lib.hid hb.size
        obtain ⟨d0, e0⟩ := box1 B1.out
        clear hb c0 f0
        go_wp2_with fail
        go_ret2
        exact ⟨rfl, RefS.nil B1.out (fun e => by cases e), (RGr.of_below HB.out).trans (RGr.set0 _)⟩
      · have hcI : (0 : Int) ≤ (cap : Int) := by omega
        go_enter Try.func21, Try.ntmps21
        go_wp2_with fail
        refine HT.out.mono ?_
        rintro e w1 ⟨rfl, hb⟩
        have HB := Lib.hid hb
        have B1 := Lib.hid ((hb.block g hgl).trans H1.out)
        have HQS := Lib.hid hb.size
        obtain ⟨d0, e0⟩ := box1 B1.out
        clear hb c0 f0
        go_wp2_with fail
        go_ret2
        exact ⟨rfl, RefS.nil B1.out (fun e => by cases e), (RGr.of_below HB.out).trans (RGr.set0 _)⟩
  · obtain ⟨qb, off, e, hqb, _⟩ := h2 hz
    subst e
    obtain ⟨ha, hq, hqs⟩ := h4 hz _ rfl
    obtain rfl : qb = q := by simpa using ha
    have HQ := Lib.hid hq
    have HH3 := Lib.hid h3
    have HKL := Lib.hid hk
    have hkI : (k : Int) ≤ (l.length : Int) := by omega
    have hkc : (k : Int) ≤ (cap : Int) := by omega
    have hlc : (l.length : Int) ≤ (cap : Int) := by omega
    by_cases hck : cap = k
    · obtain rfl : k = cap := hck.symm
      have hlk : l.length = k := by omega
      have HLK := Lib.hid hlk
      clear h1 h2 h3 h4 hn hk hq hlk ha hz
      go_enter Try.func21, Try.ntmps21
      go_wp2_with fail
      refine HT.out.mono ?_
      rintro e w1 ⟨rfl, hb⟩
      have HB := Lib.hid hb
      have B1 := Lib.hid ((hb.block g hgl).trans H1.out)
      have HQS := Lib.hid hb.size
      have B2 := Lib.hid (H2.out.below hb)
      obtain ⟨d0, e0⟩ := box1 B1.out
      clear hb c0 f0
      go_wp2_with fail
      go_ret2
      exact ⟨rfl, RefS.moved _ B1.out B2.out HH3.out HKL.out HQ.out (Nat.lt_of_lt_of_le hqs HB.out.size) _ _ (by omega) (by omega) (.inr ⟨rfl, rfl⟩), (RGr.of_below HB.out).trans (RGr.set0 _)⟩
    · clear h1 h2 h3 h4 hn hk hq ha hz
      go_enter Try.func21, Try.ntmps21
      go_wp2_with fail
      refine HT.out.mono ?_
      rintro e w1 ⟨rfl, hb⟩
      have HB := Lib.hid hb
      have B1 := Lib.hid ((hb.block g hgl).trans H1.out)
      have HQS := Lib.hid hb.size
      have B2 := Lib.hid (H2.out.below hb)
      obtain ⟨d0, e0⟩ := box1 B1.out
      clear hb c0 f0
      go_wp2_with fail
      go_ret2
      exact ⟨rfl, RefS.moved _ B1.out B2.out HH3.out HKL.out HQ.out (Nat.lt_of_lt_of_le hqs HB.out.size) _ _ rfl rfl (.inl rfl), (RGr.of_below HB.out).trans (RGr.set0 _)⟩
theorem OwnB.far0 {w : World} {B g : Nat} {v u : Value} {l : List UInt8} (h : OwnB w B v l) (hg : g < B) : OwnB (w.setCell ⟨g, 0, none⟩ u) B v l :=
  h.same fun k hk e => Below.heap_setCell _ _ _ _ fun e2 => by
    have := (World.ownsRow.lt h k e).1
    simp at e2
    omega

set_option maxHeartbeats 3200000 in
theorem refRBytes_any (w : World) (g q : Nat) (l : List UInt8) (h : RefS w g q l) (hl : l.length ≤ 140737488355328) :
    Calls Try.prog 23 #[.pointer (some ⟨g, 0, none⟩)] w fun e w' => ∃ v', e = .returned (.tuple #[v', .int .i64 (rdB l).2.2]) ∧ OwnB w' w.heap.size v' (rdB l).1 ∧ RefS w' g q (l.drop (rdB l).2.1) ∧ RGr w w' g := by
  obtain ⟨A, cap, h1, h2, h3, hn, h4⟩ := h
  have HT := Lib.hid (refParseBytes_any A cap l w h2 hl)
  obtain ⟨c0, f0⟩ := box1 h1
  have hgl : g < w.heap.size := (Array.getElem?_eq_some_iff.1 h1).1
  unfold TakeB at HT
  rcases hr : rdB l with ⟨x, k, er⟩
  have hk := (rdB_len hr).2
  rw [hr] at HT
  simp only at HT
  simp only
  clear hr
  have H1 := Lib.hid h1
  have H2 := Lib.hid h2
  have HN := Lib.hid hn
  rcases Nat.eq_zero_or_pos l.length with hz | hz
  · have hl0 : l = [] := List.length_eq_zero_iff.1 hz
    subst hl0
    obtain rfl : k = 0 := by simpa using hk
    clear h1 h2 h3 h4 hn hk hz
    cases A with
    | none =>
      obtain rfl := HN.out rfl
      go_enter Try.func23, Try.ntmps23
      go_wp2_with fail
      refine HT.out.mono ?_
      rintro e w1 ⟨v1, rfl, hown, hb⟩
      obtain ⟨a1, cap1, rfl, _, _⟩ := hown.slice
      have HO := Lib.hid hown
      clear hown
      have HB := Lib.hid hb
      have B1 := Lib.hid ((hb.block g hgl).trans H1.out)
      have HQS := Lib.hid hb.size
      obtain ⟨d0, e0⟩ := box1 B1.out
      clear hb c0 f0
      go_wp2_with fail
      go_ret2
      exact ⟨_, rfl, HO.out.far0 hgl, RefS.nil B1.out (fun _ => rfl), (RGr.of_below HB.out).trans (RGr.set0 _)⟩
    | some a =>
      have ha0 : a.add 0 = a := if_pos rfl
      by_cases hc0 : cap = 0
      · subst hc0
        go_enter Try.func23, Try.ntmps23
        go_wp2_with fail
        refine HT.out.mono ?_
        rintro e w1 ⟨v1, rfl, hown, hb⟩
        obtain ⟨a1, cap1, rfl, _, _⟩ := hown.slice
        have HO := Lib.hid hown
        clear hown
        have HB := Lib.hid hb
        have B1 := Lib.hid ((hb.block g hgl).trans H1.out)
        have HQS := Lib.hid hb.size
        obtain ⟨d0, e0⟩ := box1 B1.out
        clear hb c0 f0
        go_wp2_with fail
        go_ret2
        exact ⟨_, rfl, HO.out.far0 hgl, RefS.nil B1.out (fun e => by cases e), (RGr.of_below HB.out).trans (RGr.set0 _)⟩
      · have hcI : (0 : Int) ≤ (cap : Int) := by omega
        go_enter Try.func23, Try.ntmps23
        go_wp2_with fail
        refine HT.out.mono ?_
        rintro e w1 ⟨v1, rfl, hown, hb⟩
        obtain ⟨a1, cap1, rfl, _, _⟩ := hown.slice
        have HO := Lib.hid hown
        clear hown
        have HB := Lib.hid hb
        have B1 := Lib.hid ((hb.block g hgl).trans H1.out)
        have HQS := Lib.hid hb.size
        obtain ⟨d0, e0⟩ := box1 B1.out
        clear hb c0 f0
        go_wp2_with fail
        go_ret2
        exact ⟨_, rfl, HO.out.far0 hgl, RefS.nil B1.out (fun e => by cases e), (RGr.of_below HB.out).trans (RGr.set0 _)⟩
  · obtain ⟨qb, off, e, hqb, _⟩ := h2 hz
    subst e
    obtain ⟨ha, hq, hqs⟩ := h4 hz _ rfl
    obtain rfl : qb = q := by simpa using ha
    have HQ := Lib.hid hq
    have HH3 := Lib.hid h3
    have HKL := Lib.hid hk
    have hkI : (k : Int) ≤ (l.length : Int) := by omega
    have hkc : (k : Int) ≤ (cap : Int) := by omega
    have hlc : (l.length : Int) ≤ (cap : Int) := by omega
    by_cases hck : cap = k
    · obtain rfl : k = cap := hck.symm
      have hlk : l.length = k := by omega
      have HLK := Lib.hid hlk
      clear h1 h2 h3 h4 hn hk hq hlk ha hz
      go_enter Try.func23, Try.ntmps23
      go_wp2_with fail
      refine HT.out.mono ?_
      rintro e w1 ⟨v1, rfl, hown, hb⟩
      obtain ⟨a1, cap1, rfl, _, _⟩ := hown.slice
      have HO := Lib.hid hown
      clear hown
      have HB := Lib.hid hb
      have B1 := Lib.hid ((hb.block g hgl).trans H1.out)
      have HQS := Lib.hid hb.size
      have B2 := Lib.hid (H2.out.below hb)
      obtain ⟨d0, e0⟩ := box1 B1.out
      clear hb c0 f0
      go_wp2_with fail
      go_ret2
      exact ⟨_, rfl, HO.out.far0 hgl, RefS.moved _ B1.out B2.out HH3.out HKL.out HQ.out (Nat.lt_of_lt_of_le hqs HB.out.size) _ _ (by omega) (by omega) (.inr ⟨rfl, rfl⟩), (RGr.of_below HB.out).trans (RGr.set0 _)⟩
    · clear h1 h2 h3 h4 hn hk hq ha hz
      go_enter Try.func23, Try.ntmps23
      go_wp2_with fail
      refine HT.out.mono ?_
      rintro e w1 ⟨v1, rfl, hown, hb⟩
      obtain ⟨a1, cap1, rfl, _, _⟩ := hown.slice
      have HO := Lib.hid hown
      clear hown
      have HB := Lib.hid hb
      have B1 := Lib.hid ((hb.block g hgl).trans H1.out)
      have HQS := Lib.hid hb.size
      have B2 := Lib.hid (H2.out.below hb)
      obtain ⟨d0, e0⟩ := box1 B1.out
      clear hb c0 f0
      go_wp2_with fail
      go_ret2
      exact ⟨_, rfl, HO.out.far0 hgl, RefS.moved _ B1.out B2.out HH3.out HKL.out HQ.out (Nat.lt_of_lt_of_le hqs HB.out.size) _ _ rfl rfl (.inl rfl), (RGr.of_below HB.out).trans (RGr.set0 _)⟩

set_option maxHeartbeats 3200000 in
theorem refRFlag_any (w : World) (g q : Nat) (l : List UInt8) (h : RefS w g q l) (hl : l.length ≤ 140737488355328) :
    Calls Try.prog 22 #[.pointer (some ⟨g, 0, none⟩)] w fun e w' => e = .returned (.tuple #[.bool (rdF l).1, .int .i64 (rdF l).2.2]) ∧ RefS w' g q (l.drop (rdF l).2.1) ∧ RGr w w' g := by
  obtain ⟨A, cap, h1, h2, h3, hn, h4⟩ := h
  have HT := Lib.hid (refParse_any A cap l w h2 hl)
  obtain ⟨c0, f0⟩ := box1 h1
  have hgl : g < w.heap.size := (Array.getElem?_eq_some_iff.1 h1).1
  unfold TakeI2 at HT
  have HS : Hid (RefS w g q l) := Lib.hid ⟨A, cap, h1, h2, h3, hn, h4⟩
  have HF : Hid (rdF l = if (rdI l).2.2 = 0 then (if (rdI l).1 = 0 ∨ (rdI l).1 = 1 then (decide ((rdI l).1 = 1), (rdI l).2.1, 0) else (false, 0, 31)) else (false, 0, (rdI l).2.2)) := rfl
  rcases hr : rdI l with ⟨n, k, er⟩
  have hk := rdI_len hr
  rw [hr] at HT HF
  simp only at HT HF
  clear hr
  by_cases he : er = 0
  · subst he
    simp only [if_true] at HF
    by_cases hn01 : n = 0 ∨ n = 1
    · rw [if_pos hn01] at HF
      rw [HF.out]
      simp only
      rcases hn01 with rfl | rfl
      · skip
        have H1 := Lib.hid h1
        have H2 := Lib.hid h2
        have HN := Lib.hid hn
        rcases Nat.eq_zero_or_pos l.length with hz | hz
        · have hl0 : l = [] := List.length_eq_zero_iff.1 hz
          subst hl0
          obtain rfl : k = 0 := by simpa using hk
          clear h1 h2 h3 h4 hn hk hz
          cases A with
          | none =>
            obtain rfl := HN.out rfl
            go_enter Try.func22, Try.ntmps22
            go_wp2_with fail
            refine HT.out.mono ?_
            rintro e w1 ⟨rfl, hb⟩
            have HB := Lib.hid hb
            have B1 := Lib.hid ((hb.block g hgl).trans H1.out)
            have HQS := Lib.hid hb.size
            obtain ⟨d0, e0⟩ := box1 B1.out
            clear hb c0 f0
            go_wp2_with fail
            go_ret2
            exact ⟨rfl, RefS.nil B1.out (fun _ => rfl), (RGr.of_below HB.out).trans (RGr.set0 _)⟩
          | some a =>
            have ha0 : a.add 0 = a := if_pos rfl
            by_cases hc0 : cap = 0
            · subst hc0
              go_enter Try.func22, Try.ntmps22
              go_wp2_with fail
              refine HT.out.mono ?_
              rintro e w1 ⟨rfl, hb⟩
              have HB := Lib.hid hb
              have B1 := Lib.hid ((hb.block g hgl).trans H1.out)
              have HQS := Lib.hid hb.size
              obtain ⟨d0, e0⟩ := box1 B1.out
              clear hb c0 f0
              go_wp2_with fail
              go_ret2
              exact ⟨rfl, RefS.nil B1.out (fun e => by cases e), (RGr.of_below HB.out).trans (RGr.set0 _)⟩
            · have hcI : (0 : Int) ≤ (cap : Int) := by omega
              go_enter Try.func22, Try.ntmps22
              go_wp2_with fail
              refine HT.out.mono ?_
              rintro e w1 ⟨rfl, hb⟩
              have HB := Lib.hid hb
              have B1 := Lib.hid ((hb.block g hgl).trans H1.out)
              have HQS := Lib.hid hb.size
              obtain ⟨d0, e0⟩ := box1 B1.out
              clear hb c0 f0
              go_wp2_with fail
              go_ret2
              exact ⟨rfl, RefS.nil B1.out (fun e => by cases e), (RGr.of_below HB.out).trans (RGr.set0 _)⟩
        · obtain ⟨qb, off, e, hqb, _⟩ := h2 hz
          subst e
          obtain ⟨ha, hq, hqs⟩ := h4 hz _ rfl
          obtain rfl : qb = q := by simpa using ha
          have HQ := Lib.hid hq
          have HH3 := Lib.hid h3
          have HKL := Lib.hid hk
          have hkI : (k : Int) ≤ (l.length : Int) := by omega
          have hkc : (k : Int) ≤ (cap : Int) := by omega
          have hlc : (l.length : Int) ≤ (cap : Int) := by omega
          by_cases hck : cap = k
          · obtain rfl : k = cap := hck.symm
            have hlk : l.length = k := by omega
            have HLK := Lib.hid hlk
            clear h1 h2 h3 h4 hn hk hq hlk ha hz
            go_enter Try.func22, Try.ntmps22
            go_wp2_with fail
            refine HT.out.mono ?_
            rintro e w1 ⟨rfl, hb⟩
            have HB := Lib.hid hb
            have B1 := Lib.hid ((hb.block g hgl).trans H1.out)
            have HQS := Lib.hid hb.size
            have B2 := Lib.hid (H2.out.below hb)
            obtain ⟨d0, e0⟩ := box1 B1.out
            clear hb c0 f0
            go_wp2_with fail
            go_ret2
            exact ⟨rfl, RefS.moved _ B1.out B2.out HH3.out HKL.out HQ.out (Nat.lt_of_lt_of_le hqs HB.out.size) _ _ (by omega) (by omega) (.inr ⟨rfl, rfl⟩), (RGr.of_below HB.out).trans (RGr.set0 _)⟩
          · clear h1 h2 h3 h4 hn hk hq ha hz
            go_enter Try.func22, Try.ntmps22
            go_wp2_with fail
            refine HT.out.mono ?_
            rintro e w1 ⟨rfl, hb⟩
            have HB := Lib.hid hb
            have B1 := Lib.hid ((hb.block g hgl).trans H1.out)
            have HQS := Lib.hid hb.size
            have B2 := Lib.hid (H2.out.below hb)
            obtain ⟨d0, e0⟩ := box1 B1.out
            clear hb c0 f0
            go_wp2_with fail
            go_ret2
            exact ⟨rfl, RefS.moved _ B1.out B2.out HH3.out HKL.out HQ.out (Nat.lt_of_lt_of_le hqs HB.out.size) _ _ rfl rfl (.inl rfl), (RGr.of_below HB.out).trans (RGr.set0 _)⟩
      · skip
        have H1 := Lib.hid h1
        have H2 := Lib.hid h2
        have HN := Lib.hid hn
        rcases Nat.eq_zero_or_pos l.length with hz | hz
        · have hl0 : l = [] := List.length_eq_zero_iff.1 hz
          subst hl0
          obtain rfl : k = 0 := by simpa using hk
          clear h1 h2 h3 h4 hn hk hz
          cases A with
          | none =>
            obtain rfl := HN.out rfl
            go_enter Try.func22, Try.ntmps22
            go_wp2_with fail
            refine HT.out.mono ?_
            rintro e w1 ⟨rfl, hb⟩
            have HB := Lib.hid hb
            have B1 := Lib.hid ((hb.block g hgl).trans H1.out)
            have HQS := Lib.hid hb.size
            obtain ⟨d0, e0⟩ := box1 B1.out
            clear hb c0 f0
            go_wp2_with fail
            go_ret2
            exact ⟨rfl, RefS.nil B1.out (fun _ => rfl), (RGr.of_below HB.out).trans (RGr.set0 _)⟩
          | some a =>
            have ha0 : a.add 0 = a := if_pos rfl
            by_cases hc0 : cap = 0
            · subst hc0
              go_enter Try.func22, Try.ntmps22
              go_wp2_with fail
              refine HT.out.mono ?_
              rintro e w1 ⟨rfl, hb⟩
              have HB := Lib.hid hb
              have B1 := Lib.hid ((hb.block g hgl).trans H1.out)
              have HQS := Lib.hid hb.size
              obtain ⟨d0, e0⟩ := box1 B1.out
              clear hb c0 f0
              go_wp2_with fail
              go_ret2
              exact ⟨rfl, RefS.nil B1.out (fun e => by cases e), (RGr.of_below HB.out).trans (RGr.set0 _)⟩
            · have hcI : (0 : Int) ≤ (cap : Int) := by omega
              go_enter Try.func22, Try.ntmps22
              go_wp2_with fail
              refine HT.out.mono ?_
              rintro e w1 ⟨rfl, hb⟩
              have HB := Lib.hid hb
              have B1 := Lib.hid ((hb.block g hgl).trans H1.out)
              have HQS := Lib.hid hb.size
              obtain ⟨d0, e0⟩ := box1 B1.out
              clear hb c0 f0
              go_wp2_with fail
              go_ret2
              exact ⟨rfl, RefS.nil B1.out (fun e => by cases e), (RGr.of_below HB.out).trans (RGr.set0 _)⟩
        · obtain ⟨qb, off, e, hqb, _⟩ := h2 hz
          subst e
          obtain ⟨ha, hq, hqs⟩ := h4 hz _ rfl
          obtain rfl : qb = q := by simpa using ha
          have HQ := Lib.hid hq
          have HH3 := Lib.hid h3
          have HKL := Lib.hid hk
          have hkI : (k : Int) ≤ (l.length : Int) := by omega
          have hkc : (k : Int) ≤ (cap : Int) := by omega
          have hlc : (l.length : Int) ≤ (cap : Int) := by omega
          by_cases hck : cap = k
          · obtain rfl : k = cap := hck.symm
            have hlk : l.length = k := by omega
            have HLK := Lib.hid hlk
            clear h1 h2 h3 h4 hn hk hq hlk ha hz
            go_enter Try.func22, Try.ntmps22
            go_wp2_with fail
            refine HT.out.mono ?_
            rintro e w1 ⟨rfl, hb⟩
            have HB := Lib.hid hb
            have B1 := Lib.hid ((hb.block g hgl).trans H1.out)
            have HQS := Lib.hid hb.size
            have B2 := Lib.hid (H2.out.below hb)
            obtain ⟨d0, e0⟩ := box1 B1.out
            clear hb c0 f0
            go_wp2_with fail
            go_ret2
            exact ⟨rfl, RefS.moved _ B1.out B2.out HH3.out HKL.out HQ.out (Nat.lt_of_lt_of_le hqs HB.out.size) _ _ (by omega) (by omega) (.inr ⟨rfl, rfl⟩), (RGr.of_below HB.out).trans (RGr.set0 _)⟩
          · clear h1 h2 h3 h4 hn hk hq ha hz
            go_enter Try.func22, Try.ntmps22
            go_wp2_with fail
            refine HT.out.mono ?_
            rintro e w1 ⟨rfl, hb⟩
            have HB := Lib.hid hb
            have B1 := Lib.hid ((hb.block g hgl).trans H1.out)
            have HQS := Lib.hid hb.size
            have B2 := Lib.hid (H2.out.below hb)
            obtain ⟨d0, e0⟩ := box1 B1.out
            clear hb c0 f0
            go_wp2_with fail
            go_ret2
            exact ⟨rfl, RefS.moved _ B1.out B2.out HH3.out HKL.out HQ.out (Nat.lt_of_lt_of_le hqs HB.out.size) _ _ rfl rfl (.inl rfl), (RGr.of_below HB.out).trans (RGr.set0 _)⟩
    · rw [if_neg hn01] at HF
      rw [HF.out]
      simp only [List.drop_zero]
      have e0 : (n == 0) = false := by simp; omega
      have e1 : (n == 1) = false := by simp; omega
      have e2 : (n != 0) = true := by simp; omega
      have e3 : (n != 1) = true := by simp; omega
      clear hn01
      clear h1 h2 h3 h4 hn hk
      go_enter Try.func22, Try.ntmps22
      go_wp2_with fail
      refine HT.out.mono ?_
      rintro e w1 ⟨rfl, hb⟩
      have HB := Lib.hid hb
      clear hb c0 f0
      go_wp2_with fail
      go_ret2
      exact ⟨rfl, HS.out.below HB.out, RGr.of_below HB.out⟩
  · rw [if_neg he] at HF
    rw [HF.out]
    simp only [List.drop_zero]
    have e0 : (er == 0) = false := by simp; omega
    have e2 : (er != 0) = true := by simp; omega
    clear he
    clear h1 h2 h3 h4 hn hk
    go_enter Try.func22, Try.ntmps22
    go_wp2_with fail
    refine HT.out.mono ?_
    rintro e w1 ⟨rfl, hb⟩
    have HB := Lib.hid hb
    clear hb c0 f0
    go_wp2_with fail
    go_ret2
    exact ⟨rfl, HS.out.below HB.out, RGr.of_below HB.out⟩
end Go.Proofs.Ytdjppchcnbfcoaa
