/-
  CodecApart: the form of no int, and of no bytes, is the beginning of another one's. No condition beyond the form's own.
-/
import Derived.Test.YtdjppchcnbfcoaaCRow
import Derived.Test.YtdjppchcnbfcoaaCBegun
namespace Go.Proofs.Ytdjppchcnbfcoaa
open Go.ChangeShapes Go.WideShapes Go.ChangeAt Go.RowKit Go.Deep
set_option linter.unusedVariables false

theorem prefix_no {a b : List UInt8} (h : ∀ x, ¬ b ++ x = a) : Lib.hasPrefix a b = false := by
  rw [Bool.eq_false_iff]
  intro hp
  unfold Lib.hasPrefix at hp
  obtain ⟨x, hx⟩ := List.isPrefixOf_iff_prefix.1 hp
  exact h x hx
/-- What a writer has stays while another one writes. -/
theorem WrS.other {w w' : World} {B g g2 : Nat} {v v' v2 : Value} {l l2 : List UInt8} (h : WrS w B g v l) {B2 : Nat} (h2 : WrS w B2 g2 v2 l2) (hg : WGr w w' g v v') (hne : g2 ≠ g) (hv : ∀ k, v2.ownBlock = some k → v.ownBlock ≠ some k) : WrS w' B2 g2 v2 l2 := by
  have no : ∀ {u : Value} {B l} (g : Nat), OwnB w B u l → (∃ a : Value, w.heap[g]? = some (.cells #[.bool true, a] 67 (0, 0))) → u.ownBlock ≠ some g := by
    intro u B l g hu ⟨a, hb⟩ e
    obtain ⟨c, f, h1⟩ := own_kind hu g e
    rw [hb] at h1
    simp at h1
  refine ⟨h2.low, (hg.block g2 h2.lt hne (no g2 h.own ⟨_, h2.box⟩)).trans h2.box, h2.own.same fun k hk e => hg.block k hk (fun e2 => ?_) (hv k e)⟩
  subst e2
  exact no k h2.own ⟨_, h.box⟩ e
theorem ird_one (w : World) (T : TypeId) (z : Int) : IRd (w.alloc (.cells #[.int .i64 z] T)) (some ⟨w.heap.size, 0, none⟩) [z] := fun _ => by
  refine ⟨_, _, rfl, by simp, fun i hi => ?_⟩
  match i, hi with
  | 0, _ => exact World.cell?_alloc_at _ _ _ _ rfl
theorem rowF_one (z : Int) : rowF [z] = encI z := by simp [rowF]

set_option maxHeartbeats 6400000 in
set_option maxRecDepth 100000 in
theorem codecApart_walk (a b : Int) (s t : List UInt8) (w : World) (i0 : In8 a) (i1 : In8 b) (hs : s.length ≤ 140737488355328) (ht : t.length ≤ 140737488355328) :
    Calls Try.prog 9 #[.int .i64 a, .int .i64 b, .string ⟨s.toArray⟩, .string ⟨t.toArray⟩] w fun e w' => e = .returned (.bool true) ∧ Below w.heap.size w w' := by
  have HRA : Hid (∀ (W : World) (T : TypeId), Calls Try.prog 28 #[.slice (some ⟨W.heap.size, 0, none⟩) 1 1] (W.alloc (.cells #[.int .i64 a] T)) (Fresh (encI a) (W.alloc (.cells #[.int .i64 a] T)))) := by
    show ∀ (W : World) (T : TypeId), _
    intro W T
    have := row_any _ 1 [a] _ (ird_one W T a) (fun z hz => by simp at hz; rw [hz]; exact i0) (by simp)
    rwa [rowF_one] at this
  have HRB : Hid (∀ (W : World) (T : TypeId), Calls Try.prog 28 #[.slice (some ⟨W.heap.size, 0, none⟩) 1 1] (W.alloc (.cells #[.int .i64 b] T)) (Fresh (encI b) (W.alloc (.cells #[.int .i64 b] T)))) := by
    show ∀ (W : World) (T : TypeId), _
    intro W T
    have := row_any _ 1 [b] _ (ird_one W T b) (fun z hz => by simp at hz; rw [hz]; exact i1) (by simp)
    rwa [rowF_one] at this
  have hw1 := wrs_new w
  have hA1 := alloc_below w (.cells #[.bool true, .slice none 0 0] 67)
  have hw1b := hw1.below (alloc_below _ (.cells #[.bool true, .slice none 0 0] 67))
  have hw2 := wrs_new (w.alloc (.cells #[.bool true, .slice none 0 0] 67))
  have hA2 := bt hA1 (alloc_below _ (.cells #[.bool true, .slice none 0 0] 67))
  rw [show (w.alloc (.cells #[.bool true, .slice none 0 0] 67)).heap.size = w.heap.size + 1 by simp] at hw2
  have HW1 := Lib.hid hw1b
  have HW2 := Lib.hid hw2
  have HA2 := Lib.hid hA2
  clear hw1 hA1 hw1b hw2 hA2
  go_enter Try.func9, Try.ntmps9
  go_wp2_with (go_at_call 12; refine (newWriter_any _).mono ?_; rintro e w' ⟨rfl, rfl⟩)
  refine (begun_any _).mono ?_
  rintro e w1 ⟨rfl, h1⟩
  have W1 := Lib.hid (HW1.out.below h1)
  have W2 := Lib.hid (HW2.out.below h1)
  have B1 := Lib.hid (bt HA2.out h1)
  have hBr : w.heap.size ≤ w1.heap.size := B1.out.size
  have hBr2 : w.heap.size + 1 ≤ w1.heap.size := by have := h1.size; simp at this; omega
  clear h1 HW1 HW2 HA2
  have HT1 := Lib.hid (wText_any w1 _ _ _ _ s hs W1.out (by decide) hBr)
  go_wp2_with fail
  refine HT1.out.mono ?_
  rintro e w2 ⟨v2, rfl, h2, g2⟩
  have B2 := Lib.hid (below_tr B1.out (WGr.below W1.out g2 hBr))
  have X1 := Lib.hid h2
  have X2 := Lib.hid (W1.out.other W2.out g2 (by omega) (fun k hk => by simp [Value.ownBlock] at hk))
  have hBr3 : w.heap.size + 1 ≤ w2.heap.size := Nat.le_trans hBr2 g2.size
  have hBr4 : w.heap.size ≤ w2.heap.size := Nat.le_trans hBr g2.size
  clear h2 g2 HT1 W1 W2
  have HT2 := Lib.hid (wText_any w2 _ _ _ _ t ht X2.out (by decide) hBr3)
  by_cases hps : ([] : List UInt8).length + (encB s).length ≤ 1048576
  · have HE : Hid (putE [] (encB s) = 0) := if_pos hps
    have HL : Hid (putL [] (encB s) = encB s) := if_pos hps
    rw [HE.out]
    rw [HL.out] at X1
    go_wp2_with fail
    refine HT2.out.mono ?_
    rintro e w3 ⟨v3, rfl, h3, g3⟩
    have B3 := Lib.hid (below_tr B2.out ((WGr.below X2.out g3 hBr3).mono (Nat.le_succ _)))
    have Y1 := Lib.hid (X2.out.other X1.out g3 (by omega) (fun k hk => by simp [Value.ownBlock]))
    have Y2 := Lib.hid h3
    clear h3 g3 X1 X2 HT2
    by_cases hpt : ([] : List UInt8).length + (encB t).length ≤ 1048576
    · have HE2 : Hid (putE [] (encB t) = 0) := if_pos hpt
      have HL2 : Hid (putL [] (encB t) = encB t) := if_pos hpt
      rw [HE2.out]
      rw [HL2.out] at Y2
      have hl1 : (encB s).length ≤ 140737488355328 := by simp at hps; omega
      have hl2 : (encB t).length ≤ 140737488355328 := by simp at hpt; omega
      clear hps hpt
      by_cases hst : s = t
      · subst hst
        have hdec : decide (s = s) = true := by simp
        go_wp2_with fail
        refine (HRA.out _ _).mono ?_
        rintro e w6 ⟨v6, rfl, hown6, hb6⟩
        obtain ⟨a6, cap6, rfl, hcap6, _⟩ := hown6.slice
        have R6 := Lib.hid hown6.brd
        have B6 := Lib.hid (bt B3.out (b1 hb6))
        have C6 := Lib.hid hcap6
        clear hown6 hb6 hcap6
        go_wp2_with fail
        refine (HRB.out _ _).mono ?_
        rintro e w7 ⟨v7, rfl, hown7, hb7⟩
        obtain ⟨a7, cap7, rfl, hcap7, _⟩ := hown7.slice
        have R7 := Lib.hid hown7.brd
        have R6b := Lib.hid (R6.out.below (b1 hb7))
        have B7 := Lib.hid (bt B6.out (b1 hb7))
        have C7 := Lib.hid hcap7
        have HP1 := Lib.hid (prefix_any a6 a7 cap6 cap7 _ _ w7 R6b.out R7.out C6.out)
        have HP2 := Lib.hid (prefix_any a7 a6 cap7 cap6 _ _ w7 R7.out R6b.out C7.out)
        have HSZ := Lib.hid (size_any a w7 i0)
        clear hown7 hb7 hcap7 R6
        by_cases hab : a = b
        · subst hab
          have hee : (((encI a).length : Int) == ((encI a).length : Int)) = true := by simp
          go_wp2_with (first | (go_at_call 26; refine HSZ.out.mono ?_; rintro e w' ⟨rfl, rfl⟩))
          go_ret
          exact ⟨rfl, B7.out⟩
        · have e1 := prefix_no (a := encI a) (b := encI b) (fun x => encI_apart i1 i0 (fun h => hab h.symm) x)
          have e2 := prefix_no (a := encI b) (b := encI a) (fun x => encI_apart i0 i1 hab x)
          rw [e1] at HP1
          rw [e2] at HP2
          have hab2 : (a == b) = false := by simpa using hab
          have hee : (((encI a).length : Int) == ((encI a).length : Int)) = true := by simp
          clear hab e1 e2
          go_wp2_with (go_at_call 26; refine HSZ.out.mono ?_; rintro e w' ⟨rfl, rfl⟩)
          refine HP1.out.mono ?_
          rintro e w' ⟨rfl, rfl⟩
          go_wp2_with fail
          refine HP2.out.mono ?_
          rintro e w' ⟨rfl, rfl⟩
          go_wp2_with fail
          go_ret
          exact ⟨rfl, B7.out⟩
      · have HO1 := Lib.hid (out_any w3 _ _ _ _ Y1.out hl1)
        have q1 := prefix_no (a := encB s) (b := encB t) (fun x => encB_apart (fun h => hst h.symm) x)
        have q2 := prefix_no (a := encB t) (b := encB s) (fun x => encB_apart hst x)
        have Q1 := Lib.hid q1
        have Q2 := Lib.hid q2
        clear q1 q2
        go_wp2_with fail
        refine HO1.out.mono ?_
        rintro e w4 ⟨v4, rfl, hown4, hb4⟩
        obtain ⟨a4, cap4, rfl, hcap4, _⟩ := hown4.slice
        have R4 := Lib.hid hown4.brd
        have C4 := Lib.hid hcap4
        have B4 := Lib.hid (bt B3.out hb4)
        have Y3 := Lib.hid (Y2.out.below hb4)
        have Y4 := Lib.hid (Y1.out.below hb4)
        have HO2 := Lib.hid (out_any w4 _ _ _ _ Y3.out hl2)
        clear hown4 hb4 hcap4 HO1
        go_wp2_with fail
        refine HO2.out.mono ?_
        rintro e w5 ⟨v5, rfl, hown5, hb5⟩
        obtain ⟨a5, cap5, rfl, hcap5, _⟩ := hown5.slice
        have R5 := Lib.hid hown5.brd
        have R4b := Lib.hid (R4.out.below hb5)
        have C5 := Lib.hid hcap5
        have B5 := Lib.hid (bt B4.out hb5)
        have Y5 := Lib.hid (Y3.out.below hb5)
        have Y6 := Lib.hid (Y4.out.below hb5)
        have HP := Lib.hid (prefix_any a4 a5 cap4 cap5 _ _ w5 R4b.out R5.out C4.out)
        rw [Q1.out] at HP
        have HO3 := Lib.hid (out_any w5 _ _ _ _ Y5.out hl2)
        clear hown5 hb5 hcap5 HO2
        go_wp2_with (go_at_call 36; refine HP.out.mono ?_; rintro e w' ⟨rfl, rfl⟩)
        refine HO3.out.mono ?_
        rintro e w8 ⟨v8, rfl, hown8, hb8⟩
        obtain ⟨a8, cap8, rfl, hcap8, _⟩ := hown8.slice
        have R8 := Lib.hid hown8.brd
        have C8 := Lib.hid hcap8
        have B8 := Lib.hid (bt B5.out hb8)
        have Y7 := Lib.hid (Y6.out.below hb8)
        have HO4 := Lib.hid (out_any w8 _ _ _ _ Y7.out hl1)
        clear hown8 hb8 hcap8 HO3
        go_wp2_with fail
        refine HO4.out.mono ?_
        rintro e w9 ⟨v9, rfl, hown9, hb9⟩
        obtain ⟨a9, cap9, rfl, hcap9, _⟩ := hown9.slice
        have R9 := Lib.hid hown9.brd
        have R8b := Lib.hid (R8.out.below hb9)
        have B9 := Lib.hid (bt B8.out hb9)
        have HPB := Lib.hid (prefix_any a8 a9 cap8 cap9 _ _ w9 R8b.out R9.out C8.out)
        rw [Q2.out] at HPB
        clear hown9 hb9 hcap9 HO4
        go_wp2_with (go_at_call 36; refine HPB.out.mono ?_; rintro e w' ⟨rfl, rfl⟩)
        refine (HRA.out _ _).mono ?_
        rintro e w6 ⟨v6, rfl, hown6, hb6⟩
        obtain ⟨a6, cap6, rfl, hcap6, _⟩ := hown6.slice
        have R6 := Lib.hid hown6.brd
        have B6 := Lib.hid (bt B9.out (b1 hb6))
        have C6 := Lib.hid hcap6
        clear hown6 hb6 hcap6
        go_wp2_with fail
        refine (HRB.out _ _).mono ?_
        rintro e w7 ⟨v7, rfl, hown7, hb7⟩
        obtain ⟨a7, cap7, rfl, hcap7, _⟩ := hown7.slice
        have R7 := Lib.hid hown7.brd
        have R6b := Lib.hid (R6.out.below (b1 hb7))
        have B7 := Lib.hid (bt B6.out (b1 hb7))
        have C7 := Lib.hid hcap7
        have HP1 := Lib.hid (prefix_any a6 a7 cap6 cap7 _ _ w7 R6b.out R7.out C6.out)
        have HP2 := Lib.hid (prefix_any a7 a6 cap7 cap6 _ _ w7 R7.out R6b.out C7.out)
        have HSZ := Lib.hid (size_any a w7 i0)
        clear hown7 hb7 hcap7 R6
        by_cases hab : a = b
        · subst hab
          have hee : (((encI a).length : Int) == ((encI a).length : Int)) = true := by simp
          go_wp2_with (first | (go_at_call 26; refine HSZ.out.mono ?_; rintro e w' ⟨rfl, rfl⟩))
          go_ret
          exact ⟨rfl, B7.out⟩
        · have e1 := prefix_no (a := encI a) (b := encI b) (fun x => encI_apart i1 i0 (fun h => hab h.symm) x)
          have e2 := prefix_no (a := encI b) (b := encI a) (fun x => encI_apart i0 i1 hab x)
          rw [e1] at HP1
          rw [e2] at HP2
          have hab2 : (a == b) = false := by simpa using hab
          have hee : (((encI a).length : Int) == ((encI a).length : Int)) = true := by simp
          clear hab e1 e2
          go_wp2_with (go_at_call 26; refine HSZ.out.mono ?_; rintro e w' ⟨rfl, rfl⟩)
          refine HP1.out.mono ?_
          rintro e w' ⟨rfl, rfl⟩
          go_wp2_with fail
          refine HP2.out.mono ?_
          rintro e w' ⟨rfl, rfl⟩
          go_wp2_with fail
          go_ret
          exact ⟨rfl, B7.out⟩
    · have HE2 : Hid (putE [] (encB t) = 3) := if_neg hpt
      rw [HE2.out]
      clear hps hpt
      go_wp2_with fail
      refine (HRA.out _ _).mono ?_
      rintro e w6 ⟨v6, rfl, hown6, hb6⟩
      obtain ⟨a6, cap6, rfl, hcap6, _⟩ := hown6.slice
      have R6 := Lib.hid hown6.brd
      have B6 := Lib.hid (bt B3.out (b1 hb6))
      have C6 := Lib.hid hcap6
      clear hown6 hb6 hcap6
      go_wp2_with fail
      refine (HRB.out _ _).mono ?_
      rintro e w7 ⟨v7, rfl, hown7, hb7⟩
      obtain ⟨a7, cap7, rfl, hcap7, _⟩ := hown7.slice
      have R7 := Lib.hid hown7.brd
      have R6b := Lib.hid (R6.out.below (b1 hb7))
      have B7 := Lib.hid (bt B6.out (b1 hb7))
      have C7 := Lib.hid hcap7
      have HP1 := Lib.hid (prefix_any a6 a7 cap6 cap7 _ _ w7 R6b.out R7.out C6.out)
      have HP2 := Lib.hid (prefix_any a7 a6 cap7 cap6 _ _ w7 R7.out R6b.out C7.out)
      have HSZ := Lib.hid (size_any a w7 i0)
      clear hown7 hb7 hcap7 R6
      by_cases hab : a = b
      · subst hab
        have hee : (((encI a).length : Int) == ((encI a).length : Int)) = true := by simp
        go_wp2_with (first | (go_at_call 26; refine HSZ.out.mono ?_; rintro e w' ⟨rfl, rfl⟩))
        go_ret
        exact ⟨rfl, B7.out⟩
      · have e1 := prefix_no (a := encI a) (b := encI b) (fun x => encI_apart i1 i0 (fun h => hab h.symm) x)
        have e2 := prefix_no (a := encI b) (b := encI a) (fun x => encI_apart i0 i1 hab x)
        rw [e1] at HP1
        rw [e2] at HP2
        have hab2 : (a == b) = false := by simpa using hab
        have hee : (((encI a).length : Int) == ((encI a).length : Int)) = true := by simp
        clear hab e1 e2
        go_wp2_with (go_at_call 26; refine HSZ.out.mono ?_; rintro e w' ⟨rfl, rfl⟩)
        refine HP1.out.mono ?_
        rintro e w' ⟨rfl, rfl⟩
        go_wp2_with fail
        refine HP2.out.mono ?_
        rintro e w' ⟨rfl, rfl⟩
        go_wp2_with fail
        go_ret
        exact ⟨rfl, B7.out⟩
  · have HE : Hid (putE [] (encB s) = 3) := if_neg hps
    rw [HE.out]
    clear hps
    go_wp2_with fail
    refine (HRA.out _ _).mono ?_
    rintro e w6 ⟨v6, rfl, hown6, hb6⟩
    obtain ⟨a6, cap6, rfl, hcap6, _⟩ := hown6.slice
    have R6 := Lib.hid hown6.brd
    have B6 := Lib.hid (bt B2.out (b1 hb6))
    have C6 := Lib.hid hcap6
    clear hown6 hb6 hcap6
    go_wp2_with fail
    refine (HRB.out _ _).mono ?_
    rintro e w7 ⟨v7, rfl, hown7, hb7⟩
    obtain ⟨a7, cap7, rfl, hcap7, _⟩ := hown7.slice
    have R7 := Lib.hid hown7.brd
    have R6b := Lib.hid (R6.out.below (b1 hb7))
    have B7 := Lib.hid (bt B6.out (b1 hb7))
    have C7 := Lib.hid hcap7
    have HP1 := Lib.hid (prefix_any a6 a7 cap6 cap7 _ _ w7 R6b.out R7.out C6.out)
    have HP2 := Lib.hid (prefix_any a7 a6 cap7 cap6 _ _ w7 R7.out R6b.out C7.out)
    have HSZ := Lib.hid (size_any a w7 i0)
    clear hown7 hb7 hcap7 R6
    by_cases hab : a = b
    · subst hab
      have hee : (((encI a).length : Int) == ((encI a).length : Int)) = true := by simp
      go_wp2_with (first | (go_at_call 26; refine HSZ.out.mono ?_; rintro e w' ⟨rfl, rfl⟩))
      go_ret
      exact ⟨rfl, B7.out⟩
    · have e1 := prefix_no (a := encI a) (b := encI b) (fun x => encI_apart i1 i0 (fun h => hab h.symm) x)
      have e2 := prefix_no (a := encI b) (b := encI a) (fun x => encI_apart i0 i1 hab x)
      rw [e1] at HP1
      rw [e2] at HP2
      have hab2 : (a == b) = false := by simpa using hab
      have hee : (((encI a).length : Int) == ((encI a).length : Int)) = true := by simp
      clear hab e1 e2
      go_wp2_with (go_at_call 26; refine HSZ.out.mono ?_; rintro e w' ⟨rfl, rfl⟩)
      refine HP1.out.mono ?_
      rintro e w' ⟨rfl, rfl⟩
      go_wp2_with fail
      refine HP2.out.mono ?_
      rintro e w' ⟨rfl, rfl⟩
      go_wp2_with fail
      go_ret
      exact ⟨rfl, B7.out⟩

set_option maxRecDepth 100000 in
theorem codecApart_lifted (os : Os) (started : os.Started) (H : Type) (enc : TypeId × Value → H) :
    ReturnsInHanded {} Try.checked os 9 .any (Rows.codecApartSpec.pre6 enc Try.prog Try.f9 Rows.codecApartRow.domain false) (Rows.codecApartSpec.post enc Try.prog Try.f9 false true false false) := by
  refine returnsInHanded_of_change_sized (C := Try.checked) own started (by kernel_rfl) Try.func9
    (ChangeSpec.witness6 (enc := enc) (C := Try.checked) false ⟨#[], #[.int .i64 0, .int .i64 0, .string ⟨#[]⟩, .string ⟨#[]⟩], []⟩ 8 (by kernel_rfl) (by kernel_rfl) (by kernel_rfl) (by kernel_rfl)) ?_
  intro W base args ds gs before hval0 hW _ hsz _
  have hval : ∀ (j : Nat) t v, Try.f9.params[j]? = some t → args[j]? = some v → Value.okWide Try.prog W .any base t v := hval0
  have hW' := hW
  obtain ⟨p, q, hA0, hV, rfl, hfz, hnd⟩ := hW
  have hA : DataW.TrodAll enc Try.prog W 0 (fun _ => true) true Try.f9.params.toList args.toList ds p := hA0
  rw [Try.params9] at hA hval
  obtain ⟨v0, vs0, d0, ds0, p0, q0, hargs, rfl, rfl, h0, r0⟩ := trodAll_cons hA
  obtain ⟨v1, vs1, d1, ds1, p1, q1, rfl, rfl, rfl, h1, r1⟩ := trodAll_cons r0
  obtain ⟨v2, vs2, d2, ds2, p2, q2, rfl, rfl, rfl, h2, r2⟩ := trodAll_cons r1
  obtain ⟨v3, vs3, d3, ds3, p3, q3, rfl, rfl, rfl, h3, r3⟩ := trodAll_cons r2
  obtain ⟨rfl, rfl, rfl⟩ := trodAll_nil r3
  obtain rfl : args = #[v0, v1, v2, v3] := by cases args; simp_all
  obtain ⟨rfl, rfl⟩ := trodVars_none hV
  simp only [List.append_nil] at hW'
  have hlt0 : ∀ x ∈ p0, x.block < W.heap.size := fun x hx => hW'.lt x (by simp [hx])
  have hlt1 : ∀ x ∈ p1, x.block < W.heap.size := fun x hx => hW'.lt x (by simp [hx])
  have hlt2 : ∀ x ∈ p2, x.block < W.heap.size := fun x hx => hW'.lt x (by simp [hx])
  have hlt3 : ∀ x ∈ p3, x.block < W.heap.size := fun x hx => hW'.lt x (by simp [hx])
  have hreach := reachBytes_lt
  obtain ⟨a, rfl, -, -, w0⟩ := open_int Try.underlying2 (hval 0 2 v0 rfl rfl) h0
  have i0 := in8_of w0
  obtain ⟨b, rfl, -, -, w1⟩ := open_int Try.underlying2 (hval 1 2 v1 rfl rfl) h1
  have i1 := in8_of w1
  obtain ⟨s0, rfl, e2, -, w2⟩ := ChangeMaps.open_string Try.underlying9 (hval 2 9 v2 rfl rfl) h2
  obtain ⟨s, rfl⟩ : ∃ l : List UInt8, s0 = ⟨l.toArray⟩ := ⟨s0.data.toList, by cases s0; simp⟩
  have ed2 : d2 = .lit (.string s) := e2
  have b2 : s.length ≤ reachBytes := sized_string hsz (j := 2) (t := 9) rfl (by rw [ed2]; rfl)
  obtain ⟨t0, rfl, e3, -, w3⟩ := ChangeMaps.open_string Try.underlying9 (hval 3 9 v3 rfl rfl) h3
  obtain ⟨t, rfl⟩ : ∃ l : List UInt8, t0 = ⟨l.toArray⟩ := ⟨t0.data.toList, by cases t0; simp⟩
  have ed3 : d3 = .lit (.string t) := e3
  have b3 : t.length ≤ reachBytes := sized_string hsz (j := 3) (t := 9) rfl (by rw [ed3]; rfl)
  clear hA0 hval0
  refine (codecApart_walk a b s t W i0 i1 (by omega) (by omega)).mono fun e W' ⟨he, hg⟩ => ?_
  subst he
  have hpost : Rows.codecApartSpec.post enc Try.prog Try.f9 false true false false W _ _ W' := post_of_below (pa := p0 ++ (p1 ++ (p2 ++ (p3 ++ [])))) (pv := []) hW' (fun _ _ _ => (trodAll_cons_mk (shut_bool Try.underlying4 _) trodAll_mk0)) (fun sp hsp => (trodAll_cons_mk (WideElems.Trod_stays laidOut (by kernel_rfl) (of_decide_eq_true (by kernel_rfl)) h0 (fun x hx => hg.same (hlt0 x hx)) (fun x hx => hsp x (by simp [hx]))) (trodAll_cons_mk (WideElems.Trod_stays laidOut (by kernel_rfl) (of_decide_eq_true (by kernel_rfl)) h1 (fun x hx => hg.same (hlt1 x hx)) (fun x hx => hsp x (by simp [hx]))) (trodAll_cons_mk (WideElems.Trod_stays laidOut (by kernel_rfl) (of_decide_eq_true (by kernel_rfl)) h2 (fun x hx => hg.same (hlt2 x hx)) (fun x hx => hsp x (by simp [hx]))) (trodAll_cons_mk (WideElems.Trod_stays laidOut (by kernel_rfl) (of_decide_eq_true (by kernel_rfl)) h3 (fun x hx => hg.same (hlt3 x hx)) (fun x hx => hsp x (by simp [hx]))) trodAll_mk0))))) (fun _ _ => rfl) (by simp) hg (ok_one (by kernel_rfl) rfl (okWide_bool_mk Try.underlying4 _))
  exact ⟨_, rfl, hpost⟩

theorem codecApart_holds : Rows.CodecApartSaid :=
  OpenClaim.holds_of_wide 9 Try.f9 rfl rfl rfl rfl rfl rfl rfl ⟨rfl, rfl, rfl, rfl, rfl⟩ rfl rfl rfl rfl rfl (by kernel_rfl) Try.func9 (by kernel_rfl)
    (of_decide_eq_true (by kernel_rfl)) (by unfold Func.isWrapper; first | (rw [if_pos (by decide +kernel)]; kernel_rfl) | (rw [if_neg (by decide +kernel)]; exact ⟨rfl, rfl⟩))
    (fun os started H enc _ => codecApart_lifted os started H enc)
end Go.Proofs.Ytdjppchcnbfcoaa
