/-
  Contracts of strconv.AppendInt at base 10 with a frame of its own: only the slice's own block is written.
-/
import Derived.Test.YtogdkhnakenbcaaGreatDoorVKey
import Derived.Maps.AppendAt
namespace Go.Proofs.YtogdkhnakenbcaaGreatDoor
open Go.ChangeShapes Go.WideShapes Go.ChangeAt Go.RowKit Go.Sort
set_option linter.unusedVariables false

/-- What an append of the bytes l onto the slice v of the call's own leaves: of the blocks that were there only v's own is written. -/
def OwnPost (B n : Nat) (v : Value) (xs : List Value) (l : List UInt8) (w : World) (e : Ending) (w' : World) : Prop := ∃ v', e = .returned v' ∧ w'.ownsRow B 5 1 v' (n + l.length) (xs ++ Lib.byteCells l) ∧ w.grownBy w' v.ownBlock
theorem own_same {w w' : World} {B : Nat} {e : TypeId} {v : Value} {n : Nat} {xs : List Value} (h : w.ownsRow B e 1 v n xs) (hs : ∀ k, k < w.heap.size → w'.heap[k]? = w.heap[k]?) : w'.ownsRow B e 1 v n xs := by
  refine ⟨h.1, ?_⟩
  rcases h.2 with h2 | ⟨g, cap, cur, hv, hb, hg, rest⟩
  · exact .inl h2
  · have hlt : g < w.heap.size := (Array.getElem?_eq_some_iff.1 hg).1
    exact .inr ⟨g, cap, cur, hv, hb, by rw [hs g hlt]; exact hg, rest⟩
theorem grown_of_below {w w1 w2 : World} {r : Option Nat} (hb : Below w.heap.size w w1) (hg : w1.grownBy w2 r) : w.grownBy w2 r :=
  ⟨hg.os.trans hb.os, hg.tape.trans hb.tape, hg.output.trans hb.output, Nat.le_trans hb.size hg.size, fun k hk hr => (hg.block k (Nat.lt_of_lt_of_le hk hb.size) hr).trans (hb.block k hk)⟩
theorem grown_chain {w w1 w2 : World} {v v1 : Value} {m : Nat} (h1 : w.grownBy w1 v.ownBlock) (hl : v1.ownBlock = v.ownBlock ∨ v1.ownBlock = some m) (hm : w.heap.size ≤ m) (h2 : w1.grownBy w2 v1.ownBlock) : w.grownBy w2 v.ownBlock :=
  ⟨h2.os.trans h1.os, h2.tape.trans h1.tape, h2.output.trans h1.output, Nat.le_trans h1.size h2.size, fun k hk hr => by
    refine (h2.block k (Nat.lt_of_lt_of_le hk h1.size) ?_).trans (h1.block k hk hr)
    rcases hl with hl | hl
    · rw [hl]; exact hr
    · rw [hl]; intro e; have := Option.some.inj e; omega⟩

theorem gPow : Tryz.prog.globalNamed "internal/strconv.uint64pow10" = some 1 := by kernel_rfl
/-- The table lies below the call's own rows: it is not written. -/
theorem powLaid_grown {w w' : World} {v : Value} {B n : Nat} {xs : List Value} (hg : w.grownBy w' v.ownBlock) (hown : w.ownsRow B 5 1 v n xs) (hgB : 1 < B) (h : PowLaid w) : PowLaid w' := by
  unfold PowLaid Lib.TabIs World.var? at *
  rw [gPow] at *
  simp only [Option.bind_some] at h ⊢
  have hlt : 1 < w.heap.size := by
    rcases Nat.lt_or_ge 1 w.heap.size with h' | h'
    · exact h'
    · rw [Array.getElem?_eq_none h'] at h; simp at h
  rw [hg.block _ hlt ?_]
  · exact h
  · intro e
    have := (hown.lt _ e.symm).1
    omega
set_option maxHeartbeats 1600000 in
set_option maxRecDepth 100000 in
theorem appendUint_small (B n u : Nat) (sv : Value) (xs : List Value) (w : World) (hu : u < 100) (hown : w.ownsRow B 5 1 sv n xs) (hB : B ≤ w.heap.size) (hlim : n + 21 ≤ 140737488355328) :
    Calls Tryz.prog 132 #[sv, .int .u64 u, .int .i64 10] w (OwnPost B n sv xs (Lib.decDigits u) w) := by
  obtain ⟨i0, hi, hz0, hz1, hz2⟩ := info_parts bytesInfo
  have hl := digits_len u (by omega)
  have hsz : (⟨(Lib.decDigits u).toArray⟩ : ByteArray).size = (Lib.decDigits u).length := bytes_size _
  have hsc : Lib.strCells ⟨(Lib.decDigits u).toArray⟩ = Lib.byteCells (Lib.decDigits u) := Lib.strCells_eq _
  have HSZ := Lib.hid hsz
  have HSC := Lib.hid hsc
  have hsm := Lib.hid (Tryz.internal_strconv_small u hu)
  clear hsz hsc
  go_enter Tryz.func132, Tryz.ntmps132
  go_wp2_with (first | (go_at_call 116; refine (hsm.out _).mono ?_; rintro e w' ⟨rfl, rfl⟩) | (at_builtin; refine Lib.wpList_append_own_string _ rfl _ _ 61 9 rfl B 5 i0 Tryz.underlying61 Tryz.underlying9 hi hz0 hz1 hz2 _ _ _ rfl hown _ rfl (by rw [HSZ.out]; unfold maxLen; omega) (by rw [HSZ.out]; omega) hB ?_; intro v2 w2 hown2 hgrow2 _; refine Hid.out ?_))
  refine Lib.hid ?_
  rw [HSZ.out, HSC.out] at hown2
  go_wp2
  go_ret
  exact ⟨_, rfl, hown2, hgrow2⟩

set_option maxHeartbeats 3200000 in
set_option maxRecDepth 100000 in
theorem appendUint_big (B n u : Nat) (sv : Value) (xs : List Value) (w : World) (hu : 100 ≤ u) (hu64 : u < 18446744073709551616) (hown : w.ownsRow B 5 1 sv n xs) (hB : B ≤ w.heap.size) (hlim : n + 21 ≤ 140737488355328) (htab : PowLaid w) :
    Calls Tryz.prog 132 #[sv, .int .u64 u, .int .i64 10] w (OwnPost B n sv xs (Lib.decDigits u) w) := by
  obtain ⟨i0, hi, hz0, hz1, hz2⟩ := info_parts bytesInfo
  have hu1 : 1 ≤ u := by omega
  have hnd20 : Lib.nDigits u ≤ 20 := by have := Lib.numDigits_eq u hu1 hu64; split at this <;> omega
  have hal : Tryz.prog.arrayLen 126 = 24 := by kernel_rfl
  have hsl : ∀ W, (Instr.sliceAt 126 (.pointer (some ⟨w.heap.size, 0, none⟩)) none (some (.int .i64 (Lib.nDigits u : Int))) none).run Tryz.prog W = .ok (.slice (some ⟨w.heap.size, 0, none⟩) (Lib.nDigits u) 24) W := fun W => by
    rw [run_sliceAt_array_h W 126 ⟨w.heap.size, 0, none⟩ (by simp [Program.arrayLen, Program.elem, Tryz.underlying126]) .i64 (Lib.nDigits u : Int) (by omega) (by rw [hal]; omega)]
    go_simp
  have hH0 := Lib.holds_zero0 w 126 (Lib.nDigits u) (by omega)
  have hfmt := Tryz.internal_strconv_formatBase10 w.heap.size 0 24 u (Array.replicate (Lib.nDigits u) 0) (w.alloc (.cells Lib.zeros24 126)) hH0 (by rw [Array.size_replicate]; exact Lib.lt_pow_nDigits u) hu64 (by rw [Array.size_replicate]; omega)
  rw [Array.size_replicate] at hfmt
  have HH0 := Lib.hid hH0
  have iu : (100 : Int) ≤ (u : Int) := by omega
  clear hH0 hal
  go_enter Tryz.func132, Tryz.ntmps132
  go_wp2_with (go_at_call 117; refine (Tryz.internal_strconv_numDigits u hu1 hu64 _ (Lib.tabIs_alloc htab _)).mono ?_; rintro e w' ⟨rfl, rfl⟩)
  go_at_call 118
  refine hfmt.mono ?_
  rintro e w' ⟨rfl, k, v', dk, rfl, hF⟩
  obtain ⟨os, eo⟩ := Lib.fin_at w (.cells Lib.zeros24 126) dk k 0
  have hb := Lib.below_grow w.heap.size w (Nat.le_refl _) k os
  rw [← eo] at hb
  have hnews : ∀ j x, (Lib.byteCells (Lib.decDigits u))[j]? = some x → ((putRow (fun (b : UInt8) => Value.int .u8 (b.toNat : Int)) (w.alloc (.cells Lib.zeros24 126)) w.heap.size 0 dk).drewN k).cell? ((⟨w.heap.size, 0, none⟩ : Addr).add j) = some x := by
    intro j x hx
    have hj : j < (Lib.decDigits u).length := by
      rcases Nat.lt_or_ge j (Lib.decDigits u).length with h | h
      · exact h
      · rw [List.getElem?_eq_none (by simp [Lib.byteCells]; omega)] at hx; cases hx
    have hx2 : x = .int .u8 ((Lib.decDigits u)[j].toNat : Int) := by
      rw [Lib.byteCells, List.getElem?_map, List.getElem?_eq_getElem hj] at hx
      exact (Option.some.inj hx).symm
    rw [hx2, Lib.row_is_numeral hF j hj, Lib.add_plain, World.cell?_drewN]
    exact cell?_putRow (fun (b : UInt8) => Value.int .u8 (b.toNat : Int)) _ w.heap.size 0 _ dk HH0.out (by rw [hF.size, Array.size_replicate]) j (by rw [hF.size]; rw [Lib.decDigits_length] at hj; exact hj)
  clear eo hF HH0
  generalize (putRow (fun (b : UInt8) => Value.int .u8 (b.toNat : Int)) (w.alloc (.cells Lib.zeros24 126)) w.heap.size 0 dk).drewN k = W at *
  have hown2 := own_same hown hb.block
  have hBW : B ≤ W.heap.size := Nat.le_trans hB hb.size
  have hdl : (Lib.decDigits u).length = Lib.nDigits u := Lib.decDigits_length u
  have HDL := Lib.hid hdl
  clear hdl
  go_wp2_with (at_builtin; refine wpList_append_own _ rfl _ _ 61 rfl B 5 i0 (.int .u8 0) 1 1 Tryz.underlying61 hi hz0 hz1 hz2 rfl (by decide) _ _ _ rfl hown2 ⟨w.heap.size, 0, none⟩ (Lib.nDigits u) 24 (Lib.byteCells (Lib.decDigits u)) rfl (by rw [Lib.byteCells_length, HDL.out, Nat.mul_one]) hnews (by intro x hx; simp [Lib.byteCells] at hx; obtain ⟨c, _, rfl⟩ := hx; rfl) (by unfold maxLen; omega) (by omega) hBW ?_; intro v2 w2 hown3 hgrow2 _; refine Hid.out ?_)
  refine Lib.hid ?_
  rw [← HDL.out] at hown3
  go_wp2
  go_ret
  exact ⟨_, rfl, hown3, grown_of_below hb hgrow2⟩

theorem appendUint_any (B n u : Nat) (sv : Value) (xs : List Value) (w : World) (hu64 : u < 18446744073709551616) (hown : w.ownsRow B 5 1 sv n xs) (hB : B ≤ w.heap.size) (hlim : n + 21 ≤ 140737488355328) (htab : PowLaid w) :
    Calls Tryz.prog 132 #[sv, .int .u64 u, .int .i64 10] w (OwnPost B n sv xs (Lib.decDigits u) w) := by
  by_cases h : u < 100
  · exact appendUint_small B n u sv xs w h hown hB hlim
  · exact appendUint_big B n u sv xs w (by omega) hu64 hown hB hlim htab
set_option maxHeartbeats 1600000 in
set_option maxRecDepth 100000 in
theorem appendInt_in (B n : Nat) (i : Int) (sv : Value) (xs : List Value) (w : World) (hi64 : In64 i) (hown : w.ownsRow B 5 1 sv n xs) (hB : B ≤ w.heap.size) (hlim : n + 22 ≤ 140737488355328) (hgB : 1 < B) (htab : PowLaid w) :
    Calls Tryz.prog 99 #[sv, .int .i64 i, .int .i64 10] w (OwnPost B n sv xs (Lib.itoa i) w) := by
  obtain ⟨i0, hi, hz0, hz1, hz2⟩ := info_parts bytesInfo
  unfold In64 at hi64
  by_cases h : i < 0
  · have hu : Hid (IntKind.u64.wrap (-IntKind.u64.wrap i) = (i.natAbs : Int)) := by show _ = _; rw [IntKind.wrap_u64, IntKind.wrap_u64]; omega
    have hb : i.natAbs < 18446744073709551616 := by omega
    have HI : Hid (Lib.itoa i = 45 :: Lib.decDigits i.natAbs) := itoa_neg h
    go_enter Tryz.func99, Tryz.ntmps99
    go_wp2_with (at_builtin; refine wpList_append_own_at _ rfl _ _ 61 rfl B 5 i0 (.int .u8 0) 1 1 Tryz.underlying61 hi hz0 hz1 hz2 rfl (by decide) _ _ _ rfl (hown.alloc _) ⟨w.heap.size, 0, none⟩ 1 1 [.int .u8 45] rfl rfl (by intro j u' hj; match j, hj with | 0, hj => (simp at hj; subst hj; simp [Addr.add])) (by intro u' hu'; simp at hu'; subst hu'; rfl) (by unfold maxLen; omega) (by omega) (by simp; omega) ?_; intro v2 w2 hown2 hgrow2 _ hloc2; refine Hid.out ?_)
    refine Lib.hid ?_
    have hg2 := grown_of_below (alloc_below w (.cells #[.int .u8 45] 5)) hgrow2
    have hB2 : B ≤ w2.heap.size := Nat.le_trans hB hg2.size
    have HT := Lib.hid (show PowLaid w2 from powLaid_grown hg2 hown hgB htab)
    have HN := Lib.hid (fun W h1 h2 h3 => appendUint_any B (n + 1) i.natAbs v2 (xs ++ [.int .u8 45]) W hb h1 h2 (by omega) h3)
    have HG := Lib.hid hg2
    have HL := Lib.hid hloc2
    clear hgrow2 hg2 hloc2 htab hown
    go_wp2_with fail
    rw [hu.out]
    refine (HN.out _ hown2 hB2 HT.out).mono ?_
    rintro e w3 ⟨v3, rfl, hown3, hg3⟩
    go_wp2
    go_ret
    refine ⟨_, rfl, ?_, grown_chain HG.out (HL.out.imp id (fun h => h)) (by simp) hg3⟩
    rw [HI.out]
    simpa [Lib.byteCells, Nat.add_assoc, Nat.add_comm 1] using hown3
  · obtain ⟨u, rfl⟩ : ∃ u : Nat, i = u := ⟨i.toNat, by omega⟩
    have hb : u < 18446744073709551616 := by omega
    have HI : Hid (Lib.itoa (u : Int) = Lib.decDigits u) := by show _ = _; rw [itoa_pos h]; rfl
    have hw : IntKind.u64.wrap (u : Int) = (u : Int) := by rw [IntKind.wrap_u64]; omega
    have HN := Lib.hid (fun W h1 h2 h3 => appendUint_any B n u sv xs W hb h1 h2 (by omega) h3)
    go_enter Tryz.func99, Tryz.ntmps99
    go_wp2_with fail
    refine (HN.out _ hown hB htab).mono ?_
    rintro e w3 ⟨v3, rfl, hown3, hg3⟩
    go_wp2
    go_ret
    exact ⟨_, rfl, by rw [HI.out]; exact hown3, hg3⟩
theorem appendInt_own (B n : Nat) (i : Int) (sv : Value) (xs : List Value) (w : World) (hi64 : In64 i) (hown : w.ownsRow B 5 1 sv n xs) (hB : B ≤ w.heap.size) (hlim : n + 22 ≤ 140737488355328) (hgB : 1 < B) (htab : PowLaid w) :
    Calls Tryz.prog 69 #[sv, .int .i64 i, .int .i64 10] w (OwnPost B n sv xs (Lib.itoa i) w) := by
  have HH := Lib.hid (appendInt_in B n i sv xs w hi64 hown hB hlim hgB htab)
  clear hown htab
  go_enter Tryz.func69, Tryz.ntmps69
  go_wp2_with fail
  refine HH.out.mono ?_
  rintro e w3 ⟨v3, rfl, hown3, hg3⟩
  go_wp2
  go_ret
  exact ⟨_, rfl, hown3, hg3⟩
end Go.Proofs.YtogdkhnakenbcaaGreatDoor
