/-
  Of disk: contract of SetFuse.
-/
import Derived.Test.YtellmmgiabfacaaDBegun
import Derived.Test.YtellmmgiabfacaaDNot
namespace Go.Proofs.Ytellmmgiabfacaa
open Go.ChangeShapes Go.WideShapes Go.ChangeAt Go.RowKit
set_option linter.unusedVariables false

/-- The fuse is laid. -/
def St.lit (s : St) (n : Int) (ks : List Bool) : St × Int := if n < 0 then (s, 1) else ({ s with fuse := n.toNat, keep := if n = 0 then [] else ks }, 0)
theorem row_low {w : World} {base b : Nat} {e : TypeId} {size : Nat} {v : Value} {n : Nat} {xs : List Value} (h : w.ownsRow base e size v n xs) (hb : b ≤ base) : w.ownsRow b e size v n xs := by
  obtain ⟨h1, h2 | ⟨g, cap, cur, h3, h4, h5⟩⟩ := h
  · exact ⟨h1, .inl h2⟩
  · exact ⟨h1, .inr ⟨g, cap, cur, h3, Nat.le_trans hb h4, h5⟩⟩
theorem nil_row (w : World) : w.ownsRow w.heap.size 4 1 (.slice none 0 0) 0 [] := ⟨by simp, .inl ⟨rfl, rfl⟩⟩
theorem DSt.unlit {w : World} {g : Nat} {v : Nat → Value} {pc : Value} {qs : List PV} {kp : Value} {s : St} (h : DSt w g v pc qs kp s) (n : Nat) (hn : n ≤ 9223372036854775807) :
    DSt ((w.setCell ⟨g, 3, none⟩ (.int .i64 n)).setCell ⟨g, 4, none⟩ (.slice none 0 0)) g v pc qs (.slice none 0 0) { s with fuse := n, keep := [] } := by
  have hg : g < w.heap.size := (Array.getElem?_eq_some_iff.1 h.box).1
  have h2 := (h.core.set 3 (.int .i64 n)).set 4 (.slice none 0 0)
  exact ⟨set10 (set10 h.box 3 _) 4 _, h2.keeps (by simpa [World.setCell] using hg) (row_low (nil_row _) (Nat.zero_le _)) (Below.refl _ _) (fun k hk => by cases hk), h.names, ⟨h.ok.sure, h.ok.pcs, hn, h.ok.calls⟩⟩
theorem DSt.relit {w w' : World} {g : Nat} {v : Nat → Value} {pc : Value} {qs : List PV} {kp kp' : Value} {s : St} (h : DSt w g v pc qs kp s) (ks : List Bool) (hb : Below w.heap.size w w') (hrow : w'.ownsRow w.heap.size 4 1 kp' ks.length (ks.map Value.bool)) :
    DSt (w'.setCell ⟨g, 4, none⟩ kp') g v pc qs kp' { s with keep := ks } := by
  have hg : g < w.heap.size := (Array.getElem?_eq_some_iff.1 h.box).1
  exact ⟨set10 (h.below hb).box 4 _, (h.core.keeps hg (row_low hrow (Nat.zero_le _)) hb (fun k hk => (hrow.lt k hk).1)).set 4 _, h.names, ⟨h.ok.sure, h.ok.pcs, h.ok.fuse, h.ok.calls⟩⟩
theorem Run.kept {w w' : World} {g : Nat} {v : Nat → Value} {pc : Value} {qs : List PV} {kp kp' : Value} (h : Turn w w' g v pc v pc) (hk : ∀ k, kp'.ownBlock = some k → w.heap.size ≤ k) : Run w w' g v pc qs kp v pc qs kp' := by
  refine ⟨h, fun k hk' hd => ?_⟩
  rcases hd with e | e | e
  · exact .inl e
  · have := hk k e; omega
  · exact .inr (.inr e)
set_option maxHeartbeats 2000000 in
set_option maxRecDepth 100000 in
theorem setFuse_any (g : Nat) (n : Int) (A : Option Addr) (c : Nat) (ks : List Bool) (w : World) (v : Nat → Value) (pc : Value) (qs : List PV) (kp : Value) (s : St) (hd : DSt w g v pc qs kp s) (hn : n ≤ 9223372036854775807) (hA : KRd w A ks) (hA0 : A = none → ks.length = 0) (hAg : 0 < ks.length → ∀ a, A = some a → a.block ≠ g) (hl : ks.length ≤ 140737488355328) :
    Calls Try.prog 31 #[.pointer (some ⟨g, 0, none⟩), .int .i64 n, .slice A ks.length c] w (Turned w g v pc qs kp (s.lit n ks)) := by
  have HC := Lib.hid (isMade_any hd.disk.mk)
  by_cases hneg : n < 0
  · have HD := Lib.hid hd
    clear hd hA hA0 hAg
    go_enter Try.func31, Try.ntmps31
    go_wp2_with fail
    refine HC.out.mono ?_
    rintro e w' ⟨rfl, rfl⟩
    go_wp2_with fail
    go_ret
    unfold St.lit
    rw [if_pos hneg]
    exact ⟨rfl, v, pc, qs, kp, HD.out, Run.refl _ _ _ _ _ _⟩
  · obtain ⟨m, rfl⟩ : ∃ m : Nat, n = (m : Int) := ⟨n.toNat, by omega⟩
    have hg : g < w.heap.size := (Array.getElem?_eq_some_iff.1 hd.box).1
    obtain ⟨⟨c0, c1, c2, c3, c4, c5, c6, c7, c8, c9⟩, hfz⟩ := box10 hd.box
    have HU := Lib.hid (hd.unlit m (by omega))
    have HT := Lib.hid ((Turn.set w g 3 (.int .i64 (m : Int)) v pc).trans (Turn.set (w.setCell ⟨g, 3, none⟩ (.int .i64 (m : Int))) g 4 (.slice none 0 0) v pc))
    by_cases h0 : m = 0
    · subst h0
      clear hd hA hA0 hAg hneg
      go_enter Try.func31, Try.ntmps31
      go_wp2_with fail
      refine HC.out.mono ?_
      rintro e w' ⟨rfl, rfl⟩
      go_wp2_with fail
      go_ret
      exact ⟨rfl, v, pc, qs, _, HU.out, Run.kept HT.out fun k hk => by cases hk⟩
    · have hpos : (0 : Int) < (m : Int) := by omega
      have hnz : ¬ (m : Int) = 0 := by omega
      have HCL := Lib.hid (cloneBools A ks.length c (ks.map Value.bool) ((w.setCell ⟨g, 3, none⟩ (.int .i64 (m : Int))).setCell ⟨g, 4, none⟩ (.slice none 0 0)) hA0 (by
        rintro a rfl j u hu
        rw [List.getElem?_map] at hu
        have hj : j < ks.length := by
          rcases Nat.lt_or_ge j ks.length with h | h
          · exact h
          · rw [List.getElem?_eq_none h] at hu; cases hu
        rw [List.getElem?_eq_getElem hj] at hu
        obtain rfl := Option.some.inj hu
        have h1 := hAg (by omega) a rfl
        obtain ⟨q, o, e, hq, hc⟩ := hA (by omega)
        obtain rfl := Option.some.inj e
        rw [Go.WideShapes.add_plain, World.cell?_setCell_other _ _ _ _ (by intro e; simp at e; exact h1 e.1.symm), World.cell?_setCell_other _ _ _ _ (by intro e; simp at e; exact h1 e.1.symm)]
        exact hc j hj) (by intro u hu; obtain ⟨b, _, rfl⟩ := List.mem_map.1 hu; rfl) (by simp) (by omega))
      have HN0 := Lib.hid hneg
      clear hd hA hA0 hAg hneg h0
      go_enter Try.func31, Try.ntmps31
      go_wp2_with fail
      refine HC.out.mono ?_
      rintro e w' ⟨rfl, rfl⟩
      go_wp2_with fail
      refine HCL.out.mono ?_
      rintro e w2 ⟨a, k, q, rfl, hrow, hb⟩
      have HR := Lib.hid (HU.out.relit ks hb hrow)
      have hbx2 := (HU.out.below hb).box
      obtain ⟨⟨-, -, -, -, e4, -⟩, hfz2⟩ := box10 hbx2
      have HT2 := Lib.hid ((HT.out.trans (Turn.below hb)).trans (Turn.set w2 g 4 (.slice a k q) v pc))
      have HKN := Lib.hid (fun x (hx : (Value.slice a k q).ownBlock = some x) => Nat.le_trans (HT.out.fr.size) (hrow.lt x hx).1)
      clear hrow hb hbx2
      go_wp2_with fail
      go_ret
      unfold St.lit
      rw [if_neg (by have := HN0.out; omega)]
      exact ⟨rfl, v, pc, qs, _, by rw [if_neg (by omega)]; exact HR.out, Run.kept HT2.out HKN.out⟩
end Go.Proofs.Ytellmmgiabfacaa
