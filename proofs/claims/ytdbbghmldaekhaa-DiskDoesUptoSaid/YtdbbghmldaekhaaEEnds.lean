/-
  The document's disk: ends, Crash; a piece more.
-/
import Derived.Test.YtdbbghmldaekhaaELose
namespace Go.Proofs.Ytdbbghmldaekhaa
open Go.ChangeShapes Go.WideShapes Go.ChangeAt Go.RowKit
set_option linter.unusedVariables false

theorem ends_no (w : World) (B g : Nat) (a : Nat → Option Addr) (k : Nat → Nat) (pc : Value) (qs : List PV) (ka : Option Addr) (kc : Nat) (ks : List Bool) (R : Nat → Prop) (s : St) (hd : RSt w B g a k pc qs ka kc ks R s) : Calls Try.prog 103 #[.pointer (some ⟨g, 0, none⟩), .bool false] w fun e w' => e = .returned (.int .i64 0) ∧ w = w' := by
  clear hd
  go_enter Try.func103, Try.ntmps103
  go_wp2_with fail
  go_ret
  exact ⟨rfl, rfl⟩
theorem ends_hit (w : World) (B g : Nat) (a : Nat → Option Addr) (k : Nat → Nat) (pc : Value) (qs : List PV) (ka : Option Addr) (kc : Nat) (ks : List Bool) (R : Nat → Prop) (s : St) (hd : RSt w B g a k pc qs ka kc ks R s) (hlim : qs.length ≤ 8000000000000) : Calls Try.prog 103 #[.pointer (some ⟨g, 0, none⟩), .bool true] w (RPost B g pc R (s.crash ks, 6) w) := by
  obtain ⟨⟨c0, c1, c2, c3, c4, c5, c6⟩, hfz⟩ := box7 hd.box
  have HL := Lib.hid (rlose_any ka kc ks w B g a k pc qs ka kc ks R s hd hd.core.keep.1 (fun h0 x hx => by
    have hr := hd.core.keep.2 h0 x hx
    rintro (e | e)
    · exact hd.core.nog (e ▸ hr)
    · exact hd.core.nop _ e hr) hlim)
  have hgl := hd.g_lt
  clear hd
  go_enter Try.func103, Try.ntmps103
  go_wp2_with fail
  refine HL.out.mono ?_
  rintro e w4 ⟨rfl, R4, h4, t4⟩
  have H4 := Lib.hid h4
  have T4 := Lib.hid t4
  clear h4 t4
  go_wp2_with fail
  go_ret
  exact ⟨rfl, _, R4, H4.out, T4.out⟩
theorem rcrash_any (A : Option Addr) (c m : Nat) (l : List Bool) (w : World) (B g : Nat) (a : Nat → Option Addr) (k : Nat → Nat) (pc : Value) (qs : List PV) (ka : Option Addr) (kc : Nat) (ks : List Bool) (R : Nat → Prop) (s : St) (hd : RSt w B g a k pc qs ka kc ks R s) (hA : KRd w A l) (hm : m = l.length) (hAF : 0 < l.length → ∀ x, A = some x → ¬ RF g pc x.block) (hlim : qs.length ≤ 8000000000000) :
    Calls Try.prog 61 #[.pointer (some ⟨g, 0, none⟩), .slice A m c] w (RPost B g pc R (s.crashed l) w) := by
  subst hm
  obtain ⟨⟨c0, c1, c2, c3, c4, c5, c6⟩, hfz⟩ := box7 hd.box
  have hgl := hd.g_lt
  unfold St.crashed
  cases hdn : s.down with
  | true =>
    rw [hdn] at c6
    have HD := Lib.hid hd
    clear hd hA hAF
    go_enter Try.func61, Try.ntmps61
    go_wp2_with fail
    go_ret
    exact ⟨rfl, pc, R, ⟨a, k, qs, ka, kc, ks, HD.out⟩, RTurn.refl _ _ _ _⟩
  | false =>
    rw [hdn] at c6
    have HL := Lib.hid (rlose_any A c l w B g a k pc qs ka kc ks R s hd hA hAF hlim)
    clear hd hA hAF
    go_enter Try.func61, Try.ntmps61
    go_wp2_with fail
    refine HL.out.mono ?_
    rintro e w4 ⟨rfl, R4, h4, t4⟩
    have H4 := Lib.hid h4
    have T4 := Lib.hid t4
    clear h4 t4
    go_wp2_with fail
    go_ret
    exact ⟨rfl, _, R4, H4.out, T4.out⟩
theorem pieceInfo4 : (Try.prog.info? 150).map (fun i => (i.zero, i.size, i.bytes)) = some (some (.agg #[.int .i64 0, .bool false, .int .i64 0, .slice none 0 0]), 4, 48) := by kernel_rfl
theorem step_piece {ops : Array Oper} {o : Oper} {a : Act} {K : Act → World → Prop} {Q : Exit → Act → World → Prop} {E : Prop} (hgd : o.guard = none) (s x : Operand)
    (ho : o.op = .call { callee := .builtin .append, args := #[s, x], argTypes := #[98, 98] }) (B : Nat) (v : Value) (y : PV) (n : Nat) (xs : List Value) (w : World) (hs : a.eval s = v) (q : Nat) (hx : a.eval x = .slice (some ⟨q, 0, none⟩) 1 1)
    (hown : w.ownsRow B 150 4 v n xs) (hB : B ≤ w.heap.size) (hc : ∀ j u, y.cells4[j]? = some u → w.cell? ⟨q, j, none⟩ = some u) (hlim : n + 1 ≤ 2000000000000)
    (h : ∀ v' w', w'.ownsRow B 150 4 v' (n + 1) (xs ++ y.cells4) → Grw w w' v v' → K (a.put o.dst v') w') : if Region.wanted o (yielded ops a.tmps) = true then Oper.wp Try.prog o a w K Q else E := by
  obtain ⟨i0, hi, hz0, hz1, hz2⟩ := info_parts pieceInfo4
  refine step_append_lies _ hgd s x 98 ho B 150 i0 (.agg #[.int .i64 0, .bool false, .int .i64 0, .slice none 0 0]) 4 48 Try.underlying98 hi hz0 hz1 hz2 rfl (by decide) v _ _ hs hown ⟨q, 0, none⟩ 1 1 y.cells4 hx rfl (fun j u hj => by
    rw [Go.WideShapes.add_plain, Nat.zero_add]
    exact hc j u hj) (fun u hu => by simp [PV.cells4] at hu; rcases hu with rfl | rfl | rfl | rfl <;> rfl) (by decide) (by unfold maxLen; omega) (by omega) hB _ rfl ?_
  intro g cap w1 hown1 hgrow hat hlt
  exact h _ w1 hown1 (Grw.lies hgrow hat)
theorem RCore.push {w : World} {B g : Nat} {a : Nat → Option Addr} {k : Nat → Nat} {pc : Value} {qs : List PV} {ka : Option Addr} {ks : List Bool} {R : Nat → Prop} {su : Nat → List UInt8} (h : RCore w B g a k pc qs ka ks R su) {w' : World} {pc' : Value} (q : PV) (hrow : w'.ownsRow B 150 4 pc' (qs.length + 1) (row4 qs ++ q.cells4)) (hg : Grw w w' pc pc') (hq : BRd w q.A q.p.b ∧ (0 < q.p.b.length → ∀ x, q.A = some x → R x.block)) : RCore w' B g a k pc' (qs ++ [q]) ka ks R su := by
  have hf : Fr (fun j => pc.ownBlock = some j) w w' := .of_grw hg fun _ h => h
  have hnew : ∀ j, pc'.ownBlock = some j → pc.ownBlock = some j ∨ w.heap.size ≤ j := fun j hj => hg.at_.elim (fun e => .inl (e ▸ hj)) fun e => .inr (e j hj)
  have hrow' : row4 qs ++ q.cells4 = row4 (qs ++ [q]) := by rw [row4_app]; simp [row4]
  rw [hrow'] at hrow
  refine ⟨h.base, Nat.lt_of_lt_of_le h.glt hf.size, by rw [List.length_append]; exact hrow, fun i hi => ⟨(h.sure i hi).1.fr' hf fun h0 x hx hF => h.nop _ hF ((h.sure i hi).2.1 h0 x hx), (h.sure i hi).2⟩, fun y hy => ?_, ⟨h.keep.1.fr hf fun h0 x hx hF => h.nop _ hF (h.keep.2 h0 x hx), h.keep.2⟩, h.nog, fun j hj hR => ?_, fun e => ?_, fun j hj => Nat.lt_of_lt_of_le (h.lt j hj) hf.size⟩
  · have hy' : BRd w y.A y.p.b ∧ (0 < y.p.b.length → ∀ x, y.A = some x → R x.block) := by
      rcases List.mem_append.1 hy with hy | hy
      · exact h.reads y hy
      · obtain rfl : y = q := by simpa using hy
        exact hq
    exact ⟨hy'.1.fr' hf fun h0 x hx hF => h.nop _ hF (hy'.2 h0 x hx), hy'.2⟩
  · rcases hnew j hj with e | e
    · exact h.nop j e hR
    · have := h.lt j hR; omega
  · rcases hnew g e with e' | e'
    · exact h.ng e'
    · have := h.glt; omega
theorem RTurn.push {w w' : World} {g : Nat} {pc pc' : Value} {R : Nat → Prop} (h : Grw w w' pc pc') : RTurn w w' g pc R pc' R :=
  ⟨.of_grw h fun k hk => .inr hk, fun j hj hd => h.at_.elim (fun e => e ▸ hd) fun e => by have := e j hd; omega, fun _ _ h => h⟩
end Go.Proofs.Ytdbbghmldaekhaa
