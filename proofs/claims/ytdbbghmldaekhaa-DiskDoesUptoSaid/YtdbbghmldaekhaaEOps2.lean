/-
  The document's disk: SetFuse, Size, Read.
-/
import Derived.Test.YtdbbghmldaekhaaEOps
import Derived.Test.YtdbbghmldaekhaaDFuse
namespace Go.Proofs.Ytdbbghmldaekhaa
open Go.ChangeShapes Go.WideShapes Go.ChangeAt Go.RowKit
set_option linter.unusedVariables false

/-- What is read, and what is new. -/
def More (R : Nat → Prop) (w w' : World) : Nat → Prop := fun j => R j ∨ w.heap.size ≤ j ∧ j < w'.heap.size
theorem RCore.more {w : World} {B g : Nat} {a : Nat → Option Addr} {k : Nat → Nat} {pc : Value} {qs : List PV} {ka : Option Addr} {ks : List Bool} {R : Nat → Prop} {su : Nat → List UInt8} (h : RCore w B g a k pc qs ka ks R su) {w' : World} (hb : Below w.heap.size w w') : RCore w' B g a k pc qs ka ks (More R w w') su :=
  have h' := h.below hb
  ⟨h'.base, h'.glt, h'.row, fun i hi => ⟨(h'.sure i hi).1, fun h0 x hx => .inl ((h'.sure i hi).2.1 h0 x hx), (h'.sure i hi).2.2⟩, fun q hq => ⟨(h'.reads q hq).1, fun h0 x hx => .inl ((h'.reads q hq).2 h0 x hx)⟩, ⟨h'.keep.1, fun h0 x hx => .inl (h'.keep.2 h0 x hx)⟩,
    fun hd => hd.elim h.nog fun hd => by have := h.glt; omega, fun j hj hd => hd.elim (h.nop j hj) fun hd => by have := (h.row.lt j hj).2; omega, h.ng, fun j hj => hj.elim (fun hj => Nat.lt_of_lt_of_le (h.lt j hj) hb.size) fun hj => hj.2⟩
theorem RCore.keep_set {w : World} {B g : Nat} {a : Nat → Option Addr} {k : Nat → Nat} {pc : Value} {qs : List PV} {ka : Option Addr} {ks : List Bool} {R : Nat → Prop} {su : Nat → List UInt8} (h : RCore w B g a k pc qs ka ks R su) {ka' : Option Addr} {ks' : List Bool} (hk : KRd w ka' ks' ∧ (0 < ks'.length → ∀ x, ka' = some x → R x.block)) : RCore w B g a k pc qs ka' ks' R su :=
  ⟨h.base, h.glt, h.row, h.sure, h.reads, hk, h.nog, h.nop, h.ng, h.lt⟩
theorem RCore.sure_set {w : World} {B g : Nat} {a : Nat → Option Addr} {k : Nat → Nat} {pc : Value} {qs : List PV} {ka : Option Addr} {ks : List Bool} {R : Nat → Prop} {su : Nat → List UInt8} (h : RCore w B g a k pc qs ka ks R su) (i : Nat) {a' : Option Addr} {k' : Nat} {l' : List UInt8} (hs : BRd w a' l' ∧ (0 < l'.length → ∀ x, a' = some x → R x.block) ∧ l'.length ≤ k') : RCore w B g (upd a i a') (upd k i k') pc qs ka ks R (upd su i l') :=
  ⟨h.base, h.glt, h.row, fun j hj => by
    by_cases e : j = i
    · subst e
      rw [upd_same, upd_same, upd_same]
      exact hs
    · rw [upd_ne _ _ e, upd_ne _ _ e, upd_ne _ _ e]
      exact h.sure j hj, h.reads, h.keep, h.nog, h.nop, h.ng, h.lt⟩
theorem RTurn.more {w w' : World} {g : Nat} {pc : Value} {R : Nat → Prop} (h : Below w.heap.size w w') : RTurn w w' g pc R pc (More R w w') := ⟨.of_below h, fun _ _ h => h, fun j hj hd => hd.elim id fun hd => by omega⟩
theorem run_copyb (w : World) (ty : TypeId) (A : Option Addr) (c : Nat) (l : List Bool) (hA : KRd w A l) (hlim : l.length ≤ 140737488355328) :
    ∃ a k w', (Builtin.append_ #[23, 23] ty #[.slice none 0 0, .slice A l.length c]).run Try.prog w = .ok (.slice a l.length k) w' ∧ w'.ownsRow w.heap.size 4 1 (.slice a l.length k) l.length (l.map Value.bool) ∧ Below w.heap.size w w' := by
  obtain ⟨i, hi, hz, hs, hbb⟩ := info_parts boolInfo
  have ht := Try.underlying23
  by_cases h0 : 0 < l.length
  · obtain ⟨g, off, rfl, hg, hc⟩ := hA h0
    obtain ⟨v', w', h1, h2, h3, _⟩ := run_append_own (P := Try.prog) w w.heap.size 23 ty 4 i (.bool false) 1 1 ht hi hz hs hbb rfl (by decide) (.slice none 0 0) 0 [] (World.ownsRow_nil _ _ _ _) ⟨g, off, none⟩ l.length c (l.map Value.bool) (by simp) (fun j u hj => by
      rw [List.getElem?_map] at hj
      have hj' : j < l.length := by
        rcases Nat.lt_or_ge j l.length with h | h
        · exact h
        · rw [List.getElem?_eq_none h] at hj; cases hj
      rw [List.getElem?_eq_getElem hj'] at hj
      rw [Go.WideShapes.add_plain, hc j hj']
      exact hj) (fun u hu => by simp at hu; rcases hu with ⟨_, rfl⟩ | ⟨_, rfl⟩ <;> rfl) (by unfold maxLen; omega) (by omega) (Nat.le_refl _)
    rw [Nat.zero_add, List.nil_append] at h2
    obtain ⟨a', k', rfl⟩ : ∃ a' k', v' = .slice a' l.length k' := by
      rcases h2.2 with ⟨_, h9⟩ | ⟨q, cap, cur, hv, _⟩
      · omega
      · exact ⟨_, _, hv⟩
    exact ⟨a', k', w', h1, h2, (Below.refl _ w).grown h3 (Nat.le_refl _) fun k hk => by simp [Value.ownBlock] at hk⟩
  · obtain rfl : l = [] := List.length_eq_zero_iff.1 (by omega)
    refine ⟨none, 0, w, ?_, World.ownsRow_nil _ _ _ _, Below.refl _ _⟩
    cases A <;> simp [Builtin.append_, run_underlying ht, sizeOf, typeInfo, hi, Builtin.lenOf, Builtin.firstCells, loadCells, loadCellsFrom]
theorem wpList_copyb {w : World} {ops : Array Oper} {rest : List Oper} {o : Oper} {a : Act} {Q : Exit → Act → World → Prop} (hgd : o.guard = none) (s x : Operand)
    (ho : o.op = .call { callee := .builtin .append, args := #[s, x], argTypes := #[23, 23] }) (A : Option Addr) (n c : Nat) (l : List Bool) (hs : a.eval s = .slice none 0 0) (hx : a.eval x = .slice A n c) (hn : n = l.length) (hA : KRd w A l) (hlim : l.length ≤ 140737488355328)
    (h : ∀ p k w', w'.ownsRow w.heap.size 4 1 (.slice p l.length k) l.length (l.map Value.bool) → Below w.heap.size w w' → wpList Try.prog ops Q rest (a.put o.dst (.slice p l.length k)) w') : wpList Try.prog ops Q (o :: rest) a w := by
  subst hn
  refine wpList_plain hgd fun _ hK => ?_
  obtain ⟨p, k, w', hr, h2, h3⟩ := run_copyb w o.type A c l hA hlim
  unfold Oper.wp execOp
  simp only [ho, resolve, invoke, builtin, Sem.run_bind, Sem.run_pure, Result.andThen_ok, List.map_toArray, List.map_cons, List.map_nil, hs, hx, hr]
  exact hK _ _ (h _ _ _ h2 h3)
theorem RSt.lit1 {w : World} {B g : Nat} {a : Nat → Option Addr} {k : Nat → Nat} {pc : Value} {qs : List PV} {ka : Option Addr} {kc : Nat} {ks : List Bool} {R : Nat → Prop} {s : St} (h : RSt w B g a k pc qs ka kc ks R s) (m : Nat) (hm : m ≤ 9223372036854775807) : RCore (w.setCell ⟨g, 3, none⟩ (.int .i64 m)) B g a k pc qs ka ks R s.sure ∧ (w.setCell ⟨g, 3, none⟩ (.int .i64 m)).heap[g]? = some (.cells (rbox { s with fuse := m } a k pc ka kc ks) 100 (0, 0)) :=
  ⟨h.core.set 3 _, set10 h.box 3 _⟩
set_option maxHeartbeats 2000000 in
set_option maxRecDepth 100000 in
theorem rfuse_any (n : Int) (A : Option Addr) (c m : Nat) (l : List Bool) (w : World) (B g : Nat) (a : Nat → Option Addr) (k : Nat → Nat) (pc : Value) (qs : List PV) (ka : Option Addr) (kc : Nat) (ks : List Bool) (R : Nat → Prop) (s : St) (hd : RSt w B g a k pc qs ka kc ks R s) (hn : n ≤ 9223372036854775807) (hA : KRd w A l) (hm : m = l.length) (hAg : 0 < l.length → ∀ x, A = some x → x.block ≠ g) (hlim : l.length ≤ 140737488355328) :
    Calls Try.prog 62 #[.pointer (some ⟨g, 0, none⟩), .int .i64 n, .slice A m c] w (RPost B g pc R (s.lit n l) w) := by
  have hgl := hd.g_lt
  obtain ⟨⟨c0, c1, c2, c3, c4, c5, c6⟩, hfz⟩ := box7 hd.box
  by_cases hneg : n < 0
  · have HD := Lib.hid hd
    clear hd hA hAg
    go_enter Try.func62, Try.ntmps62
    go_wp2_with fail
    go_ret
    unfold St.lit
    rw [if_pos hneg]
    exact ⟨rfl, pc, R, ⟨a, k, qs, ka, kc, ks, HD.out⟩, RTurn.refl _ _ _ _⟩
  · obtain ⟨z, rfl⟩ : ∃ z : Nat, n = (z : Int) := ⟨n.toNat, by omega⟩
    obtain ⟨h1, h2⟩ := hd.lit1 z (by omega)
    have H1 := Lib.hid h1
    have H2 := Lib.hid h2
    have HD := Lib.hid hd
    have HA := Lib.hid (hA.fr (F := fun j => j = g) (Fr.set w g 3 (.int .i64 (z : Int)) rfl) hAg)
    have HM := Lib.hid hm
    have hgl1 := h1.glt
    clear hd hA hAg h1 h2 hm
    go_enter Try.func62, Try.ntmps62
    go_wp2_with (at_builtin; refine wpList_copyb rfl _ _ rfl A m c l rfl rfl HM.out HA.out hlim ?_; intro p4 k4 w4 hrow4 hb4; refine Hid.out ?_)
    refine Lib.hid ?_
    have HR4 := Lib.hid hrow4
    have HB4 := Lib.hid hb4
    have hg4 : g < w4.heap.size := Nat.lt_of_lt_of_le hgl1 hb4.size
    have hbx := (hb4.block g hgl1).trans H2.out
    obtain ⟨-, hfz4⟩ := box7 hbx
    have HBX := Lib.hid hbx
    obtain ⟨⟨-, -, -, -, d4, -, -⟩, -⟩ := box7 hbx
    clear hrow4 hb4 hbx
    go_wp2_with fail
    go_ret
    unfold St.lit
    rw [if_neg (by omega)]
    have h3 := (H1.out.more HB4.out).keep_set (ka' := p4) (ks' := l) ⟨own_krd HR4.out, fun h0 x hx => .inr (World.ownsRow.lt HR4.out x.block (by rw [hx]; rfl))⟩
    refine ⟨rfl, pc, _, ⟨a, k, qs, p4, k4, l, ⟨set10 HBX.out 4 _, h3.set 4 _, fun hz => ?_, HD.out.names, ⟨HD.out.ok.sure, HD.out.ok.pcs, by show (z : Int).toNat ≤ 9223372036854775807; omega, HD.out.ok.calls⟩⟩⟩, ((RTurn.set w g 3 _ pc R).trans (RTurn.more HB4.out)).trans (RTurn.set _ _ _ _ _ _)⟩
    have hz' : (z : Int).toNat ≠ 0 := hz
    show l = if (z : Int) = 0 then [] else l
    rw [if_neg (by omega)]
theorem rsize_any (f : Int) (w : World) (B g : Nat) (a : Nat → Option Addr) (k : Nat → Nat) (pc : Value) (qs : List PV) (ka : Option Addr) (kc : Nat) (ks : List Bool) (R : Nat → Prop) (s : St) (hd : RSt w B g a k pc qs ka kc ks R s) (hlim : qs.length ≤ 8000000000000) : Calls Try.prog 65 #[.pointer (some ⟨g, 0, none⟩), .int .i64 f] w fun e w' => e = .returned (.tuple #[.int .i64 (if s.may f = 0 then ((s.now f.toNat).length : Int) else 0), .int .i64 (s.may f)]) ∧ Below w.heap.size w w' := by
  have HM := Lib.hid (rmay_any f w B g a k pc qs ka kc ks R s hd)
  by_cases hm : s.may f = 0
  · rw [if_pos hm, hm]
    rw [hm] at HM
    obtain ⟨-, hf⟩ := may_file hm
    clear hm
    rcases hf with rfl | rfl
    · have HN := Lib.hid (now_0 w B g a k pc qs ka kc ks R s hd hlim)
      clear hd
      rw [show (0 : Int).toNat = 0 from rfl]
      generalize s.now 0 = L at *
      go_enter Try.func65, Try.ntmps65
      go_wp2_with fail
      refine HM.out.mono ?_
      rintro e w' ⟨rfl, rfl⟩
      go_wp2_with fail
      refine HN.out.mono ?_
      rintro e w4 ⟨a4, n4, k4, rfl, hn4, -, -, -, hb4⟩
      go_wp2_with fail
      go_ret2
      exact ⟨rfl, hb4⟩
    · have HN := Lib.hid (now_1 w B g a k pc qs ka kc ks R s hd hlim)
      clear hd
      rw [show (1 : Int).toNat = 1 from rfl]
      generalize s.now 1 = L at *
      go_enter Try.func65, Try.ntmps65
      go_wp2_with fail
      refine HM.out.mono ?_
      rintro e w' ⟨rfl, rfl⟩
      go_wp2_with fail
      refine HN.out.mono ?_
      rintro e w4 ⟨a4, n4, k4, rfl, hn4, -, -, -, hb4⟩
      go_wp2_with fail
      go_ret2
      exact ⟨rfl, hb4⟩
  · rw [if_neg hm]
    generalize s.may f = m at *
    clear hd
    go_enter Try.func65, Try.ntmps65
    go_wp2_with fail
    refine HM.out.mono ?_
    rintro e w' ⟨rfl, rfl⟩
    go_wp2_with fail
    go_ret2
    exact ⟨rfl, Below.refl _ _⟩
/-- What Read answers. -/
def RRead (x : List UInt8 × Int) (w : World) (e : Ending) (w' : World) : Prop := ∃ a n k, e = .returned (.tuple #[.slice a n k, .int .i64 x.2]) ∧ n = x.1.length ∧ BRd w' a x.1 ∧ Below w.heap.size w w'
theorem brd_cut {w : World} {a A' : Option Addr} {L : List UInt8} {m j cap : Nat} (h : BRd w a L) (hm : m ≤ L.length) (hj : j ≤ L.length - m) (hc : L.length ≤ cap) (hA' : (A' = a ∧ cap = m) ∨ A' = a.map (fun x => x.add m)) : BRd w A' ((L.drop m).take j) := by
  have hlj : ((L.drop m).take j).length = j := by simp; omega
  rcases hA' with ⟨rfl, hcm⟩ | rfl
  · intro h0
    rw [hlj] at h0
    omega
  · intro h0
    have hb0 : 0 < L.length := by rw [hlj] at h0; omega
    obtain ⟨q, o, rfl, -⟩ := h hb0
    have := h.sub m j
    rw [Option.map_some, Go.WideShapes.add_plain]
    exact this h0
set_option maxHeartbeats 1600000 in
theorem rread_any (f at_ n : Int) (w : World) (B g : Nat) (a : Nat → Option Addr) (k : Nat → Nat) (pc : Value) (qs : List PV) (ka : Option Addr) (kc : Nat) (ks : List Bool) (R : Nat → Prop) (s : St) (hd : RSt w B g a k pc qs ka kc ks R s) (hlim : qs.length ≤ 8000000000000) : Calls Try.prog 64 #[.pointer (some ⟨g, 0, none⟩), .int .i64 f, .int .i64 at_, .int .i64 n] w (RRead (s.read f at_ n) w) := by
  have HM := Lib.hid (rmay_any f w B g a k pc qs ka kc ks R s hd)
  unfold St.read
  by_cases hm : s.may f = 0
  · rw [if_neg (by omega)]
    rw [hm] at HM
    obtain ⟨-, hf⟩ := may_file hm
    clear hm
    by_cases hneg : at_ < 0 ∨ n < 0
    · rw [if_pos hneg]
      clear hd
      by_cases hk : at_ < 0
      · clear hneg
        go_enter Try.func64, Try.ntmps64
        go_wp2_with fail
        refine HM.out.mono ?_
        rintro e w' ⟨rfl, rfl⟩
        go_wp2_with fail
        go_ret2
        exact ⟨none, 0, 0, rfl, rfl, BRd.nil _ _, Below.refl _ _⟩
      · have hn : n < 0 := by omega
        clear hneg
        go_enter Try.func64, Try.ntmps64
        go_wp2_with fail
        refine HM.out.mono ?_
        rintro e w' ⟨rfl, rfl⟩
        go_wp2_with fail
        go_ret2
        exact ⟨none, 0, 0, rfl, rfl, BRd.nil _ _, Below.refl _ _⟩
    · rw [if_neg hneg]
      obtain ⟨m, rfl⟩ : ∃ m : Nat, at_ = (m : Int) := ⟨at_.toNat, by omega⟩
      obtain ⟨z, rfl⟩ : ∃ z : Nat, n = (z : Int) := ⟨n.toNat, by omega⟩
      rw [show (m : Int).toNat = m from rfl, show (z : Int).toNat = z from rfl]
      have main : ∀ (L : List UInt8), L.length ≤ 4194304 → (f = 0 ∨ f = 1) → Calls Try.prog 66 #[.pointer (some ⟨g, 0, none⟩), .int .i64 f] w (Shown R L w) →
          Calls Try.prog 64 #[.pointer (some ⟨g, 0, none⟩), .int .i64 f, .int .i64 (m : Int), .int .i64 (z : Int)] w (RRead ((L.drop m).take z, 0) w) := by
        intro L hL hf hN
        have HN := Lib.hid hN
        have hm0 : ¬ (m : Int) < 0 := by omega
        have hz0 : ¬ (z : Int) < 0 := by omega
        clear hd hN hneg hlim
        by_cases hmL : m ≤ L.length
        · have hmI : (m : Int) ≤ (L.length : Int) := by omega
          obtain ⟨j, hj⟩ : ∃ j, j = min z (L.length - m) := ⟨_, rfl⟩
          have hjI : min (z : Int) ((L.length : Int) - (m : Int)) = (j : Int) := by omega
          have hjI2 : min (z : Int) ((L.length - m : Nat) : Int) = (j : Int) := by omega
          have hjl : j ≤ L.length - m := by omega
          have HJ : Hid ((L.drop m).take z = (L.drop m).take j) := by
            show _ = _
            rw [hj]
            by_cases h : z ≤ L.length - m
            · rw [Nat.min_eq_left h]
            · rw [Nat.min_eq_right (by omega), List.take_of_length_le (by simp; omega), List.take_of_length_le (by simp)]
          clear hj
          rcases hf with rfl | rfl
          all_goals
            go_enter Try.func64, Try.ntmps64
            go_wp2_with fail
            refine HM.out.mono ?_
            rintro e w' ⟨rfl, rfl⟩
            go_wp2_with fail
            refine HN.out.mono ?_
            rintro e w4 ⟨a4, n4, k4, rfl, hn4, hk4, hr4, -, hb4⟩
            have HR4 := Lib.hid hr4
            have HB4 := Lib.hid hb4
            have hmk : m ≤ k4 := by omega
            have hjk : j ≤ k4 - m := by omega
            subst hn4
            clear hr4 hb4
            go_wp2_with fail
            all_goals
              go_ret2
              rw [HJ.out]
              first
                | exact ⟨_, _, _, rfl, by simp; omega, brd_cut HR4.out hmL hjl hk4 (.inr rfl), HB4.out⟩
                | exact ⟨_, _, _, rfl, by simp; omega, brd_cut HR4.out hmL hjl hk4 (.inl ⟨rfl, by assumption⟩), HB4.out⟩
        · have hmI : (L.length : Int) < (m : Int) := by omega
          have HJ : Hid ((L.drop m).take z = []) := by show _ = _; rw [List.drop_eq_nil_of_le (by omega), List.take_nil]
          rcases hf with rfl | rfl
          all_goals
            go_enter Try.func64, Try.ntmps64
            go_wp2_with fail
            refine HM.out.mono ?_
            rintro e w' ⟨rfl, rfl⟩
            go_wp2_with fail
            refine HN.out.mono ?_
            rintro e w4 ⟨a4, n4, k4, rfl, hn4, hk4, hr4, -, hb4⟩
            have HB4 := Lib.hid hb4
            subst hn4
            clear hr4 hb4
            go_wp2_with fail
            go_ret2
            rw [HJ.out]
            exact ⟨none, 0, 0, rfl, rfl, BRd.nil _ _, HB4.out⟩
      have o := hd.ok
      rcases hf with rfl | rfl
      · exact main _ (o.now 0) (.inl rfl) (now_0 w B g a k pc qs ka kc ks R s hd hlim)
      · exact main _ (o.now 1) (.inr rfl) (now_1 w B g a k pc qs ka kc ks R s hd hlim)
  · rw [if_pos hm]
    generalize s.may f = m at *
    clear hd
    go_enter Try.func64, Try.ntmps64
    go_wp2_with fail
    refine HM.out.mono ?_
    rintro e w' ⟨rfl, rfl⟩
    go_wp2_with fail
    go_ret2
    exact ⟨none, 0, 0, rfl, rfl, BRd.nil _ _, Below.refl _ _⟩
end Go.Proofs.Ytdbbghmldaekhaa
