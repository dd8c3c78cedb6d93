/-
  Of disk: contract of patches: the parts of bytes at an offset.
-/
import Derived.Test.YtellmmgiabfacaaDRead
namespace Go.Proofs.Ytellmmgiabfacaa
open Go.ChangeShapes Go.WideShapes Go.ChangeAt Go.RowKit
set_option linter.unusedVariables false

theorem pieceInfo : (Try.prog.info? 173).map (fun i => (i.zero, i.size, i.bytes)) = some (some .nilIface, 1, 16) := by kernel_rfl
theorem wpList_piece {w0 : World} {T : TypeId} {ops : Array Oper} {rest : List Oper} {o : Oper} {a : Act} {Q : Exit → Act → World → Prop} (hgd : o.guard = none) (s x : Operand)
    (ho : o.op = .call { callee := .builtin .append, args := #[s, x], argTypes := #[136, 136] }) (B : Nat) (v u : Value) (hu : u.oneCell' = true) (n : Nat) (xs : List Value) (hs : a.eval s = v) (hx : a.eval x = .slice (some ⟨w0.heap.size, 0, none⟩) 1 1)
    (hown : w0.ownsRow B 173 1 v n xs) (hB : B ≤ w0.heap.size) (hlim : n + 1 ≤ 8000000000000)
    (h : ∀ v' w', w'.ownsRow B 173 1 v' (n + 1) (xs ++ [u]) → Grw w0 w' v v' → wpList Try.prog ops Q rest (a.put o.dst v') w') : wpList Try.prog ops Q (o :: rest) a (w0.alloc (.cells #[u] T)) := by
  obtain ⟨i0, hi, hz0, hz1, hz2⟩ := info_parts pieceInfo
  refine wpList_append_lies _ hgd s x 136 ho B 173 i0 .nilIface 1 16 Try.underlying136 hi hz0 hz1 hz2 rfl (by decide) v _ _ hs (hown.alloc _) ⟨w0.heap.size, 0, none⟩ 1 1 [u] hx rfl (fun j y hj => by match j, hj with | 0, hj => (simp at hj; subst hj; simp [Addr.add])) (fun y hy => by simp at hy; subst hy; exact hu) (by decide) (by unfold maxLen; omega) (by omega) (by simp; omega) _ rfl ?_
  intro g cap w1 hown1 hgrow hat hlt
  refine h _ w1 hown1 ?_
  have hg : w0.grownBy w1 v.ownBlock := ⟨hgrow.os, hgrow.tape, hgrow.output, Nat.le_trans (by simp) hgrow.size, fun k hk hr => (hgrow.block k (by simp; omega) hr).trans (Below.heap_alloc _ _ _ hk)⟩
  refine ⟨hg, ?_⟩
  rcases hat with e | e
  · exact .inl e.symm
  · exact .inr fun k hk => by simp [Value.ownBlock] at hk; simp at e; omega
/-- A list of pieces of the call's own, as interface values; their bytes lie in the block q0. -/
structure Lst (w : World) (B : Nat) (x : Value) (qs : List PV) (q0 : Nat) : Prop where
  row : w.ownsRow B 173 1 x qs.length (qs.map PV.iface)
  reads : ∀ q ∈ qs, BRd w q.A q.p.b ∧ ∀ a, q.A = some a → a.block = q0
theorem lst_step {w w' : World} {B q0 : Nat} {x x' : Value} {qs : List PV} (h : Lst w B x qs q0) (q : PV) (hrow : w'.ownsRow B 173 1 x' (qs.length + 1) (qs.map PV.iface ++ [q.iface])) (hg : Grw w w' x x') (hx : x.ownBlock ≠ some q0) (hq0 : q0 < w.heap.size)
    (hr : BRd w q.A q.p.b) (hqa : ∀ a, q.A = some a → a.block = q0) : Lst w' B x' (qs ++ [q]) q0 ∧ x'.ownBlock ≠ some q0 := by
  have hA : ∀ (y : PV), (∀ a, y.A = some a → a.block = q0) → Apart y.A x := fun y hy a ha e => hx (by rw [e, hy a ha])
  refine ⟨⟨by simpa using hrow, fun y hy => ?_⟩, ?_⟩
  · rcases List.mem_append.1 hy with hy | hy
    · obtain ⟨h1, h2⟩ := h.reads y hy
      exact ⟨h1.grw hg (hA y h2), h2⟩
    · simp at hy
      subst hy
      exact ⟨hr.grw hg (hA y hqa), hqa⟩
  · rcases hg.at_ with e | e
    · rw [e]; exact hx
    · intro h'
      have := e _ h'
      omega
theorem Lst.below {w w' : World} {B q0 : Nat} {x : Value} {qs : List PV} (h : Lst w B x qs q0) (hb : Below w.heap.size w w') : Lst w' B x qs q0 := ⟨ownsRow_same h.row fun k hk _ => hb.block k hk, fun q hq => ⟨(h.reads q hq).1.below hb, (h.reads q hq).2⟩⟩
def lenV : Value → Nat | .slice _ n _ => n | _ => 0
set_option maxHeartbeats 2000000 in
set_option maxRecDepth 100000 in
theorem patches_any (f k : Nat) (A : Option Addr) (c : Nat) (b : List UInt8) (w : World) (hA : BRd w A b) (hk : k + b.length ≤ maxFile) :
    Calls Try.prog 84 #[.int .i64 k, .slice A b.length c] w fun e w' => ∃ x qs q0, e = .returned x ∧ Lst w' w.heap.size x qs q0 ∧ qs.map PV.p = parts f k b ∧ w.heap.size ≤ q0 ∧ (0 < b.length → q0 < w'.heap.size) ∧ Below w.heap.size w w' := by
  unfold maxFile at hk
  have HC := Lib.hid (clone_any A c b w hA (by omega))
  clear hA
  go_enter Try.func84, Try.ntmps84
  go_wp2_with fail
  refine HC.out.mono ?_
  rintro e w1 ⟨v1, rfl, hown, hb⟩
  obtain ⟨a1, cap1, rfl, hcap1, hcn1⟩ := hown.slice
  obtain ⟨q0, hq0, hq0l, hqA⟩ : ∃ q0, w.heap.size ≤ q0 ∧ (0 < b.length → q0 < w1.heap.size) ∧ (0 < b.length → a1 = some ⟨q0, 0, none⟩) := by
    by_cases h0 : 0 < b.length
    · obtain ⟨g, cap', hv, hbg, hg⟩ := World.ownsRow.form hown h0
      exact ⟨g, hbg, fun _ => hg, fun _ => by simp at hv; exact hv.1⟩
    · exact ⟨w.heap.size, Nat.le_refl _, fun h => absurd h h0, fun h => absurd h h0⟩
  have HO := Lib.hid hown
  have HB := Lib.hid hb
  have HQ := Lib.hid hqA
  have HQL := Lib.hid hq0l
  have hBs := hb.size
  clear hown hb hqA hq0l
  go_wp2_with fail
  go_loopw [5, 0, 1] (fun x pos rest wr => ∃ (i : Nat) (A' : Option Addr) (c' : Nat) (qs : List PV), i ≤ b.length ∧ (∃ p r : Nat, p = k + i ∧ r = b.length - i ∧ pos = .int .i64 (p : Int) ∧ rest = .slice A' r c' ∧ r ≤ c') ∧ (0 < b.length - i → A' = some ⟨q0, i, none⟩) ∧ Lst wr w.heap.size x qs q0 ∧ parts f k b = qs.map PV.p ++ parts f (k + i) (b.drop i) ∧ BRd wr a1 b ∧ x.ownBlock ≠ some q0 ∧ w1.heap.size ≤ wr.heap.size ∧ Below w.heap.size w wr) (fun _ _ rest _ => lenV rest)
  case atStart => exact ⟨0, a1, cap1, [], by omega, ⟨k, b.length, rfl, rfl, rfl, rfl, hcap1⟩, fun h => HQ.out (by simpa using h), ⟨World.ownsRow_nil _ _ _ _, fun q hq => by simp at hq⟩, by simp, HO.out.brd, by simp [Value.ownBlock], Nat.le_refl _, HB.out⟩
  case round =>
    obtain ⟨i, A', c', qs, hi, ⟨p, r, hp, hr, rfl, rfl, hc'⟩, hA', hL, hparts, hrd, hxq, hsz, hbel⟩ := hrel
    have HLst := Lib.hid hL
    have HPT := Lib.hid hparts
    have HRD := Lib.hid hrd
    have HXQ := Lib.hid hxq
    have HBL := Lib.hid hbel
    clear hL hparts hrd hxq hbel
    by_cases hik : i < b.length
    · obtain rfl := hA' (by omega)
      clear hA'
      obtain ⟨n, hn⟩ : ∃ n, n = min (b.length - i) (512 - (k + i) % 512) := ⟨_, rfl⟩
      have hmod : p % 512 < 512 := Nat.mod_lt _ (by decide)
      have hnI : min (r : Int) (512 - (p : Int) % 512) = (n : Int) := by rw [hn, ← hp, ← hr]; omega
      have hn1 : n ≤ r := by rw [hn, ← hr]; omega
      have hn0 : 0 < n := by rw [hn, ← hp]; omega
      have hr0 : 0 < (r : Int) := by omega
      have hnc : n ≤ c' := by omega
      have hpl : (p : Int) ≤ 4194304 := by omega
      have hrl : (r : Int) ≤ 4194304 := by omega
      have HN := Lib.hid hn
      have HP := Lib.hid hp
      have HR := Lib.hid hr
      have HK := Lib.hid hk
      have HI := Lib.hid hi
      have HIK := Lib.hid hik
      have HSZ := Lib.hid hsz
      clear hn hp hr hk hi hik hmod hsz
      have hqn : qs.length ≤ 4194304 := by
        have h1 := parts_le f k b
        rw [HPT.out, List.length_append, List.length_map] at h1
        have := HK.out
        omega
      have hbl : ((b.drop i).take n).length = n := by
        have := HR.out
        simp
        omega
      obtain ⟨q, hq⟩ : ∃ q : PV, q = ⟨⟨f, false, p, (b.drop i).take n⟩, some ⟨q0, i, none⟩, c'⟩ := ⟨_, rfl⟩
      have hqu : q.iface = .iface 175 (.agg #[.int .i64 p, .slice (some ⟨q0, i, none⟩) n c']) := by rw [hq]; unfold PV.iface; simp only [hbl]; rfl
      have HQU := Lib.hid hqu
      have HQE := Lib.hid hq
      have hqnH := Lib.hid hqn
      have hpn : (p : Int) + n ≤ 9223372036854775807 := by omega
      clear hqu hq hbl hqn
      have hwr : IntKind.i64.wrap ((p : Int) + n) = (p : Int) + n := by rw [IntKind.wrap_i64]; omega
      have hp0 : (0 : Int) ≤ n := by omega
      have hnr : (n : Int) ≤ r := by omega
      have hncI : (n : Int) ≤ c' := by omega
      by_cases hcn : c' = n
      · subst hcn
        go_wp2_with (at_builtin; refine wpList_piece rfl (.tmp 18) (.tmp 25) rfl w.heap.size u5 _ (by rfl) qs.length _ rfl rfl HLst.out.row (by have := HSZ.out; omega) (by have := hqnH.out; omega) ?_; intro x' w' hrow' hgrw'; have HROW := Lib.hid hrow'; have HGRW := Lib.hid hgrw'; clear hrow' hgrw')
        go_quiet (fail)
        go_wp2_with fail
        go_roundw
        case measure =>
          simp only [lenV]
          omega
        case rel =>
          have hNr := HN.out
          have hPr := HP.out
          have hRr := HR.out
          have hIr := HI.out
          have hIKr := HIK.out
          have hKr := HK.out
          have hqb : BRd wr q.A q.p.b := by
            rw [HQE.out]
            obtain rfl := HQ.out (by omega)
            have := BRd.sub HRD.out i c'
            simpa using this
          have hst := lst_step HLst.out q (by rw [HQU.out]; exact HROW.out) HGRW.out HXQ.out (by have h1 := HQL.out (by omega); have := HSZ.out; omega) hqb (by rw [HQE.out]; intro a ha; simp at ha; rw [← ha])
          have hbw := below_drewN (Below.refl w'.heap.size w') nq
          have hA := HQ.out (by omega)
          refine ⟨i + c', _, _, qs ++ [q], by omega, ⟨p + c', 0, by omega, by omega, by rw [Int.natCast_add], rfl, by omega⟩, fun h => ?_, hst.1.below hbw, ?_, (BRd.grw HRD.out HGRW.out (fun a ha => by rw [hA] at ha; obtain rfl := Option.some.inj ha; exact HXQ.out)).below hbw, hst.2, ?_, ?_⟩
          · omega
          · rw [HPT.out, parts_step f (k + i) (b.drop i) (by simp; omega), List.map_append, List.append_assoc]
            have e1 : min (b.drop i).length (512 - (k + i) % 512) = c' := by rw [List.length_drop]; omega
            rw [e1, HQE.out, List.drop_drop, hPr, Nat.add_assoc]
            rfl
          · have h1 := HGRW.out.by_.size
            have h2 := HSZ.out
            have h3 := hbw.size
            omega
          · have h1 : Below w.heap.size w w' := by
              have := HGRW.out.below HLst.out.row (by have := HSZ.out; omega)
              exact below_tr HBL.out this
            exact below_drewN h1 _
      · go_wp2_with (at_builtin; refine wpList_piece rfl (.tmp 18) (.tmp 25) rfl w.heap.size u5 _ (by rfl) qs.length _ rfl rfl HLst.out.row (by have := HSZ.out; omega) (by have := hqnH.out; omega) ?_; intro x' w' hrow' hgrw'; have HROW := Lib.hid hrow'; have HGRW := Lib.hid hgrw'; clear hrow' hgrw')
        go_quiet (fail)
        go_wp2_with fail
        go_roundw
        case measure =>
          simp only [lenV]
          omega
        case rel =>
          have hNr := HN.out
          have hPr := HP.out
          have hRr := HR.out
          have hIr := HI.out
          have hIKr := HIK.out
          have hKr := HK.out
          have hqb : BRd wr q.A q.p.b := by
            rw [HQE.out]
            obtain rfl := HQ.out (by omega)
            have := BRd.sub HRD.out i n
            simpa using this
          have hst := lst_step HLst.out q (by rw [HQU.out]; exact HROW.out) HGRW.out HXQ.out (by have h1 := HQL.out (by omega); have := HSZ.out; omega) hqb (by rw [HQE.out]; intro a ha; simp at ha; rw [← ha])
          have hbw := below_drewN (Below.refl w'.heap.size w') nq
          have hA := HQ.out (by omega)
          refine ⟨i + n, _, _, qs ++ [q], by omega, ⟨p + n, r - n, by omega, by omega, by rw [Int.natCast_add], rfl, by omega⟩, fun h => ?_, hst.1.below hbw, ?_, (BRd.grw HRD.out HGRW.out (fun a ha => by rw [hA] at ha; obtain rfl := Option.some.inj ha; exact HXQ.out)).below hbw, hst.2, ?_, ?_⟩
          · rfl
          · rw [HPT.out, parts_step f (k + i) (b.drop i) (by simp; omega), List.map_append, List.append_assoc]
            have e1 : min (b.drop i).length (512 - (k + i) % 512) = n := by rw [List.length_drop]; omega
            rw [e1, HQE.out, List.drop_drop, hPr, Nat.add_assoc]
            rfl
          · have h1 := HGRW.out.by_.size
            have h2 := HSZ.out
            have h3 := hbw.size
            omega
          · have h1 : Below w.heap.size w w' := by
              have := HGRW.out.below HLst.out.row (by have := HSZ.out; omega)
              exact below_tr HBL.out this
            exact below_drewN h1 _
    · have hr0 : r = 0 := by omega
      subst hr0
      go_wp2_with fail
      go_ret
      refine ⟨_, qs, q0, rfl, HLst.out, ?_, hq0, fun h => ?_, HBL.out⟩
      · have := HPT.out
        rw [show b.drop i = [] from List.drop_eq_nil_of_le (by omega), parts_nil, List.append_nil] at this
        exact this.symm
      · have := HQL.out h
        omega
end Go.Proofs.Ytellmmgiabfacaa
