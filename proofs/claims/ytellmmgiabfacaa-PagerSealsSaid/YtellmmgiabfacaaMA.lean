/-
  merged
-/
import Derived.Test.YtellmmgiabfacaaCBase
import Derived.Test.YtellmmgiabfacaaCApp
import Derived.Test.YtellmmgiabfacaaCRef1
import Derived.Test.YtellmmgiabfacaaCRef3
import Derived.Test.YtellmmgiabfacaaPSeal
import Derived.Test.YtellmmgiabfacaaCTakeI
import Derived.Test.YtellmmgiabfacaaPRef
import Derived.Test.YtellmmgiabfacaaDLib
import Derived.Test.YtellmmgiabfacaaESame
import Derived.Test.YtellmmgiabfacaaPUns
namespace Go.Proofs.Ytellmmgiabfacaa
section

open Go.ChangeShapes Go.WideShapes Go.ChangeAt Go.RowKit
set_option linter.unusedVariables false

/-- A capacity that is grown by a quarter is borne up to this length. -/
theorem cap_fits {need old : Nat} (h : old < need) (hb : need ≤ 200000000000000) : Builtin.nextslicecap need old ≤ 281474976710656 := by
  unfold Builtin.nextslicecap
  split
  · omega
  · split
    · omega
    · simp only [Builtin.growBy]
      repeat' split
      all_goals omega
theorem run_append_big {P : Program} (w : World) (t ty e : TypeId) (i : TypeInfo) (z : Value) (base : Nat) (ht : P.underlying t = some (.slice e)) (hi : P.info? e = some i) (hz : i.zero = some z)
    (hsize : i.size = 1) (hby : i.bytes = 1) (hzs : z.cells.size = 1) (v : Value) (n : Nat) (xs : List Value) (hown : w.ownsRow base e 1 v n xs)
    (ad : Addr) (m c : Nat) (news : List Value) (hl : news.length = m) (hnews : ∀ j u, news[j]? = some u → w.cell? (ad.add j) = some u) (h1 : ∀ u ∈ news, u.oneCell' = true)
    (hm : 0 < m) (hb : n + m ≤ 200000000000000) (hbase : base ≤ w.heap.size) (H : Nat) (hH : w.heap.size = H) :
    ∃ g cap w', (Builtin.append_ #[t, t] ty #[v, .slice (some ad) m c]).run P w = .ok (.slice (some ⟨g, 0, none⟩) (n + m) cap) w' ∧
      w'.ownsRow base e 1 (.slice (some ⟨g, 0, none⟩) (n + m) cap) (n + m) (xs ++ news) ∧ w.grownBy w' v.ownBlock ∧ (v.ownBlock = some g ∨ g = H) ∧ g < w'.heap.size := by
  have hxl : xs.length = n := by have := hown.1; omega
  have hnl : news.length = m * i.size := by rw [hl, hsize, Nat.mul_one]
  have hall : (xs ++ news).length = (n + m) * 1 := by rw [List.length_append, hxl, hl, Nat.mul_one]
  have fresh : ∀ (old : Nat), ∀ (row : Option Nat),
      (w.drew.alloc (.cells (xs.toArray ++ news.toArray ++ Builtin.zeroCells z.cells (grownCap w (n + m) old e - (n + m))) e)).ownsRow base e 1
        (.slice (some ⟨w.heap.size, 0, none⟩) (n + m) (grownCap w (n + m) old e)) (n + m) (xs ++ news) ∧
      w.grownBy (w.drew.alloc (.cells (xs.toArray ++ news.toArray ++ Builtin.zeroCells z.cells (grownCap w (n + m) old e - (n + m))) e)) row ∧
      w.heap.size < (w.drew.alloc (.cells (xs.toArray ++ news.toArray ++ Builtin.zeroCells z.cells (grownCap w (n + m) old e - (n + m))) e)).heap.size := by
    intro old row
    have hge := grownCap_ge w (n + m) old e
    have hcm : grownCap w (n + m) old e ≤ maxLen := grownCap_le_maxLen w (n + m) old e (by unfold maxLen; omega)
    refine ⟨⟨hall, .inr ⟨w.heap.size, _, _, rfl, hbase, heap_alloc_new w.drew _, hge, hcm, ?_, ?_⟩⟩, ⟨rfl, rfl, rfl, by simp, fun k hk _ => heap_alloc_old w.drew _ hk⟩, by simp⟩
    · simp only [Array.size_append, List.size_toArray, size_zeroCells, hzs, hxl, hl]
      omega
    · simp only [Array.toList_append, List.append_assoc]
      rw [← List.append_assoc, ← hall]
      exact List.take_left
  rcases hown.2 with ⟨rfl, rfl⟩ | ⟨g, cap, cur, rfl, hbg, hg, hnc, hcm, hcs, htake⟩
  · have hx : xs = [] := List.eq_nil_of_length_eq_zero hxl
    subst hx
    have hr := run_append_nil (P := P) w t ty e i z ht hi hz ad m c news hnl hnews hm (by omega) (by rw [hby]; omega)
    have hf := fresh 0 (Value.ownBlock (.slice none 0 0))
    simp only [Nat.zero_add, List.nil_append, Array.empty_append] at hf ⊢
    exact ⟨_, _, _, hr, hf.1, hf.2.1, .inr hH, hf.2.2⟩
  · by_cases hroom : n + m ≤ cap
    · have hfit : n * i.size + news.length ≤ cur.size := by rw [hl, hsize, hcs]; omega
      have hr := run_append_room (P := P) w t ty e i ht hi g n cap cur hg ad m c news hnl hnews h1 hroom hfit
      have hgl : g < w.heap.size := (Array.getElem?_eq_some_iff.1 hg).1
      rw [hsize] at hr
      refine ⟨g, cap, _, hr, ⟨hall, .inr ⟨g, cap, _, rfl, hbg, setRow_heap w g cur _ e _ hg, hroom, hcm, ?_, ?_⟩⟩, ⟨rfl, rfl, rfl, by simp, fun k _ hk => setRow_other w g k _ (fun e => hk (by simp [Value.ownBlock, e]))⟩, .inl rfl, by simpa using hgl⟩
      · simp only [List.size_toArray, List.length_append, List.length_take, List.length_drop, Array.length_toList]
        omega
      · rw [htake, ← hall]
        exact List.take_left
    · have holds : ∀ j u, xs[j]? = some u → w.cell? ((⟨g, 0, none⟩ : Addr).add j) = some u := World.ownsRow.cells hown (g := g) rfl
      have hr := run_append_grow (P := P) w t ty e i z ht hi hz ⟨g, 0, none⟩ n cap xs (by rw [hxl, hsize, Nat.mul_one]) holds ad m c news hnl hnews (by omega) (by omega) (by rw [hby, Nat.mul_one]; exact cap_fits (by omega) hb)
      have hf := fresh cap (Value.ownBlock (.slice (some ⟨g, 0, none⟩) n cap))
      exact ⟨_, _, _, hr, hf.1, hf.2.1, .inr hH, hf.2.2⟩
theorem wpList_append_big {P : Program} (w : World) {ops : Array Oper} {rest : List Oper} {o : Oper} {a : Act} {Q : Exit → Act → World → Prop} (hgd : o.guard = none) (s x : Operand) (t : TypeId)
    (ho : o.op = .call { callee := .builtin .append, args := #[s, x], argTypes := #[t, t] })
    (base : Nat) (e : TypeId) (i : TypeInfo) (z : Value) (ht : P.underlying t = some (.slice e)) (hi : P.info? e = some i) (hz : i.zero = some z)
    (hsize : i.size = 1) (hby : i.bytes = 1) (hzs : z.cells.size = 1)
    (v : Value) (n : Nat) (xs : List Value) (hs : a.eval s = v) (hown : w.ownsRow base e 1 v n xs)
    (ad : Addr) (m c : Nat) (news : List Value) (hx : a.eval x = .slice (some ad) m c) (hl : news.length = m) (hnews : ∀ j u, news[j]? = some u → w.cell? (ad.add j) = some u) (h1 : ∀ u ∈ news, u.oneCell' = true)
    (hm : 0 < m) (hb : n + m ≤ 200000000000000) (hbase : base ≤ w.heap.size) (H : Nat) (hH : w.heap.size = H)
    (h : ∀ g cap w', w'.ownsRow base e 1 (.slice (some ⟨g, 0, none⟩) (n + m) cap) (n + m) (xs ++ news) → w.grownBy w' v.ownBlock → (v.ownBlock = some g ∨ g = H) → g < w'.heap.size → wpList P ops Q rest (a.put o.dst (.slice (some ⟨g, 0, none⟩) (n + m) cap)) w') : wpList P ops Q (o :: rest) a w :=
  wpList_plain hgd fun _ hK => by
    obtain ⟨g, cap, w', hr, h2, h3, h4, h5⟩ := run_append_big (P := P) w t o.type e i z base ht hi hz hsize hby hzs v n xs hown ad m c news hl hnews h1 hm hb hbase H hH
    unfold Oper.wp execOp
    simp only [ho, resolve, invoke, builtin, Sem.run_bind, Sem.run_pure, Result.andThen_ok, List.map_toArray, List.map_cons, List.map_nil, hs, hx, hr]
    exact hK _ _ (h g cap w' h2 h3 h4 h5)
theorem wpList_byteB {w0 : World} {T : TypeId} {z : Int} {ops : Array Oper} {rest : List Oper} {o : Oper} {a : Act} {Q : Exit → Act → World → Prop} (hgd : o.guard = none) (s x : Operand)
    (ho : o.op = .call { callee := .builtin .append, args := #[s, x], argTypes := #[23, 23] }) (B : Nat) (v : Value) (l : List UInt8) (c : UInt8) (hz : z = (c.toNat : Int)) (hs : a.eval s = v) (hx : a.eval x = .slice (some ⟨w0.heap.size, 0, none⟩) 1 1)
    (hown : OwnB w0 B v l) (hB : B ≤ w0.heap.size) (hlim : l.length + 1 ≤ 200000000000000)
    (h : ∀ v' w', OwnB w' B v' (l ++ [c]) → Grw w0 w' v v' → wpList Try.prog ops Q rest (a.put o.dst v') w') : wpList Try.prog ops Q (o :: rest) a (w0.alloc (.cells #[.int .u8 z] T)) := by
  obtain ⟨i0, hi, hz0, hz1, hz2⟩ := info_parts byteInfo
  subst hz
  refine wpList_append_big _ hgd s x 23 ho B 5 i0 (.int .u8 0) Try.underlying23 hi hz0 hz1 hz2 rfl v _ _ hs (hown.alloc _) ⟨w0.heap.size, 0, none⟩ 1 1 [.int .u8 (c.toNat : Int)] hx rfl (fun j u hj => by match j, hj with | 0, hj => (simp at hj; subst hj; simp [Addr.add])) (fun u hu => by simp at hu; subst hu; rfl) (by decide) (by omega) (by simp; omega) _ rfl ?_
  intro g cap w1 hown1 hgrow hat hlt
  refine h _ w1 (OwnB.app c hown1) ?_
  have hg : w0.grownBy w1 v.ownBlock := ⟨hgrow.os, hgrow.tape, hgrow.output, Nat.le_trans (by simp) hgrow.size, fun k hk hr => (hgrow.block k (by simp; omega) hr).trans (Below.heap_alloc _ _ _ hk)⟩
  refine ⟨hg, ?_⟩
  rcases hat with e | e
  · exact .inl e.symm
  · exact .inr fun k hk => by simp [Value.ownBlock] at hk; simp at e; omega
theorem wpList_appB {w : World} {ops : Array Oper} {rest : List Oper} {o : Oper} {a : Act} {Q : Exit → Act → World → Prop} (hgd : o.guard = none) (s x : Operand)
    (ho : o.op = .call { callee := .builtin .append, args := #[s, x], argTypes := #[23, 23] }) (B : Nat) (v : Value) (l : List UInt8) (A : Option Addr) (c : Nat) (r : List UInt8) (hs : a.eval s = v) (hx : a.eval x = .slice A r.length c)
    (hown : OwnB w B v l) (hr : BRd w A r) (h0 : 0 < r.length) (hB : B ≤ w.heap.size) (hlim : l.length + r.length ≤ 200000000000000)
    (h : ∀ v' w', OwnB w' B v' (l ++ r) → Grw w w' v v' → wpList Try.prog ops Q rest (a.put o.dst v') w') : wpList Try.prog ops Q (o :: rest) a w := by
  obtain ⟨i0, hi, hz0, hz1, hz2⟩ := info_parts byteInfo
  obtain ⟨g, off, rfl, hg, hc⟩ := hr h0
  refine wpList_append_big _ hgd s x 23 ho B 5 i0 (.int .u8 0) Try.underlying23 hi hz0 hz1 hz2 rfl v _ _ hs hown ⟨g, off, none⟩ r.length c (Lib.byteCells r) hx (by simp [Lib.byteCells]) (fun j u hj => by
      obtain ⟨hj', rfl⟩ := byteCells_get hj
      rw [Go.WideShapes.add_plain, hc j hj']) (fun u hu => by simp [Lib.byteCells] at hu; obtain ⟨c, _, rfl⟩ := hu; rfl) h0 (by omega) hB _ rfl ?_
  intro g2 cap w1 hown1 hgrow hat hlt
  have e : Lib.byteCells l ++ Lib.byteCells r = Lib.byteCells (l ++ r) := by simp [Lib.byteCells]
  rw [e, show l.length + r.length = (l ++ r).length by simp] at hown1
  rw [show l.length + r.length = (l ++ r).length by simp]
  exact h _ w1 hown1 (Grw.lies hgrow hat)

end

section

open Go.ChangeShapes Go.WideShapes Go.ChangeAt Go.RowKit
set_option linter.unusedVariables false

def IRd (w : World) (A : Option Addr) (zs : List Int) : Prop := 0 < zs.length → ∃ g off, A = some ⟨g, off, none⟩ ∧ g < w.heap.size ∧ ∀ i (h : i < zs.length), w.cell? ⟨g, off + i, none⟩ = some (.int .i64 zs[i])
theorem IRd.below {w w' : World} {A : Option Addr} {zs : List Int} (h : IRd w A zs) (hb : Below w.heap.size w w') : IRd w' A zs := fun hn => by
  obtain ⟨g, off, hA, hg, hc⟩ := h hn
  refine ⟨g, off, hA, Nat.lt_of_lt_of_le hg hb.size, fun i hi => ?_⟩
  rw [(bcell hb).1 _ _ hg]
  exact hc i hi
theorem enc_le9 (n : Int) (hn : In8 n) : (encI n).length ≤ 9 := by
  rw [enc_len]
  unfold In8 at hn
  have key : ∀ u : Nat, u < 9223372036854775808 → (upF u).length ≤ 9 := fun u hu => by
    by_cases h : u < 120
    · rw [up_small h]; simp
    · rw [up_big h, List.length_cons, List.length_reverse]
      have := up_len8 hu
      omega
  split
  · exact key _ (by omega)
  · exact key _ (by omega)
theorem enc_pos (n : Int) (hn : In8 n) : 0 < (encI n).length := by
  obtain ⟨c, r, e⟩ := enc_ne n hn.1 hn.2
  rw [e]; simp
theorem rowF_take (zs : List Int) (k : Nat) (h : k < zs.length) : rowF (zs.take (k + 1)) = rowF (zs.take k) ++ encI zs[k] := by
  unfold rowF
  rw [List.take_succ_eq_append_getElem h, List.flatMap_append]
  simp
theorem rowF_len : ∀ (zs : List Int), (∀ z ∈ zs, In8 z) → (rowF zs).length ≤ 9 * zs.length
  | [], _ => by simp [rowF]
  | z :: zs, h => by
    have h1 := rowF_len zs fun y hy => h y (by simp [hy])
    have h2 := enc_le9 z (h z (by simp))
    simp only [rowF, List.flatMap_cons, List.length_append, List.length_cons] at h1 ⊢
    omega
theorem rowF_take_len (zs : List Int) (h : ∀ z ∈ zs, In8 z) (k : Nat) (hk : k ≤ zs.length) : (rowF (zs.take k)).length ≤ 9 * k := by
  have := rowF_len (zs.take k) fun z hz => h z (List.mem_of_mem_take hz)
  rw [List.length_take] at this
  omega

set_option maxHeartbeats 1600000 in
set_option maxRecDepth 100000 in
theorem row_any (A : Option Addr) (c : Nat) (zs : List Int) (w : World) (hA : IRd w A zs) (hz : ∀ z ∈ zs, In8 z) (hl : zs.length ≤ 1000000000000) :
    Calls Try.prog 61 #[.slice A zs.length c] w (Fresh (rowF zs) w) := by
  have HA := Lib.hid hA
  have HZ := Lib.hid hz
  clear hA hz
  go_enter Try.func61, Try.ntmps61
  go_wp2_with fail
  go_loopw [3, 8] (fun b idx wr => ∃ k : Nat, k ≤ zs.length ∧ idx = .int .i64 k ∧ OwnB wr w.heap.size b (rowF (zs.take k)) ∧ Below w.heap.size w wr) (fun _ idx _ => zs.length - (intOf idx).toNat)
  case atStart => exact ⟨0, by omega, rfl, OwnB.nil _ _, Below.refl _ _⟩
  case round =>
    obtain ⟨k, hk, rfl, hown, hb⟩ := hrel
    have HO := Lib.hid hown
    have HB := Lib.hid hb
    have hBr : w.heap.size ≤ wr.heap.size := hb.size
    clear hown hb
    by_cases hik : k < zs.length
    · obtain ⟨g, off, rfl, hgl, hc⟩ := (HA.out.below HB.out) (by omega)
      have c0 := hc k hik
      clear hc
      have HT := Lib.hid (rowF_take zs k hik)
      have HLN := Lib.hid (rowF_take_len zs HZ.out k (by omega))
      have HI := Lib.hid (HZ.out _ (List.getElem_mem hik))
      have x0 : (0 : Int) ≤ (k : Int) := by omega
      have x1 : (k : Int) < (zs.length : Int) := by omega
      have x2 : 0 < zs.length := by omega
      generalize zs[k] = z at *
      go_wp2_with fail
      refine (appendInt_any _ u3 _ z _ HI.out HO.out hBr (by have := HLN.out; omega)).mono ?_
      rintro e w2 ⟨v2, rfl, hown2, hg2⟩
      rw [← HT.out] at hown2
      have HO2 := Lib.hid hown2
      have HB2 := Lib.hid (below_tr HB.out (hg2.below HO.out hBr))
      clear hown2 hg2
      go_wp2_with fail
      go_roundw
      case rel => exact ⟨k + 1, by omega, by go_num, HO2.out, HB2.out⟩
      case measure => simp [intOf]; omega
    · obtain rfl : k = zs.length := by omega
      have hikI : ¬ ((zs.length : Int) < (zs.length : Int)) := by omega
      rw [List.take_length] at HO
      go_wp2_with fail
      go_ret
      exact ⟨_, rfl, HO.out, HB.out⟩

end

section

open Go.ChangeShapes Go.WideShapes Go.ChangeAt Go.RowKit Go.Deep
set_option linter.unusedVariables false

/-- May a head be? -/
def headB (g r b : Int) : Bool := decide (1 ≤ g) && decide (g ≤ 1099511627776) && decide (2 ≤ b) && decide (b ≤ 1024) && (decide (r = 0) || decide (2 ≤ r) && decide (r < b))
set_option maxHeartbeats 3200000 in
set_option maxRecDepth 100000 in
theorem may_any (g r b : Int) (w : World) : Calls Try.prog 62 #[.agg #[.int .i64 g, .int .i64 r, .int .i64 b]] w fun e w' => e = .returned (.bool (headB g r b)) ∧ Below w.heap.size w w' := by
  by_cases h0 : 1 ≤ g
  · by_cases h1 : g ≤ 1099511627776
    · by_cases h2 : 2 ≤ b
      · by_cases h3 : b ≤ 1024
        · by_cases h4 : r = 0
          · have d0 : decide (1 ≤ g) = true := by simpa using h0
            have d1 : decide (g ≤ 1099511627776) = true := by simpa using h1
            have d2 : decide (2 ≤ b) = true := by simpa using h2
            have d3 : decide (b ≤ 1024) = true := by simpa using h3
            have d4 : decide (r = 0) = true := by simpa using h4
            have HV : Hid (headB g r b = true) := by show _ = _; simp [headB, h0, h1, h2, h3, h4]
            go_enter Try.func62, Try.ntmps62
            go_wp2_with fail
            go_ret
            exact ⟨ret_bool (HV.out.symm), alloc_below _ _⟩
          · by_cases h5 : 2 ≤ r
            · by_cases h6 : r < b
              · have d0 : decide (1 ≤ g) = true := by simpa using h0
                have d1 : decide (g ≤ 1099511627776) = true := by simpa using h1
                have d2 : decide (2 ≤ b) = true := by simpa using h2
                have d3 : decide (b ≤ 1024) = true := by simpa using h3
                have d4 : decide (r = 0) = false := by simpa using h4
                have d5 : decide (2 ≤ r) = true := by simpa using h5
                have d6 : decide (r < b) = true := by simpa using h6
                have HV : Hid (headB g r b = true) := by show _ = _; simp [headB, h0, h1, h2, h3, h4, h5, h6]
                go_enter Try.func62, Try.ntmps62
                go_wp2_with fail
                go_ret
                exact ⟨ret_bool (HV.out.symm), alloc_below _ _⟩
              · have d0 : decide (1 ≤ g) = true := by simpa using h0
                have d1 : decide (g ≤ 1099511627776) = true := by simpa using h1
                have d2 : decide (2 ≤ b) = true := by simpa using h2
                have d3 : decide (b ≤ 1024) = true := by simpa using h3
                have d4 : decide (r = 0) = false := by simpa using h4
                have d5 : decide (2 ≤ r) = true := by simpa using h5
                have d6 : decide (r < b) = false := by simpa using h6
                have HV : Hid (headB g r b = false) := by show _ = _; simp [headB, h0, h1, h2, h3, h4, h5, h6]
                go_enter Try.func62, Try.ntmps62
                go_wp2_with fail
                go_ret
                exact ⟨ret_bool (by rw [show (r == 0) = false by simpa using h4]; exact HV.out.symm), alloc_below _ _⟩
            · have d0 : decide (1 ≤ g) = true := by simpa using h0
              have d1 : decide (g ≤ 1099511627776) = true := by simpa using h1
              have d2 : decide (2 ≤ b) = true := by simpa using h2
              have d3 : decide (b ≤ 1024) = true := by simpa using h3
              have d4 : decide (r = 0) = false := by simpa using h4
              have d5 : decide (2 ≤ r) = false := by simpa using h5
              have HV : Hid (headB g r b = false) := by show _ = _; simp [headB, h0, h1, h2, h3, h4, h5]
              go_enter Try.func62, Try.ntmps62
              go_wp2_with fail
              go_ret
              exact ⟨ret_bool (by rw [show (r == 0) = false by simpa using h4]; exact HV.out.symm), alloc_below _ _⟩
        · have d0 : decide (1 ≤ g) = true := by simpa using h0
          have d1 : decide (g ≤ 1099511627776) = true := by simpa using h1
          have d2 : decide (2 ≤ b) = true := by simpa using h2
          have d3 : decide (b ≤ 1024) = false := by simpa using h3
          have HV : Hid (headB g r b = false) := by show _ = _; simp [headB, h0, h1, h2, h3]
          go_enter Try.func62, Try.ntmps62
          go_wp2_with fail
          go_ret
          exact ⟨ret_bool (HV.out.symm), alloc_below _ _⟩
      · have d0 : decide (1 ≤ g) = true := by simpa using h0
        have d1 : decide (g ≤ 1099511627776) = true := by simpa using h1
        have d2 : decide (2 ≤ b) = false := by simpa using h2
        have HV : Hid (headB g r b = false) := by show _ = _; simp [headB, h0, h1, h2]
        go_enter Try.func62, Try.ntmps62
        go_wp2_with fail
        go_ret
        exact ⟨ret_bool (HV.out.symm), alloc_below _ _⟩
    · have d0 : decide (1 ≤ g) = true := by simpa using h0
      have d1 : decide (g ≤ 1099511627776) = false := by simpa using h1
      have HV : Hid (headB g r b = false) := by show _ = _; simp [headB, h0, h1]
      go_enter Try.func62, Try.ntmps62
      go_wp2_with fail
      go_ret
      exact ⟨ret_bool (HV.out.symm), alloc_below _ _⟩
  · have d0 : decide (1 ≤ g) = false := by simpa using h0
    have HV : Hid (headB g r b = false) := by show _ = _; simp [headB, h0]
    go_enter Try.func62, Try.ntmps62
    go_wp2_with fail
    go_ret
    exact ⟨ret_bool (HV.out.symm), alloc_below _ _⟩
set_option maxHeartbeats 3200000 in
set_option maxRecDepth 100000 in
theorem valid_any (g r b : Int) (w : World) : Calls Try.prog 60 #[.agg #[.int .i64 g, .int .i64 r, .int .i64 b]] w fun e w' => e = .returned (.bool (headB g r b)) ∧ Below w.heap.size w w' := by
  by_cases h0 : 1 ≤ g
  · by_cases h1 : g ≤ 1099511627776
    · by_cases h2 : 2 ≤ b
      · by_cases h3 : b ≤ 1024
        · by_cases h4 : r = 0
          · have d0 : decide (1 ≤ g) = true := by simpa using h0
            have d1 : decide (g ≤ 1099511627776) = true := by simpa using h1
            have d2 : decide (2 ≤ b) = true := by simpa using h2
            have d3 : decide (b ≤ 1024) = true := by simpa using h3
            have d4 : decide (r = 0) = true := by simpa using h4
            have HV : Hid (headB g r b = true) := by show _ = _; simp [headB, h0, h1, h2, h3, h4]
            go_enter Try.func60, Try.ntmps60
            go_wp2_with fail
            go_ret
            exact ⟨ret_bool (HV.out.symm), alloc_below _ _⟩
          · by_cases h5 : 2 ≤ r
            · by_cases h6 : r < b
              · have d0 : decide (1 ≤ g) = true := by simpa using h0
                have d1 : decide (g ≤ 1099511627776) = true := by simpa using h1
                have d2 : decide (2 ≤ b) = true := by simpa using h2
                have d3 : decide (b ≤ 1024) = true := by simpa using h3
                have d4 : decide (r = 0) = false := by simpa using h4
                have d5 : decide (2 ≤ r) = true := by simpa using h5
                have d6 : decide (r < b) = true := by simpa using h6
                have HV : Hid (headB g r b = true) := by show _ = _; simp [headB, h0, h1, h2, h3, h4, h5, h6]
                go_enter Try.func60, Try.ntmps60
                go_wp2_with fail
                go_ret
                exact ⟨ret_bool (HV.out.symm), alloc_below _ _⟩
              · have d0 : decide (1 ≤ g) = true := by simpa using h0
                have d1 : decide (g ≤ 1099511627776) = true := by simpa using h1
                have d2 : decide (2 ≤ b) = true := by simpa using h2
                have d3 : decide (b ≤ 1024) = true := by simpa using h3
                have d4 : decide (r = 0) = false := by simpa using h4
                have d5 : decide (2 ≤ r) = true := by simpa using h5
                have d6 : decide (r < b) = false := by simpa using h6
                have HV : Hid (headB g r b = false) := by show _ = _; simp [headB, h0, h1, h2, h3, h4, h5, h6]
                go_enter Try.func60, Try.ntmps60
                go_wp2_with fail
                go_ret
                exact ⟨ret_bool (by rw [show (r == 0) = false by simpa using h4]; exact HV.out.symm), alloc_below _ _⟩
            · have d0 : decide (1 ≤ g) = true := by simpa using h0
              have d1 : decide (g ≤ 1099511627776) = true := by simpa using h1
              have d2 : decide (2 ≤ b) = true := by simpa using h2
              have d3 : decide (b ≤ 1024) = true := by simpa using h3
              have d4 : decide (r = 0) = false := by simpa using h4
              have d5 : decide (2 ≤ r) = false := by simpa using h5
              have HV : Hid (headB g r b = false) := by show _ = _; simp [headB, h0, h1, h2, h3, h4, h5]
              go_enter Try.func60, Try.ntmps60
              go_wp2_with fail
              go_ret
              exact ⟨ret_bool (by rw [show (r == 0) = false by simpa using h4]; exact HV.out.symm), alloc_below _ _⟩
        · have d0 : decide (1 ≤ g) = true := by simpa using h0
          have d1 : decide (g ≤ 1099511627776) = true := by simpa using h1
          have d2 : decide (2 ≤ b) = true := by simpa using h2
          have d3 : decide (b ≤ 1024) = false := by simpa using h3
          have HV : Hid (headB g r b = false) := by show _ = _; simp [headB, h0, h1, h2, h3]
          go_enter Try.func60, Try.ntmps60
          go_wp2_with fail
          go_ret
          exact ⟨ret_bool (HV.out.symm), alloc_below _ _⟩
      · have d0 : decide (1 ≤ g) = true := by simpa using h0
        have d1 : decide (g ≤ 1099511627776) = true := by simpa using h1
        have d2 : decide (2 ≤ b) = false := by simpa using h2
        have HV : Hid (headB g r b = false) := by show _ = _; simp [headB, h0, h1, h2]
        go_enter Try.func60, Try.ntmps60
        go_wp2_with fail
        go_ret
        exact ⟨ret_bool (HV.out.symm), alloc_below _ _⟩
    · have d0 : decide (1 ≤ g) = true := by simpa using h0
      have d1 : decide (g ≤ 1099511627776) = false := by simpa using h1
      have HV : Hid (headB g r b = false) := by show _ = _; simp [headB, h0, h1]
      go_enter Try.func60, Try.ntmps60
      go_wp2_with fail
      go_ret
      exact ⟨ret_bool (HV.out.symm), alloc_below _ _⟩
  · have d0 : decide (1 ≤ g) = false := by simpa using h0
    have HV : Hid (headB g r b = false) := by show _ = _; simp [headB, h0]
    go_enter Try.func60, Try.ntmps60
    go_wp2_with fail
    go_ret
    exact ⟨ret_bool (HV.out.symm), alloc_below _ _⟩

end

section

open Go.ChangeShapes Go.WideShapes Go.ChangeAt Go.RowKit Go.Deep
set_option linter.unusedVariables false

/-- A header's bytes. -/
def headerB (g r b : Int) : List UInt8 := signB (rowF [g, r, b] ++ List.replicate (508 - (rowF [g, r, b]).length) 0)
theorem headB_in {g r b : Int} (h : headB g r b = true) : In8 g ∧ In8 r ∧ In8 b := by
  simp only [headB, Bool.and_eq_true, Bool.or_eq_true, decide_eq_true_eq] at h
  unfold In8
  omega
theorem headRow_len {g r b : Int} (h : headB g r b = true) : 0 < (rowF [g, r, b]).length ∧ (rowF [g, r, b]).length ≤ 27 := by
  obtain ⟨h1, h2, h3⟩ := headB_in h
  constructor
  · have := enc_pos g h1
    have e : rowF [g, r, b] = encI g ++ rowF [r, b] := by simp [rowF]
    rw [e, List.length_append]
    omega
  · exact rowF_len [g, r, b] (by simp [h1, h2, h3])
theorem headerB_len {g r b : Int} (h : headB g r b = true) : (headerB g r b).length = 512 := by
  have := headRow_len h
  simp [headerB, signB, leB_len]
  omega
/-- What Header answers. -/
def HeaderPost (g r b : Int) (w : World) (e : Ending) (w' : World) : Prop := ∃ a k, e = .returned (.tuple #[.slice a 512 k, .int .i64 0]) ∧ OwnB w' w.heap.size (.slice a 512 k) (headerB g r b) ∧ Below w.heap.size w w'
set_option maxHeartbeats 3200000 in
set_option maxRecDepth 100000 in
theorem header_not (g r b : Int) (w : World) (h : headB g r b = false) : Calls Try.prog 19 #[.agg #[.int .i64 g, .int .i64 r, .int .i64 b]] w fun e w' => e = .returned (.tuple #[.slice none 0 0, .int .i64 1]) ∧ Below w.heap.size w w' := by
  have HV := Lib.hid (fun W => valid_any g r b W)
  rw [h] at HV
  clear h
  go_enter Try.func19, Try.ntmps19
  go_wp2_with fail
  refine (HV.out _).mono ?_
  rintro e w2 ⟨rfl, hb2⟩
  have HB2 := Lib.hid (bt (alloc_below _ _) hb2)
  clear hb2
  go_wp2_with fail
  go_ret2
  exact ⟨rfl, HB2.out⟩
set_option maxHeartbeats 3200000 in
set_option maxRecDepth 100000 in
theorem header_any (g r b : Int) (w : World) (h : headB g r b = true) : Calls Try.prog 19 #[.agg #[.int .i64 g, .int .i64 r, .int .i64 b]] w (HeaderPost g r b w) := by
  have HV := Lib.hid (fun W => valid_any g r b W)
  have HRL := Lib.hid (headRow_len h)
  have HIN := Lib.hid (headB_in h)
  rw [h] at HV
  have hmk := run_make_row' (P := Try.prog) 23 5 (.int .u8 0) 1 Try.underlying23 byteInfo rfl .i64 .i64 512 (by omega) (by omega)
  rw [show ((512 : Nat) : Int) = 512 from rfl] at hmk
  unfold HeaderPost headerB
  obtain ⟨R, hR⟩ : ∃ R, R = rowF [g, r, b] := ⟨_, rfl⟩
  rw [← hR] at HRL ⊢
  have HR := Lib.hid hR
  clear h hR
  go_enter Try.func19, Try.ntmps19
  go_wp2_with fail
  refine (HV.out _).mono ?_
  rintro e w2 ⟨rfl, hb2⟩
  have hqw : w.heap.size < (w.alloc (.cells #[.int .i64 g, .int .i64 r, .int .i64 b] 37)).heap.size := by simp
  have k0 : w2.cell? ⟨w.heap.size, 0, none⟩ = some (.int .i64 g) := (hb2.cell (p := ⟨w.heap.size, 0, none⟩) hqw).trans (World.cell?_alloc_at _ _ _ _ rfl)
  have k1 : w2.cell? ⟨w.heap.size, 1, none⟩ = some (.int .i64 r) := (hb2.cell (p := ⟨w.heap.size, 1, none⟩) hqw).trans (World.cell?_alloc_at _ _ _ _ rfl)
  have k2 : w2.cell? ⟨w.heap.size, 2, none⟩ = some (.int .i64 b) := (hb2.cell (p := ⟨w.heap.size, 2, none⟩) hqw).trans (World.cell?_alloc_at _ _ _ _ rfl)
  have hq2 : w.heap.size < w2.heap.size := Nat.lt_of_lt_of_le hqw hb2.size
  have HB2 := Lib.hid (bt (alloc_below _ _) hb2)
  clear hb2 hqw HV
  go_wp2_with fail
  refine (row_any (some ⟨_, 0, none⟩) _ [g, r, b] _ ?_ ?_ (by simp)).mono ?_
  · intro _
    refine ⟨_, 0, rfl, by simp, fun i hi => ?_⟩
    match i, hi with
    | 0, _ => exact World.cell?_alloc_at _ _ _ _ (by simp)
    | 1, _ => exact World.cell?_alloc_at _ _ _ _ (by simp)
    | 2, _ => exact World.cell?_alloc_at _ _ _ _ (by simp)
  · obtain ⟨h1, h2, h3⟩ := HIN.out
    simp [h1, h2, h3]
  rintro e w5 ⟨v5, rfl, ho5, hb5⟩
  rw [← HR.out] at ho5
  obtain ⟨a5, c5, rfl, -, -⟩ := ho5.slice
  have hO5 : OwnB w5 0 (.slice (some ⟨w2.heap.size, 0, none⟩) 512 512) (List.replicate 512 0) := (((OwnB.made w2 512 (by omega)).below (alloc_below _ _)).below hb5).low (Nat.zero_le _)
  have hb25 : Below w2.heap.size w2 w5 := bt (bt (alloc_below _ _) (alloc_below _ _)) hb5
  obtain ⟨w6, hcp, ho6, hf6⟩ := own_copyN hO5 (by simp) (by omega) ho5.brd HRL.out.1 0 (by have := HRL.out.2; omega)
  have hcp1 := hcp 3 512 c5 512 rfl
  have e6 : (List.replicate 512 (0 : UInt8)).take 0 ++ R ++ (List.replicate 512 (0 : UInt8)).drop (0 + R.length) = R ++ List.replicate (512 - R.length) 0 := by rw [List.take_zero, List.nil_append, Nat.zero_add, List.drop_replicate]
  rw [e6] at ho6
  have hl6 : (R ++ List.replicate (512 - R.length) (0 : UInt8)).length = 512 := by
    have := HRL.out.2
    simp
    omega
  have hsg := sign_any w2.heap.size 512 508 _ w6 (by rw [hl6]; exact ho6) hl6 (by rw [hl6]; omega) (by rw [hl6]; exact Nat.le_refl _)
  have e7 : (R ++ List.replicate (512 - R.length) (0 : UInt8)).take 508 = R ++ List.replicate (508 - R.length) 0 := by
    have := HRL.out.2
    rw [List.take_append, List.take_of_length_le (by omega), List.take_replicate]
    congr 2
    omega
  rw [hl6, e7] at hsg
  have HSG := Lib.hid hsg
  have HF6 : Hid (Below w.heap.size w w5 ∧ Fr (fun k => k = w2.heap.size) w5 w6) := ⟨bt HB2.out hb25, hf6⟩
  have hq5 : w.heap.size < w5.heap.size := Nat.lt_of_lt_of_le hq2 hb25.size
  clear hmk ho5 hO5 hcp e6 ho6 hf6 hl6 hsg e7 hb5 hb25 k0 k1 k2
  go_wp2_with fail
  refine HSG.out.mono ?_
  rintro e w7 ⟨rfl, ho7, hf7⟩
  have HO7 := Lib.hid (own_raise ho7 (Nat.le_of_lt hq2))
  have HB7 := Lib.hid (below_tr HF6.out.1 ((HF6.out.2.trans' hf7 fun _ _ h => h).below (fun k hk => by omega) HF6.out.1.size))
  clear ho7 hf7
  go_wp2_with fail
  go_ret2
  exact ⟨_, _, rfl, HO7.out, HB7.out⟩

end

section

open Go.ChangeShapes Go.WideShapes Go.ChangeAt Go.RowKit
set_option linter.unusedVariables false

theorem rd_box_cell {w : World} {g : Nat} {a0 a1 : Value} {t : TypeId} (h : w.heap[g]? = some (.cells #[a0, a1] t (0, 0))) : w.cell? ⟨g, 0, none⟩ = some a0 ∧ w.cell? ⟨g, 1, none⟩ = some a1 ∧ w.frozen? ⟨g, 0, none⟩ = false ∧ w.frozen? ⟨g, 1, none⟩ = false := by
  refine ⟨?_, ?_, ?_, ?_⟩
  · rw [cell_of_row w g _ _ t (0, 0) h]; rfl
  · rw [cell_of_row w g _ _ t (0, 0) h]; rfl
  · simp [World.frozen?, h]
  · simp [World.frozen?, h]
/-- A reader that NewReader made, in the block g; its bytes lie in the block q. -/
def RdS (w : World) (g q : Nat) (l : List UInt8) : Prop := ∃ A cap, w.heap[g]? = some (.cells #[.bool true, .slice A l.length cap] 190 (0, 0)) ∧ BRd w A l ∧ l.length ≤ cap ∧ (A = none → cap = 0) ∧ ∀ a, A = some a → a = ⟨q, a.off, none⟩ ∧ q ≠ g ∧ q < w.heap.size
/-- Of the blocks that were there only g is written. -/
structure RGr (w w' : World) (g : Nat) : Prop where
  os : w'.os = w.os
  tape : w'.tape = w.tape
  output : w'.output = w.output
  size : w.heap.size ≤ w'.heap.size
  block : ∀ k, k < w.heap.size → k ≠ g → w'.heap[k]? = w.heap[k]?
theorem RGr.of_below {w w' : World} {g : Nat} (hb : Below w.heap.size w w') : RGr w w' g := ⟨hb.os, hb.tape, hb.output, hb.size, fun k hk _ => hb.block k hk⟩
theorem RGr.trans {w w1 w2 : World} {g : Nat} (h : RGr w w1 g) (k : RGr w1 w2 g) : RGr w w2 g :=
  ⟨k.os.trans h.os, k.tape.trans h.tape, k.output.trans h.output, Nat.le_trans h.size k.size, fun j hj hg => (k.block j (Nat.lt_of_lt_of_le hj h.size) hg).trans (h.block j hj hg)⟩
theorem RGr.set {w : World} {g : Nat} (v : Value) : RGr w (w.setCell ⟨g, 1, none⟩ v) g := ⟨rfl, rfl, rfl, by simp [World.setCell], fun k hk hg => Below.heap_setCell _ _ _ _ hg⟩
theorem rd_box_set {w : World} {g : Nat} {a0 a1 b : Value} {t : TypeId} (h : w.heap[g]? = some (.cells #[a0, a1] t (0, 0))) : (w.setCell ⟨g, 1, none⟩ b).heap[g]? = some (.cells #[a0, b] t (0, 0)) := by
  simp only [World.setCell, Array.getElem?_modify, if_pos, h, Option.map_some]
  rfl
theorem RdS.below {w w' : World} {g q : Nat} {l : List UInt8} (h : RdS w g q l) (hb : Below w.heap.size w w') : RdS w' g q l := by
  obtain ⟨A, cap, h1, h2, h3, hn, h4⟩ := h
  have hg : g < w.heap.size := (Array.getElem?_eq_some_iff.1 h1).1
  exact ⟨A, cap, (hb.block g hg).trans h1, h2.below hb, h3, hn, fun a e => ⟨(h4 a e).1, (h4 a e).2.1, Nat.lt_of_lt_of_le (h4 a e).2.2 hb.size⟩⟩

set_option maxHeartbeats 1600000 in
theorem newReader_any (A : Option Addr) (c : Nat) (l : List UInt8) (w : World) (hA : BRd w A l) (hl : l.length ≤ 140737488355328) :
    Calls Try.prog 110 #[.slice A l.length c] w fun e w' => ∃ g q, e = .returned (.pointer (some ⟨g, 0, none⟩)) ∧ w.heap.size ≤ g ∧ w.heap.size ≤ q ∧ q < w'.heap.size ∧ RdS w' g q l ∧ Below w.heap.size w w' := by
  have HC := Lib.hid (clone_any A c l w hA hl)
  clear hA
  go_enter Try.func110, Try.ntmps110
  go_wp2_with fail
  refine HC.out.mono ?_
  rintro e w1 ⟨v1, rfl, hown, hb⟩
  obtain ⟨a, cap, rfl, hcap, hcn⟩ := hown.slice
  have HO := Lib.hid hown
  have HB := Lib.hid hb
  have HCP := Lib.hid hcap
  have HCN := Lib.hid hcn
  have hBr : w.heap.size ≤ w1.heap.size := hb.size
  clear hown hb hcap hcn
  go_wp2_with fail
  go_ret
  cases a with
  | none => exact ⟨w1.heap.size, w1.heap.size, rfl, hBr, hBr, by simp, ⟨none, cap, heap_alloc_new w1 _, HO.out.brd.alloc _, HCP.out, HCN.out, fun a e => by cases e⟩, HB.out.alloc hBr _⟩
  | some a =>
    have h := World.ownsRow.lt HO.out a.block rfl
    have ha : a = ⟨a.block, a.off, none⟩ := by
      rcases HO.out.2 with ⟨h2, _⟩ | ⟨g, c2, cur, h2, _⟩
      · cases h2
      · cases h2; rfl
    exact ⟨w1.heap.size, a.block, rfl, hBr, h.1, by simp; omega, ⟨some a, cap, heap_alloc_new w1 _, HO.out.brd.alloc _, HCP.out, HCN.out, fun a' e => by
      obtain rfl := Option.some.inj e
      exact ⟨ha, Nat.ne_of_lt h.2, by simp; omega⟩⟩, HB.out.alloc hBr _⟩
theorem rd_isMade_any (w : World) (g q : Nat) (l : List UInt8) (h : RdS w g q l) :
    Calls Try.prog 141 #[.pointer (some ⟨g, 0, none⟩)] w fun e w' => e = .returned (.bool true) ∧ w = w' := by
  obtain ⟨A, cap, h1, h2, h3, hn, h4⟩ := h
  obtain ⟨c0, c1, f0, f1⟩ := rd_box_cell h1
  clear h1 h2 h3 h4 hn
  go_enter Try.func141, Try.ntmps141
  go_wp2
  go_ret
  exact ⟨rfl, rfl⟩
theorem rd_end_any (w : World) (g q : Nat) (l : List UInt8) (h : RdS w g q l) :
    Calls Try.prog 153 #[.pointer (some ⟨g, 0, none⟩)] w fun e w' => e = .returned (.int .i64 (if l.length = 0 then 0 else 32)) ∧ w = w' := by
  have HM := Lib.hid (rd_isMade_any w g q l h)
  obtain ⟨A, cap, h1, h2, h3, hn, h4⟩ := h
  obtain ⟨c0, c1, f0, f1⟩ := rd_box_cell h1
  clear h1 h2 h3 h4 hn
  by_cases h0 : l.length = 0
  · rw [if_pos h0]
    have hI : ¬ (0 < (l.length : Int)) := by omega
    have hI2 : ¬ (0 < l.length) := by omega
    clear h0
    go_enter Try.func153, Try.ntmps153
    go_wp2_with (go_at_call 141; refine HM.out.mono ?_; rintro e w' ⟨rfl, rfl⟩)
    go_ret
    exact ⟨rfl, rfl⟩
  · rw [if_neg h0]
    have hI : (0 < (l.length : Int)) := by omega
    have hI2 : (0 < l.length) := by omega
    clear h0
    go_enter Try.func153, Try.ntmps153
    go_wp2_with (go_at_call 141; refine HM.out.mono ?_; rintro e w' ⟨rfl, rfl⟩)
    go_ret
    exact ⟨rfl, rfl⟩
theorem rdI_len {b : List UInt8} {n : Int} {k : Nat} {e : Int} (h : rdI b = (n, k, e)) : k ≤ b.length := by
  by_cases he : e = 0
  · subst he
    obtain ⟨_, h1, x, h2⟩ := rd_sound b n k h
    rw [h2, List.length_append, ← h1]
    omega
  · have := rd_none b n k e h he
    omega
/-- What is left behind k bytes, as the walk writes it. -/
theorem RdS.moved {w : World} {g q k cap off : Nat} {l : List UInt8} (A' : Option Addr) (h1 : w.heap[g]? = some (.cells #[.bool true, .slice (some ⟨q, off, none⟩) l.length cap] 190 (0, 0))) (h2 : BRd w (some ⟨q, off, none⟩) l) (h3 : l.length ≤ cap) (hk : k ≤ l.length) (hq : q ≠ g) (hqs : q < w.heap.size) (n' c' : Nat) (hn : n' = l.length - k) (hc : c' = cap - k)
    (hA : A' = some ⟨q, off + k, none⟩ ∨ (cap = k ∧ A' = some ⟨q, off, none⟩)) : RdS (w.setCell ⟨g, 1, none⟩ (.slice A' n' c')) g q (l.drop k) ∧ RGr w (w.setCell ⟨g, 1, none⟩ (.slice A' n' c')) g := by
  subst hn hc
  refine ⟨⟨A', cap - k, ?_, ?_, ?_, ?_, ?_⟩, RGr.set _⟩
  · rw [List.length_drop]; exact rd_box_set h1
  · intro hn0
    rw [List.length_drop] at hn0
    obtain ⟨q', off', e, hg, hc⟩ := h2 (by omega)
    obtain ⟨rfl, rfl⟩ : q = q' ∧ off = off' := by simpa using e
    have hA2 : A' = some ⟨q, off + k, none⟩ := by
      rcases hA with h | ⟨h, _⟩
      · exact h
      · omega
    refine ⟨q, off + k, hA2, by simpa [World.setCell] using hg, fun i hi => ?_⟩
    rw [List.length_drop] at hi
    rw [World.cell?_of_block (w := w) (a := ⟨q, off + k + i, none⟩) (Below.heap_setCell _ _ _ _ hq), Nat.add_assoc, hc (k + i) (by omega)]
    simp
  · rw [List.length_drop]; omega
  · rcases hA with h | ⟨_, h⟩ <;> (rw [h]; intro e; cases e)
  · intro a e
    rcases hA with h | ⟨_, h⟩ <;> (rw [h] at e; obtain rfl := Option.some.inj e; exact ⟨rfl, hq, by simpa [World.setCell] using hqs⟩)
theorem RdS.moved0 {w : World} {g q : Nat} (h1 : w.heap[g]? = some (.cells #[.bool true, .slice none 0 0] 190 (0, 0))) : RdS (w.setCell ⟨g, 1, none⟩ (.slice none 0 0)) g q (([] : List UInt8).drop 0) :=
  ⟨none, 0, rd_box_set h1, BRd.nil _ _, Nat.le_refl _, fun _ => rfl, fun a e => by cases e⟩
def RIPost (g q : Nat) (l : List UInt8) (w : World) (e : Ending) (w' : World) : Prop := e = .returned (.tuple #[.int .i64 (rdI l).1, .int .i64 (rdI l).2.2]) ∧ RdS w' g q (l.drop (rdI l).2.1) ∧ RGr w w' g

set_option maxHeartbeats 1600000 in
theorem rInt_any (w : World) (g q : Nat) (l : List UInt8) (h : RdS w g q l) (hl : l.length ≤ 140737488355328) :
    Calls Try.prog 111 #[.pointer (some ⟨g, 0, none⟩)] w (RIPost g q l w) := by
  have HM := Lib.hid (rd_isMade_any w g q l h)
  obtain ⟨A, cap, h1, h2, h3, hn, h4⟩ := h
  have HT := Lib.hid (takeInt_any A cap l w h2 hl h3)
  obtain ⟨c0, c1, f0, f1⟩ := rd_box_cell h1
  unfold TakeI at HT
  unfold RIPost
  rcases hr : rdI l with ⟨n, k, er⟩
  have hk := rdI_len hr
  rw [hr] at HT
  simp only at HT
  simp only
  clear hr
  have H1 := Lib.hid h1
  have H2 := Lib.hid h2
  cases A with
  | none =>
    obtain rfl := hn rfl
    have hl0 : l = [] := List.length_eq_zero_iff.1 (by omega)
    subst hl0
    obtain rfl : k = 0 := by simpa using hk
    clear h1 h2 h3 h4 hn hk
    go_enter Try.func111, Try.ntmps111
    go_wp2_with (first | (go_at_call 141; refine HM.out.mono ?_; rintro e w' ⟨rfl, rfl⟩) | (go_at_call 142; refine HT.out.mono ?_; rintro e w' ⟨rfl, rfl⟩))
    go_ret2
    exact ⟨rfl, RdS.moved0 H1.out, RGr.set _⟩
  | some a =>
    obtain ⟨ha, hq, hqs⟩ := h4 a rfl
    obtain ⟨qb, off, sp⟩ := a
    simp only [Addr.mk.injEq] at ha
    obtain ⟨rfl, -, rfl⟩ := ha
    have HQ := Lib.hid hq
    have HH3 := Lib.hid h3
    have HKL := Lib.hid hk
    have hkI : (k : Int) ≤ (l.length : Int) := by omega
    have hkc : (k : Int) ≤ (cap : Int) := by omega
    have hlc : (l.length : Int) ≤ (cap : Int) := by omega
    by_cases hck : cap = k
    · obtain rfl : k = cap := hck.symm
      have hlk : l.length = k := by omega
      have HLK := Lib.hid hlk
      clear h1 h2 h3 h4 hn hk hq hlk
      go_enter Try.func111, Try.ntmps111
      go_wp2_with (first | (go_at_call 141; refine HM.out.mono ?_; rintro e w' ⟨rfl, rfl⟩) | (go_at_call 142; refine HT.out.mono ?_; rintro e w' ⟨rfl, rfl⟩))
      go_ret2
      exact ⟨rfl, RdS.moved _ H1.out H2.out HH3.out HKL.out HQ.out hqs _ _ (by omega) (by omega) (.inr ⟨rfl, rfl⟩)⟩
    · clear h1 h2 h3 h4 hn hk hq
      go_enter Try.func111, Try.ntmps111
      go_wp2_with (first | (go_at_call 141; refine HM.out.mono ?_; rintro e w' ⟨rfl, rfl⟩) | (go_at_call 142; refine HT.out.mono ?_; rintro e w' ⟨rfl, rfl⟩))
      go_ret2
      exact ⟨rfl, RdS.moved _ H1.out H2.out HH3.out HKL.out HQ.out hqs _ _ rfl rfl (.inl rfl)⟩

end

section

open Go.ChangeShapes Go.WideShapes Go.ChangeAt Go.RowKit Go.Deep
set_option linter.unusedVariables false

/-- Are they all zeros? -/
def zeroB (l : List UInt8) : Bool := l.all (· == 0)
set_option maxHeartbeats 3200000 in
set_option maxRecDepth 100000 in
theorem noughts_any (A : Option Addr) (c n : Nat) (l : List UInt8) (w : World) (hA : BRd w A l) (hn : n = l.length) (hl : n ≤ 4194304) : Calls Try.prog 59 #[.slice A n c] w fun e w' => e = .returned (.bool (zeroB l)) ∧ w = w' := by
  have HA := Lib.hid hA
  have HN := Lib.hid hn
  have hlI : (n : Int) ≤ 4194304 := by omega
  clear hA hn
  go_enter Try.func59, Try.ntmps59
  go_wp2_with fail
  go_loop [3] (fun i => ∃ j : Nat, j ≤ n ∧ i = .int .i64 j ∧ (∀ k, k < j → l[k]? = some 0)) (fun i => n - (intOf i).toNat)
  case atStart => exact ⟨0, by omega, rfl, fun k hk => by omega⟩
  case round =>
    obtain ⟨j, hj, rfl, hz⟩ := hrel
    have HZ := Lib.hid hz
    clear hz
    by_cases hjn : j < n
    · have hjl : j < l.length := by have := HN.out; omega
      obtain ⟨g, o, rfl, hg, hcs⟩ := HA.out (by omega)
      have hcell := hcs j hjl
      have HX : Hid (l[j]? = some l[j]) := List.getElem?_eq_getElem hjl
      generalize l[j] = x at *
      clear hcs
      by_cases hx : x = 0
      · subst hx
        rw [show (((0 : UInt8).toNat : Nat) : Int) = 0 from rfl] at hcell
        have hjI : (j : Int) < (n : Int) := by omega
        go_wp2_with fail
        exact ⟨⟨j + 1, by omega, rfl, fun k hk => by
          rcases (by omega : k < j ∨ k = j) with h | rfl
          · exact HZ.out k h
          · exact HX.out⟩, by simp only [intOf]; omega⟩
      · have hxI : ¬ ((x.toNat : Nat) : Int) = 0 := fun e => by
          have h7 : x.toNat = 0 := by omega
          exact hx (UInt8.toNat_inj.1 h7)
        have HF : Hid (zeroB l = false) := by
          show _ = _
          unfold zeroB
          rw [List.all_eq_false]
          exact ⟨x, List.mem_of_getElem? HX.out, by simpa using hx⟩
        clear hx
        go_wp2_with fail
        go_ret
        exact ⟨ret_bool HF.out.symm, rfl⟩
    · obtain rfl : j = n := by omega
      have HF : Hid (zeroB l = true) := by
        show _ = _
        unfold zeroB
        rw [List.all_eq_true]
        intro x hx
        obtain ⟨k, hk⟩ := List.getElem?_of_mem hx
        have hkl : k < l.length := (List.getElem?_eq_some_iff.1 hk).1
        have h := HZ.out k (by have := HN.out; omega)
        rw [h] at hk
        obtain rfl := Option.some.inj hk
        rfl
      go_wp2_with fail
      go_ret
      exact ⟨ret_bool HF.out.symm, rfl⟩

end

section

open Go.ChangeShapes Go.WideShapes Go.ChangeAt Go.RowKit Go.Deep
set_option linter.unusedVariables false

/-- Zeros are appended to a slice of the call's own. -/
theorem run_zerosU (w : World) (ty : TypeId) (v : Value) (l : List UInt8) (hown : OwnB w 0 v l) (k : Nat) (h0 : 0 < k) (hlim : l.length + k ≤ 150000000000000) :
    ∃ v' w', (Builtin.append_ #[23, 24] ty #[v, .int .u16 k]).run Try.prog w = .ok v' w' ∧ OwnB w' 0 v' (l ++ List.replicate k 0) ∧ Grw w w' v v' := by
  obtain ⟨i0, hi, hz0, hz1, hz2⟩ := info_parts byteInfo
  have hzc : (Value.int .u8 0).cells = #[.int .u8 0] := rfl
  have hcells : Lib.byteCells (l ++ List.replicate k 0) = Lib.byteCells l ++ List.replicate k (.int .u8 0) := by simp [Lib.byteCells]
  have hxl : (Lib.byteCells l).length = l.length := by simp [Lib.byteCells]
  have fresh : ∀ (old : Nat) (row : Option Nat), old < l.length + k →
      (w.drew.alloc (.cells ((Lib.byteCells l).toArray ++ Builtin.zeroCells (Value.int .u8 0).cells k ++ Builtin.zeroCells (Value.int .u8 0).cells (grownCap w (l.length + k) old 5 - (l.length + k))) 5)).ownsRow 0 5 1
        (.slice (some ⟨w.heap.size, 0, none⟩) (l.length + k) (grownCap w (l.length + k) old 5)) (l.length + k) (Lib.byteCells l ++ List.replicate k (.int .u8 0)) ∧
      w.grownBy (w.drew.alloc (.cells ((Lib.byteCells l).toArray ++ Builtin.zeroCells (Value.int .u8 0).cells k ++ Builtin.zeroCells (Value.int .u8 0).cells (grownCap w (l.length + k) old 5 - (l.length + k))) 5)) row := by
    intro old row ho
    have hge := grownCap_ge w (l.length + k) old 5
    have hcm : grownCap w (l.length + k) old 5 ≤ maxLen := grownCap_le_maxLen w (l.length + k) old 5 (by unfold maxLen; omega)
    refine ⟨⟨by simp [hxl], .inr ⟨w.heap.size, _, _, rfl, Nat.zero_le _, heap_alloc_new w.drew _, hge, hcm, ?_, ?_⟩⟩, ⟨rfl, rfl, rfl, by simp, fun j hj _ => heap_alloc_old w.drew _ hj⟩⟩
    · simp only [Array.size_append, List.size_toArray, size_zeroCells, hxl, hzc, List.size_toArray, List.length_cons, List.length_nil]
      omega
    · rw [zeroCells_one _ k hzc]
      simp only [Array.toList_append, List.append_assoc]
      rw [← List.append_assoc, Nat.mul_one]
      have : l.length + k = (Lib.byteCells l ++ List.replicate k (Value.int .u8 0)).length := by simp [hxl]
      rw [this]
      exact List.take_left
  have hlen : l.length + k = (l ++ List.replicate k 0).length := by simp
  rcases hown.2 with ⟨rfl, hl0⟩ | ⟨g, cap, cur, rfl, hbg, hg, hnc, hcm, hcs, htake⟩
  · have hr := Lib.run_append_nil_zeros (P := Try.prog) w 23 24 ty 5 i0 (.int .u8 0) .u16 .u16 Try.underlying23 Try.underlying24 hi hz0 k h0 (by omega) (by omega) (by rw [hz2]; omega)
    have hl : l = [] := List.length_eq_zero_iff.1 hl0
    subst hl
    have hf := fresh 0 (Value.ownBlock (.slice none 0 0)) (by simp; omega)
    simp only [List.length_nil, Nat.zero_add, List.nil_append, Lib.byteCells, List.map_nil, Array.empty_append] at hf
    refine ⟨_, _, hr, ?_, ?_⟩
    · have h2 := hf.1
      unfold OwnB
      simpa [Lib.byteCells] using h2
    · exact Grw.lies hf.2 (.inr rfl)
  · by_cases hroom : l.length + k ≤ cap
    · have hr := run_append_room_zeros (P := Try.prog) w 23 24 ty 5 i0 (.int .u8 0) .u16 .u16 Try.underlying23 Try.underlying24 hi hz0 hz1 hzc rfl g l.length cap cur hg k h0 hroom (by omega) (by omega) (by rw [hz2]; omega)
      refine ⟨_, _, hr, ?_, ?_⟩
      · unfold OwnB
        rw [hcells, ← hlen]
        refine ⟨by simp [hxl], .inr ⟨g, cap, _, rfl, Nat.zero_le _, setRow_heap w g cur _ 5 _ hg, hroom, hcm, ?_, ?_⟩⟩
        · simp only [List.size_toArray, List.length_append, List.length_take, List.length_drop, Array.length_toList, List.length_replicate]
          omega
        · rw [Nat.mul_one] at htake
          rw [htake, Nat.mul_one]
          have : l.length + k = (Lib.byteCells l ++ List.replicate k (Value.int .u8 0)).length := by simp [hxl]
          rw [this]
          exact List.take_left
      · exact Grw.lies ⟨rfl, rfl, rfl, by simp, fun j _ hj => setRow_other w g j _ (fun e => hj (by simp [Value.ownBlock, e]))⟩ (.inl rfl)
    · have holds : ∀ j u, (Lib.byteCells l)[j]? = some u → w.cell? ((⟨g, 0, none⟩ : Addr).add j) = some u := World.ownsRow.cells hown (g := g) rfl
      have hr := Lib.run_append_grow_zeros (P := Try.prog) w 23 24 ty 5 i0 (.int .u8 0) .u16 .u16 Try.underlying23 Try.underlying24 hi hz0 (some ⟨g, 0, none⟩) l.length cap (Lib.byteCells l)
        (run_firstCells_some (P := Try.prog) w.drew i0.size l.length ⟨g, 0, none⟩ l.length cap (Lib.byteCells l) (by rw [hxl, hz1, Nat.mul_one]) (by simpa using holds)) k h0 (by omega) (by omega) (by omega) (by rw [hz2]; omega) (by rw [hz2, Nat.mul_one]; exact cap_fits (by omega) (by omega))
      have hf := fresh cap (Value.ownBlock (.slice (some ⟨g, 0, none⟩) l.length cap)) (by omega)
      refine ⟨_, _, hr, ?_, ?_⟩
      · unfold OwnB
        rw [hcells, ← hlen]
        exact hf.1
      · exact Grw.lies hf.2 (.inr rfl)
/-- Zeros, and perhaps none, are appended to a slice of the call's own. -/
theorem run_zerU (w : World) (ty : TypeId) (B k : Nat) (v : Value) (l : List UInt8) (hown : OwnB w B v l) (hB : B ≤ w.heap.size) (hlim : l.length + k ≤ 150000000000000) :
    ∃ v' w', (Builtin.append_ #[23, 24] ty #[v, .int .u16 k]).run Try.prog w = .ok v' w' ∧ OwnB w' B v' (l ++ List.replicate k 0) ∧ Below B w w' := by
  obtain ⟨i, hi, hz, hs, hbb⟩ := info_parts byteInfo
  have ht := Try.underlying23
  have htn := Try.underlying24
  by_cases hk : 0 < k
  · obtain ⟨v', w', h1, h2, h3⟩ := run_zerosU w ty v l (hown.low (Nat.zero_le _)) k hk (by omega)
    obtain ⟨g', c', rfl, _, _⟩ := World.ownsRow.form h2 (by simp; omega)
    have hg' : B ≤ g' := by
      rcases h3.at_ with e | e
      · exact (World.ownsRow.lt hown g' e.symm).1
      · exact Nat.le_trans hB (e g' rfl)
    refine ⟨_, w', h1, ?_, h3.below hown hB⟩
    have hl : (l ++ List.replicate k (0 : UInt8)).length = l.length + k := by simp
    rw [hl] at h2 ⊢
    exact own_raise h2 hg'
  · obtain rfl : k = 0 := by omega
    refine ⟨v, w, ?_, by rw [List.replicate_zero, List.append_nil]; exact hown, Below.refl _ _⟩
    obtain ⟨a, cap, rfl, hcap, -⟩ := hown.slice
    have hzz := zeroCells_one (.int .u8 0) 0 rfl
    have hw0 : IntKind.i64.wrap 0 = 0 := by decide
    cases a <;> simp [hw0, Builtin.append_, run_underlying ht, run_underlying htn, sizeOf, typeInfo, zeroValue, hi, hz, asInt, asIntOf, hzz, hcap, Builtin.lenOf, Builtin.firstCells, loadCells, storeCells]
/-- A call of append in a drawn region whose answer is known. -/
theorem step_app {ops : Array Oper} {o : Oper} {a : Act} {w : World} {K : Act → World → Prop} {Q : Exit → Act → World → Prop} {E : Prop} (hg : o.guard = none) (s x : Operand) (t t' : TypeId)
    (ho : o.op = .call { callee := .builtin .append, args := #[s, x], argTypes := #[t, t'] }) (v u : Value) (hs : a.eval s = v) (hx : a.eval x = u) {v' : Value} {w' : World}
    (hr : (Builtin.append_ #[t, t'] o.type #[v, u]).run Try.prog w = .ok v' w') (h : K (a.put o.dst v') w') : if Region.wanted o (yielded ops a.tmps) = true then Oper.wp Try.prog o a w K Q else E := by
  have hw : Region.wanted o (yielded ops a.tmps) = true := by simp [Region.wanted, hg]
  rw [if_pos hw]
  unfold Oper.wp execOp
  simp only [ho, resolve, invoke, builtin, Sem.run_bind, Sem.run_pure, Result.andThen_ok, List.map_toArray, List.map_cons, List.map_nil, hs, hx, hr]
  exact h

end

section

open Go.ChangeShapes Go.WideShapes Go.ChangeAt Go.RowKit Go.Deep
set_option linter.unusedVariables false

/-- An operation's bytes. -/
def dataB (l : List UInt8) (m : Nat) : List UInt8 := l ++ List.replicate (m % 9000) 0
set_option maxHeartbeats 3200000 in
set_option maxRecDepth 100000 in
theorem data_any (d n : Int) (m : Nat) (La A Ka : Option Addr) (Ln Lc N c Kn Kc : Nat) (l : List UInt8) (w : World) (hA : BRd w A l) (hN : N = l.length) (hl : N ≤ 140737488355328) :
    Calls Try.prog 12 #[.agg #[.int .i64 d, .int .i64 n, .slice La Ln Lc, .slice A N c, .int .u16 m, .slice Ka Kn Kc]] w fun e w' => ∃ v, e = .returned v ∧ OwnB w' w.heap.size v (dataB l m) ∧ Below w.heap.size w w' := by
  have HCL : Hid (∀ W, Below w.heap.size w W → Calls Try.prog 16 #[.slice A N c] W fun e w' => ∃ v', e = .returned v' ∧ OwnB w' W.heap.size v' l ∧ Below W.heap.size W w') := fun W hW => by
    subst hN
    exact clone_any A c l W (hA.below hW) (by omega)
  have HN := Lib.hid hN
  obtain ⟨k, hk⟩ : ∃ k, k = m % 9000 := ⟨_, rfl⟩
  have hk9 : k < 9000 := by omega
  have HK : Hid (dataB l m = l ++ List.replicate k 0) := by rw [hk]; rfl
  have hmk : (m : Int) % 9000 = (k : Int) := by omega
  have hmt : (m : Int).tmod 9000 = (k : Int) := by rw [Int.tmod_eq_emod_of_nonneg (by omega)]; exact hmk
  have hm0 : (0 : Int) ≤ (m : Int) := by omega
  have hk0 : (0 : Int) ≤ (k : Int) := by omega
  have hkI : (k : Int) < 9000 := by omega
  rw [HK.out]
  clear hA hN hk
  go_enter Try.func12, Try.ntmps12
  go_wp2_with fail
  have hb0 : Below w.heap.size w (w.alloc (.cells #[.int .i64 d, .int .i64 n, .slice La Ln Lc, .slice A N c, .int .u16 m, .slice Ka Kn Kc] 27)) := alloc_below _ _
  have hq : w.heap.size < (w.alloc (.cells #[.int .i64 d, .int .i64 n, .slice La Ln Lc, .slice A N c, .int .u16 m, .slice Ka Kn Kc] 27)).heap.size := by simp
  have q3 : (w.alloc (.cells #[.int .i64 d, .int .i64 n, .slice La Ln Lc, .slice A N c, .int .u16 m, .slice Ka Kn Kc] 27)).cell? ⟨w.heap.size, 3, none⟩ = some (.slice A N c) := World.cell?_alloc_at _ _ _ _ rfl
  have q4 : (w.alloc (.cells #[.int .i64 d, .int .i64 n, .slice La Ln Lc, .slice A N c, .int .u16 m, .slice Ka Kn Kc] 27)).cell? ⟨w.heap.size, 4, none⟩ = some (.int .u16 m) := World.cell?_alloc_at _ _ _ _ rfl
  generalize w.alloc (.cells #[.int .i64 d, .int .i64 n, .slice La Ln Lc, .slice A N c, .int .u16 m, .slice Ka Kn Kc] 27) = W at *
  have q3d : W.drew.cell? ⟨w.heap.size, 3, none⟩ = some (.slice A N c) := q3
  have q4d : W.drew.cell? ⟨w.heap.size, 4, none⟩ = some (.int .u16 m) := q4
  have hbd : Below w.heap.size w W.drew := hb0.drew
  go_region_law (first
    | (refine step_app (by rfl) _ _ 23 24 (by rfl) v3 (.int .u16 (k : Int)) (by rfl) (by rfl) hr4 ?_)
    | (go_simp; go_at_call 16; refine (HCL.out _ hbd).mono ?_; rintro e w3 ⟨v3, rfl, ho3, hb3⟩; have q43 : w3.cell? ⟨w.heap.size, 4, none⟩ = some (.int .u16 m) := (hb3.cell (p := ⟨w.heap.size, 4, none⟩) hq).trans q4; have hbw := below_tr hbd (hb3.mono hbd.size); obtain ⟨v4, w4, hr4, ho4, hb4⟩ := run_zerU w3 23 w.heap.size k v3 l (ho3.low hbd.size) hbw.size (by have := HN.out; omega); have HO4 := Lib.hid ho4; have HB4 := Lib.hid (below_tr hbw hb4); clear ho3 hb3 hbw ho4 hb4))
  all_goals go_wp2_with fail
  all_goals go_ret
  all_goals exact ⟨v4, rfl, HO4.out, HB4.out⟩

end

section

open Go.ChangeShapes Go.WideShapes Go.ChangeAt Go.RowKit Go.Deep
set_option linter.unusedVariables false

set_option maxHeartbeats 3200000 in
set_option maxRecDepth 100000 in
theorem rest_any (g o c n E : Nat) (b : List UInt8) (w : World) (hA : BRd w (some ⟨g, o, none⟩) b) (hn : n = b.length) (hE : n = E + 4) (hc : n ≤ c) (hl : n ≤ 4194304) :
    Calls Try.prog 58 #[.slice (some ⟨g, o, none⟩) n c] w fun e w' => e = .returned (.tuple #[.slice (some ⟨g, o, none⟩) E c, .bool (leB (crcN32 (b.take E)) 4 == b.drop E)]) ∧ Below w.heap.size w w' := by
  have hte : (b.take E).length = E := by rw [List.length_take]; omega
  have hde : (b.drop E).length = 4 := by rw [List.length_drop]; omega
  have HSU : Hid (∀ W, Below w.heap.size w W → Calls Try.prog 91 #[.slice (some ⟨g, o, none⟩) E c] W fun e w' => e = .returned (.int .u32 (crcN32 (b.take E))) ∧ W = w') := fun W hW => by
    have h := refSum_any (some ⟨g, o, none⟩) c (b.take E) W ((brd_take' hA E).below hW) (by omega)
    rw [hte, show bits .xor .u32 4294967295 (crcL 4294967295 (b.take E)) = (crcN32 (b.take E) : Int) from crcV_nat _] at h
    exact h
  have hbd : BRd w (some ⟨g, o + E, none⟩) (b.drop E) := by
    have h := hA.sub E 4
    rw [List.take_of_length_le (by omega)] at h
    exact h
  have HCV : Hid (∀ W, Below w.heap.size w W → (convert 23 9 (.slice (some ⟨g, o + E, none⟩) 4 (c - E))).run Try.prog W = .ok (.string ⟨(b.drop E).toArray⟩) W) := fun W hW => conv_brd (hbd.below hW) hde.symm
  have hC := crcN_lt (b.take E)
  obtain ⟨D, hD⟩ : ∃ D, D = b.drop E := ⟨_, rfl⟩
  obtain ⟨C, hCC⟩ : ∃ C, C = crcN32 (b.take E) := ⟨_, rfl⟩
  rw [← hD] at HCV ⊢
  rw [← hCC] at HSU hC ⊢
  have HLI := Lib.hid (fun W => rlittle_any C 4 W (by omega) (by omega))
  have e1 := bytes_back (leB C 4)
  have e2 := bytes_back D
  have h0' : (0 : Int) ≤ (C : Int) := by omega
  have hC2 : (C : Int) < 4294967296 := by omega
  have hw64 : IntKind.u64.wrap (C : Int) = (C : Int) := by rw [IntKind.wrap_u64]; omega
  have hEI : (n : Int) - 4 = (E : Int) := by omega
  have hE4 : (E : Int) ≤ 4194304 := by omega
  have hE0 : (0 : Int) ≤ (E : Int) := by omega
  have hEc : E ≤ c := by omega
  have hEcI : (E : Int) ≤ (c : Int) := by omega
  have hEN : (E : Int) ≤ (n : Int) := by omega
  have hENn : E ≤ n := by omega
  have hNE : n - E = 4 := by omega
  have hNI : (n : Int) ≤ 4194304 := by omega
  have hne : ¬ c = E := by omega
  have hEl : E < c := by omega
  have hwd : Below w.heap.size w w.drew := (Below.refl _ _).drew
  have hcw := HCV.out w (Below.refl _ _)
  have hcd := HCV.out w.drew hwd
  have HB := Lib.hid hn
  clear hA hn hE hte hde hD hCC hC hbd
  go_enter Try.func58, Try.ntmps58
  go_wp2_with fail
  go_region_with
    (first
    | (go_at_call 91; refine (HSU.out _ (by first | exact hwd | exact Below.refl _ _)).mono ?_; rintro e w2 ⟨rfl, rfl⟩)
    | (go_at_call 54; (try rw [hw64]); refine (HLI.out _).mono ?_; rintro e w3 ⟨a3, k3, rfl, ho3, -, hb3⟩; have hc3 := conv_brd (k := k3) ho3.brd (leB_len C 4).symm; (rw [leB_len] at ⊢); have hbw : Below w.heap.size w w3 := (by first | exact bt hwd hb3 | exact hb3); have hc4 := HCV.out w3 hbw; have HBW := Lib.hid hbw; clear ho3 hb3 hbw))
  all_goals go_wp2_with fail
  all_goals go_ret2
  all_goals exact ⟨rfl, HBW.out⟩

end

section

open Go.ChangeShapes Go.WideShapes Go.ChangeAt Go.RowKit Go.Deep
set_option linter.unusedVariables false

theorem two_of (b : List UInt8) (h : 2 ≤ b.length) : ∃ x y l, b = x :: y :: l := by
  match b, h with
  | x :: y :: l, _ => exact ⟨x, y, l, rfl⟩
theorem le2 (x y : UInt8) : leN [x, y] = x.toNat + 256 * y.toNat ∧ leB (x.toNat + 256 * y.toNat) 2 = [x, y] := by
  have hx := x.toNat_lt
  have hy := y.toNat_lt
  refine ⟨by simp [leN], ?_⟩
  have e1 : UInt8.ofNat (x.toNat + 256 * y.toNat) = x := UInt8.toNat_inj.1 (by rw [UInt8.toNat_ofNat']; omega)
  have e2 : UInt8.ofNat ((x.toNat + 256 * y.toNat) / 256) = y := UInt8.toNat_inj.1 (by rw [UInt8.toNat_ofNat']; omega)
  simp [leB, e1, e2]
theorem zeroB_iff (l : List UInt8) : zeroB l = true ↔ l = List.replicate l.length 0 := by
  rw [List.eq_replicate_iff]
  simp [zeroB]
/-- When bytes are a block's. -/
theorem seal_back (b : List UInt8) (h4 : b.length = 4096) (N : Nat) (hN : N = leN (b.take 2)) (h90 : N ≤ 4090) :
    sealB ((b.drop 2).take N) = b ↔ leB (crcN32 (b.take 4092)) 4 = b.drop 4092 ∧ zeroB ((b.take 4092).drop (2 + N)) = true := by
  have hd : ((b.drop 2).take N).length = N := by rw [List.length_take, List.length_drop]; omega
  have h2 : leB N 2 = b.take 2 := by
    obtain ⟨x, y, l, rfl⟩ := two_of b (by omega)
    rw [show (x :: y :: l).take 2 = [x, y] from rfl] at hN ⊢
    rw [hN, (le2 x y).1, (le2 x y).2]
  have hsp : b.take 4092 = b.take 2 ++ (b.drop 2).take N ++ (b.take 4092).drop (2 + N) := by
    have e1 : b.take 2 ++ (b.drop 2).take N = (b.take 4092).take (2 + N) := by
      rw [List.take_take, Nat.min_eq_left (by omega), List.take_add]
    rw [e1, List.take_append_drop]
  have hbl : blockB ((b.drop 2).take N) = b.take 2 ++ (b.drop 2).take N ++ List.replicate (4090 - N) 0 := by
    unfold blockB
    rw [hd, h2]
  have hlr : ((b.take 4092).drop (2 + N)).length = 4090 - N := by rw [List.length_drop, List.length_take]; omega
  have hb2 : blockB ((b.drop 2).take N) = b.take 4092 ↔ zeroB ((b.take 4092).drop (2 + N)) = true := by
    rw [zeroB_iff, hlr, hbl]
    constructor
    · intro h
      rw [hsp] at h
      exact (List.append_cancel_left h).symm
    · intro h
      rw [← h]
      exact hsp.symm
  have hbb : (blockB ((b.drop 2).take N)).length = 4092 := blockB_len _ (by omega)
  constructor
  · intro h
    have h' : blockB ((b.drop 2).take N) ++ leB (crcN32 (blockB ((b.drop 2).take N))) 4 = b.take 4092 ++ b.drop 4092 := by rw [List.take_append_drop]; exact h
    obtain ⟨e1, e2⟩ := List.append_inj h' (by rw [hbb, List.length_take]; omega)
    rw [e1] at e2
    exact ⟨e2, hb2.1 e1⟩
  · rintro ⟨e2, e1⟩
    have e := hb2.2 e1
    show blockB _ ++ leB (crcN32 (blockB _)) 4 = b
    rw [e, e2, List.take_append_drop]
theorem unsealV_sum (b : List UInt8) (h4 : b.length = 4096) (h : (leB (crcN32 (b.take 4092)) 4 == b.drop 4092) = false) : unsealV b = ([], 50) := by
  unfold unsealV
  rw [if_neg (by omega)]
  split
  · rfl
  · rename_i hN
    rw [if_neg]
    intro e
    have := ((seal_back b h4 _ rfl (by omega)).1 e).1
    rw [this] at h
    simp at h
theorem unsealV_big (b : List UInt8) (h4 : b.length = 4096) (h : 4090 < leN (b.take 2)) : unsealV b = ([], 50) := by
  unfold unsealV
  rw [if_neg (by omega), if_pos h]
theorem unsealV_rest (b : List UInt8) (h4 : b.length = 4096) (N : Nat) (hN : N = leN (b.take 2)) (h90 : N ≤ 4090) (h : (leB (crcN32 (b.take 4092)) 4 == b.drop 4092) = true) : unsealV b = if zeroB ((b.take 4092).drop (2 + N)) = true then ((b.drop 2).take N, 0) else ([], 50) := by
  have hs := seal_back b h4 N hN h90
  subst hN
  unfold unsealV
  rw [if_neg (by omega), if_neg (by omega)]
  by_cases hz : zeroB ((b.take 4092).drop (2 + leN (b.take 2))) = true
  · rw [if_pos hz, if_pos (hs.2 ⟨by simpa using h, hz⟩)]
  · rw [if_neg hz, if_neg fun e => hz (hs.1 e).2]
set_option maxHeartbeats 3200000 in
set_option maxRecDepth 100000 in
theorem runseal_any (A : Option Addr) (c n : Nat) (b : List UInt8) (w : World) (hA : BRd w A b) (hn : n = b.length) (hc : n ≤ c) : Calls Try.prog 18 #[.slice A n c] w (RRead (unsealV b) w) := by
  by_cases h4 : b.length = 4096
  · obtain ⟨g, o, rfl, hg, hcs⟩ := hA (by omega)
    obtain rfl : n = 4096 := by omega
    have HRE := Lib.hid (rest_any g o c 4096 4092 b w hA hn rfl hc (by omega))
    have HX := Lib.hid (brd_take' hA 4092)
    have HA := Lib.hid hA
    obtain ⟨x, y, l, hb⟩ := two_of b (by omega)
    have ht2 : b.take 2 = [x, y] := by rw [hb]; rfl
    obtain ⟨N, hN⟩ : ∃ N, N = leN (b.take 2) := ⟨_, rfl⟩
    have hN2 : N = x.toNat + 256 * y.toNat := by rw [hN, ht2, (le2 x y).1]
    have hx := x.toNat_lt
    have hy := y.toNat_lt
    have e0 := hcs 0 (by omega)
    have e1 := hcs 1 (by omega)
    simp only [hb, List.getElem_cons_zero, List.getElem_cons_succ, Nat.add_zero] at e0 e1
    have HC0 : Hid (w.cell? ⟨g, o, none⟩ = some (.int .u8 (x.toNat : Int)) ∧ w.cell? ⟨g, o + 1, none⟩ = some (.int .u8 (y.toNat : Int))) := ⟨e0, e1⟩
    have HV1 := Lib.hid (unsealV_sum b h4)
    have HV2 := Lib.hid (unsealV_big b h4)
    have HV3 := Lib.hid (unsealV_rest b h4 N hN)
    have HNN := Lib.hid hN
    have HG := Lib.hid hg
    generalize hq : (leB (crcN32 (b.take 4092)) 4 == b.drop 4092) = q at *
    have H4 := Lib.hid h4
    obtain ⟨X, hX⟩ : ∃ X : Int, X = (x.toNat : Int) := ⟨_, rfl⟩
    obtain ⟨Y, hY⟩ : ∃ Y : Int, Y = (y.toNat : Int) := ⟨_, rfl⟩
    rw [← hX, ← hY] at HC0
    have hX0 : 0 ≤ X := by omega
    have hX1 : X ≤ 255 := by omega
    have hY0 : 0 ≤ Y := by omega
    have hY1 : Y ≤ 255 := by omega
    have hXY : X + 256 * Y = (N : Int) := by omega
    have hc1 : (4092 : Int) ≤ (c : Int) := by omega
    clear hA hn hcs hb ht2 hN hN2 hx hy e0 e1 hX hY hg hq h4
    cases q with
    | false =>
      have HV := Lib.hid (HV1.out rfl)
      clear HV1 HV2 HV3
      go_enter Try.func18, Try.ntmps18
      go_wp2_with fail
      refine HRE.out.mono ?_
      rintro e w2 ⟨rfl, hb2⟩
      have HB2 := Lib.hid hb2
      obtain ⟨c0, c1⟩ := HC0.out
      rw [← hb2.cell (p := ⟨g, o, none⟩) HG.out] at c0
      rw [← hb2.cell (p := ⟨g, o + 1, none⟩) HG.out] at c1
      clear hb2 HRE
      go_wp2_with fail
      go_region
      go_wp2_with fail
      all_goals go_ret2
      all_goals rw [HV.out]
      all_goals exact ⟨none, 0, 0, rfl, rfl, BRd.nil _ _, by first | exact HB2.out | exact HB2.out.drew⟩
    | true =>
      by_cases hbig : 4090 < N
      · have HV := Lib.hid (HV2.out (by rw [← HNN.out]; exact hbig))
        have hbI : (4090 : Int) < (N : Int) := by omega
        clear HV1 HV2 HV3 hbig
        go_enter Try.func18, Try.ntmps18
        go_wp2_with fail
        refine HRE.out.mono ?_
        rintro e w2 ⟨rfl, hb2⟩
        have HB2 := Lib.hid hb2
        obtain ⟨c0, c1⟩ := HC0.out
        rw [← hb2.cell (p := ⟨g, o, none⟩) HG.out] at c0
        rw [← hb2.cell (p := ⟨g, o + 1, none⟩) HG.out] at c1
        clear hb2 HRE
        go_wp2_with fail
        go_region
        go_wp2_with fail
        all_goals go_ret2
        all_goals rw [HV.out]
        all_goals exact ⟨none, 0, 0, rfl, rfl, BRd.nil _ _, by first | exact HB2.out | exact HB2.out.drew⟩
      · have HV0 := HV3.out (by omega) rfl
        have hbI : ¬ (4090 : Int) < (N : Int) := by omega
        have hN90 : (N : Int) ≤ 4090 := by omega
        have hN0 : (0 : Int) ≤ (N : Int) := by omega
        obtain ⟨M, hM⟩ : ∃ M, M = 2 + N := ⟨_, rfl⟩
        have hMI : (2 : Int) + (N : Int) = (M : Int) := by omega
        have hdec : decide ((4090 : Int) < (N : Int)) = false := by simpa using hbI
        have hM1 : (M : Int) ≤ 4092 := by omega
        have hMn : M ≤ 4092 := by omega
        have hMN : M - 2 = N := by omega
        have hM2 : 2 ≤ M := by omega
        have hMc : M ≤ c := by omega
        obtain ⟨K, hK⟩ : ∃ K, K = 4092 - M := ⟨_, rfl⟩
        rw [← hM] at HV0
        have hkl : ((b.take 4092).drop M).length = K := by rw [List.length_drop, List.length_take]; have := H4.out; omega
        have hnb : ∀ (W : World) (A' : Option Addr) (k : Nat), Below w.heap.size w W → (K = 0 ∨ A' = some ⟨g, o + M, none⟩) → Calls Try.prog 59 #[.slice A' K k] W fun e w' => e = .returned (.bool (zeroB ((b.take 4092).drop M))) ∧ W = w' := by
          intro W A' k hW hA'
          refine noughts_any A' k K _ W ?_ hkl.symm (by omega)
          rcases hA' with h0 | rfl
          · rw [List.length_eq_zero_iff.1 (hkl.trans h0)]
            exact BRd.nil _ _
          · have h := (HX.out.below hW).sub M K
            rw [List.take_of_length_le (by omega)] at h
            exact h
        have HNB := Lib.hid hnb
        have HD : Hid (∀ W, Below w.heap.size w W → BRd W (some ⟨g, o + 2, none⟩) ((b.drop 2).take N)) := fun W hW => (HA.out.below hW).sub 2 N
        have HDL : Hid (((b.drop 2).take N).length = N) := by show _ = _; rw [List.length_take, List.length_drop]; have := H4.out; omega
        have HV := Lib.hid HV0
        generalize zeroB ((b.take 4092).drop M) = z at *
        generalize (b.drop 2).take N = d at *
        have hKM : 4092 - M = K := hK.symm
        clear HV0 HV1 HV2 HV3 hbig hnb hkl hM hK
        cases z with
        | false =>
          go_enter Try.func18, Try.ntmps18
          go_wp2_with fail
          refine HRE.out.mono ?_
          rintro e w2 ⟨rfl, hb2⟩
          have HB2 := Lib.hid hb2
          obtain ⟨c0, c1⟩ := HC0.out
          rw [← hb2.cell (p := ⟨g, o, none⟩) HG.out] at c0
          rw [← hb2.cell (p := ⟨g, o + 1, none⟩) HG.out] at c1
          clear hb2 HRE
          go_wp2_with fail
          go_region
          go_wp2_with fail
          refine (HNB.out _ _ _ HB2.out.drew (.inr rfl)).mono ?_
          rintro e w3 ⟨rfl, rfl⟩
          go_wp2_with fail
          all_goals go_ret2
          all_goals rw [HV.out]
          all_goals exact ⟨none, 0, 0, rfl, rfl, BRd.nil _ _, by first | exact HB2.out | exact HB2.out.drew⟩
        | true =>
          go_enter Try.func18, Try.ntmps18
          go_wp2_with fail
          refine HRE.out.mono ?_
          rintro e w2 ⟨rfl, hb2⟩
          have HB2 := Lib.hid hb2
          obtain ⟨c0, c1⟩ := HC0.out
          rw [← hb2.cell (p := ⟨g, o, none⟩) HG.out] at c0
          rw [← hb2.cell (p := ⟨g, o + 1, none⟩) HG.out] at c1
          clear hb2 HRE
          go_wp2_with fail
          go_region
          go_wp2_with fail
          refine (HNB.out _ _ _ HB2.out.drew (.inr rfl)).mono ?_
          rintro e w3 ⟨rfl, rfl⟩
          go_wp2_with fail
          all_goals go_ret2
          all_goals rw [HV.out]
          all_goals exact ⟨_, _, _, rfl, HDL.out.symm, HD.out _ HB2.out.drew, HB2.out.drew⟩
  · have HV : unsealV b = ([], 1) := by unfold unsealV; rw [if_pos h4]
    rw [HV]
    have h4I : ¬ (n : Int) = 4096 := by omega
    have h4N : ¬ n = 4096 := by omega
    clear hA hn h4 HV
    go_enter Try.func18, Try.ntmps18
    go_wp2_with fail
    go_ret2
    exact ⟨none, 0, 0, rfl, rfl, BRd.nil _ _, Below.refl _ _⟩

end
end Go.Proofs.Ytellmmgiabfacaa
