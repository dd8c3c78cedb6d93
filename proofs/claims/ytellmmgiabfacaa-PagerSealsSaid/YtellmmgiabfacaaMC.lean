/-
  merged
-/
import Derived.Test.YtellmmgiabfacaaMA
import Derived.Test.YtellmmgiabfacaaMB
import Derived.Test.YtellmmgiabfacaaDMath2
import Derived.Test.YtellmmgiabfacaaDOpen
namespace Go.Proofs.Ytellmmgiabfacaa
section

open Go.ChangeShapes Go.WideShapes Go.ChangeAt Go.RowKit
set_option linter.unusedVariables false

theorem IRd.at {w : World} {g off : Nat} {zs : List Int} (h : IRd w (some ⟨g, off, none⟩) zs) (i : Nat) (hi : i < zs.length) : w.cell? ⟨g, off + i, none⟩ = some (.int .i64 zs[i]) := by
  obtain ⟨g', off', e, -, hc⟩ := h (by omega)
  cases e
  exact hc i hi
set_option maxHeartbeats 1600000 in
theorem index_any (A : Option Addr) (c n : Nat) (zs : List Int) (x : Int) (w : World) (hA : IRd w A zs) (hn : n = zs.length) (hl : n ≤ 1000000) :
    Calls Try.prog 120 #[.slice A n c, .int .i64 x] w fun e w' => (∃ i : Int, e = .returned (.int .i64 i) ∧ (0 ≤ i ↔ x ∈ zs)) ∧ w = w' := by
  subst hn
  have HA := Lib.hid hA
  clear hA
  go_enter Try.func120, Try.ntmps120
  go_wp2_with fail
  go_loop [8] (fun i => ∃ k : Nat, k ≤ zs.length ∧ i = .int .i64 k ∧ ∀ j (hj : j < zs.length), j < k → zs[j] ≠ x) (fun i => zs.length - (intOf i).toNat)
  case atStart => exact ⟨0, by omega, rfl, fun j _ hj => by omega⟩
  case round =>
    obtain ⟨k, hk, rfl, hno⟩ := hrel
    have HNO := Lib.hid hno
    clear hno
    by_cases hlt : k < zs.length
    · obtain ⟨g, off, rfl, -, hc⟩ := HA.out (by omega)
      have ck := hc k hlt
      have HZ := Lib.hid (show ∀ y, y = zs[k] → y = x → x ∈ zs from fun y e e' => by rw [← e', e]; exact List.getElem_mem hlt)
      obtain ⟨y, hy⟩ : ∃ y, y = zs[k] := ⟨_, rfl⟩
      rw [← hy] at ck
      have HY := Lib.hid hy
      clear hc hy
      by_cases hx : x = y
      · subst hx
        go_wp2_with fail
        go_ret
        exact ⟨⟨(k : Int), rfl, by constructor; (intro _; exact HZ.out _ HY.out rfl); (intro _; omega)⟩, rfl⟩
      · go_wp2_with fail
        go_round
        case rel => exact ⟨k + 1, by omega, by go_num, fun j hj hjk => by
          by_cases e : j = k
          · subst e; rw [← HY.out]; exact fun e => hx e.symm
          · exact HNO.out j hj (by omega)⟩
        case measure => simp [intOf]; omega
    · obtain rfl : k = zs.length := by omega
      go_wp2_with fail
      go_ret
      refine ⟨⟨-1, rfl, ?_⟩, rfl⟩
      constructor
      · intro h; omega
      · intro h
        obtain ⟨j, hj, e⟩ := List.getElem_of_mem h
        exact absurd e (HNO.out j hj hj)
theorem contains_any (A : Option Addr) (c n : Nat) (zs : List Int) (x : Int) (w : World) (hA : IRd w A zs) (hn : n = zs.length) (hl : n ≤ 1000000) :
    Calls Try.prog 79 #[.slice A n c, .int .i64 x] w fun e w' => e = .returned (.bool (decide (x ∈ zs))) ∧ w = w' := by
  have HI := Lib.hid (index_any A c n zs x w hA hn hl)
  clear hA hn
  by_cases hx : x ∈ zs
  · have hd : decide (x ∈ zs) = true := by simp [hx]
    rw [hd]
    have HX := Lib.hid hx
    clear hd hx
    go_enter Try.func79, Try.ntmps79
    go_wp2_with fail
    refine HI.out.mono ?_
    rintro e w' ⟨⟨i, rfl, hi⟩, rfl⟩
    have h0 : 0 ≤ i := hi.2 HX.out
    clear hi
    go_wp2_with fail
    go_ret
    exact ⟨ret_bool (by simp), rfl⟩
  · have hd : decide (x ∈ zs) = false := by simp [hx]
    rw [hd]
    have HX := Lib.hid hx
    clear hd hx
    go_enter Try.func79, Try.ntmps79
    go_wp2_with fail
    refine HI.out.mono ?_
    rintro e w' ⟨⟨i, rfl, hi⟩, rfl⟩
    have h0 : ¬ 0 ≤ i := fun h => HX.out (hi.1 h)
    clear hi
    go_wp2_with fail
    go_ret
    exact ⟨ret_bool (by simpa using h0), rfl⟩
set_option maxHeartbeats 1600000 in
theorem equalI_any (A1 A2 : Option Addr) (c1 c2 n : Nat) (zs : List Int) (w : World) (h1 : IRd w A1 zs) (h2 : IRd w A2 zs) (hn : n = zs.length) (hl : n ≤ 1000000) :
    Calls Try.prog 56 #[.slice A1 n c1, .slice A2 n c2] w fun e w' => e = .returned (.bool true) ∧ ∃ m, w' = w.drewN m := by
  subst hn
  have HA := Lib.hid h1
  have HB := Lib.hid h2
  clear h1 h2
  go_enter Try.func56, Try.ntmps56
  go_wp2_with fail
  go_loopw [13] (fun i wr => ∃ k : Nat, k ≤ zs.length ∧ i = .int .i64 k ∧ ∃ m, wr = w.drewN m) (fun i _ => zs.length - (intOf i).toNat)
  case atStart => exact ⟨0, by omega, rfl, 0, rfl⟩
  case round =>
    obtain ⟨k, hk, rfl, m, rfl⟩ := hrel
    by_cases hlt : k < zs.length
    · obtain ⟨g, off, rfl, -, hc⟩ := HA.out (by omega)
      obtain ⟨g2, off2, rfl, -, hc2⟩ := HB.out (by omega)
      have ck := hc k hlt
      have ck2 := hc2 k hlt
      generalize zs[k] = y at *
      have hk0 : (0 : Int) ≤ (k : Int) := by omega
      have hkI : (k : Int) < (zs.length : Int) := by omega
      clear hc hc2
      go_wp2_with fail
      go_quiet (fail)
      go_wp2_with fail
      refine ⟨⟨k+1, by omega, by go_num, _, rfl⟩, ?_⟩
      simp [intOf]
      omega
    · obtain rfl : k = zs.length := by omega
      go_wp2_with fail
      go_ret
      exact ⟨rfl, m, rfl⟩

end

section

open Go.ChangeShapes Go.WideShapes Go.ChangeAt Go.RowKit Go.Deep
set_option linter.unusedVariables false

theorem intInfo : (Try.prog.info? 3).map (fun i => (i.zero, i.size, i.bytes)) = some (some (.int .i64 0), 1, 8) := by kernel_rfl
/-- A slice of the call's own that holds these ints. -/
def OwnI (w : World) (B : Nat) (v : Value) (zs : List Int) : Prop := w.ownsRow B 3 1 v zs.length (zs.map (Value.int .i64))
theorem OwnI.nil (w : World) (B : Nat) : OwnI w B (.slice none 0 0) [] := World.ownsRow_nil _ _ _ _
theorem OwnI.slice {w : World} {B : Nat} {v : Value} {l : List Int} (h : OwnI w B v l) : ∃ a cap, v = .slice a l.length cap ∧ l.length ≤ cap := by
  rcases h.2 with ⟨rfl, h0⟩ | ⟨g, cap, cur, rfl, hb, hg, hn, rest⟩
  · exact ⟨none, 0, by rw [h0], by omega⟩
  · exact ⟨_, cap, rfl, hn⟩
theorem OwnI.ird {w : World} {B cap n : Nat} {a : Option Addr} {l : List Int} (h : OwnI w B (.slice a n cap) l) : IRd w a l := fun hn => by
  obtain ⟨a', cap', e, -⟩ := h.slice
  obtain ⟨rfl, rfl, rfl⟩ : a = a' ∧ n = l.length ∧ cap = cap' := by simpa using e
  obtain ⟨g, cap', hv, hb, hg⟩ := World.ownsRow.form h hn
  obtain ⟨rfl, rfl⟩ : a = some ⟨g, 0, none⟩ ∧ cap = cap' := by simpa using hv
  refine ⟨g, 0, rfl, hg, fun j hj => ?_⟩
  have hc := World.ownsRow.cells h (g := g) rfl j _ (by rw [List.getElem?_map, List.getElem?_eq_getElem hj]; rfl)
  rw [show (⟨g, 0, none⟩ : Addr).add j = ⟨g, 0 + j, none⟩ from Go.WideShapes.add_plain g 0 j] at hc
  exact hc
theorem OwnI.below {w w' : World} {B : Nat} {v : Value} {l : List Int} (h : OwnI w B v l) (hb : Below w.heap.size w w') : OwnI w' B v l := ownsRow_same h fun k hk _ => hb.block k hk
/-- Bytes and ints lie apart. -/
theorem OwnB.off {w : World} {B B' : Nat} {v u : Value} {l : List UInt8} {zs : List Int} (h : OwnB w B v l) (hu : OwnI w B' u zs) : ∀ k, v.ownBlock = some k → u.ownBlock ≠ some k := fun k h1 h2 => by
  obtain ⟨c, e1⟩ := own_type h k h1
  obtain ⟨c2, e2⟩ := own_type hu k h2
  rw [e1] at e2
  exact absurd (Obj.cells.inj (Option.some.inj e2)).2.1 (by decide)
theorem OwnB.grewI {w w' : World} {B B' : Nat} {v u u' : Value} {l : List UInt8} {zs : List Int} (h : OwnB w B v l) (hu : OwnI w B' u zs) (hg : Grw w w' u u') : OwnB w' B v l :=
  h.same fun k hk hv => hg.old hk (h.off hu k hv)
theorem OwnI.grewB {w w' : World} {B B' : Nat} {v v' u : Value} {l : List UInt8} {zs : List Int} (hu : OwnI w B' u zs) (h : OwnB w B v l) (hg : Grw w w' v v') : OwnI w' B' u zs :=
  ownsRow_same hu fun k hk e => hg.old hk fun e' => h.off hu k e' e
/-- One int is appended to a slice of the call's own. -/
theorem wpList_int {w0 : World} {T : TypeId} {z : Int} {ops : Array Oper} {rest : List Oper} {o : Oper} {a : Act} {Q : Exit → Act → World → Prop} (hgd : o.guard = none) (s x : Operand)
    (ho : o.op = .call { callee := .builtin .append, args := #[s, x], argTypes := #[22, 22] }) (B : Nat) (v : Value) (zs : List Int) (hs : a.eval s = v) (hx : a.eval x = .slice (some ⟨w0.heap.size, 0, none⟩) 1 1)
    (hown : OwnI w0 B v zs) (hB : B ≤ w0.heap.size) (hlim : zs.length ≤ 1000000)
    (h : ∀ v' w', OwnI w' B v' (zs ++ [z]) → Grw w0 w' v v' → wpList Try.prog ops Q rest (a.put o.dst v') w') : wpList Try.prog ops Q (o :: rest) a (w0.alloc (.cells #[.int .i64 z] T)) := by
  obtain ⟨i0, hi, hz0, hz1, hz2⟩ := info_parts intInfo
  refine wpList_append_lies _ hgd s x 22 ho B 3 i0 (.int .i64 0) 1 8 Try.underlying22 hi hz0 hz1 hz2 rfl (by decide) v _ _ hs (hown.alloc _) ⟨w0.heap.size, 0, none⟩ 1 1 [.int .i64 z] hx rfl (fun j u hj => by match j, hj with | 0, hj => (simp at hj; subst hj; simp [Addr.add])) (fun u hu => by simp at hu; subst hu; rfl) (by decide) (by unfold maxLen; omega) (by omega) (by simp; omega) _ rfl ?_
  intro g cap w1 hown1 hgrow hat hlt
  have hg : w0.grownBy w1 v.ownBlock := ⟨hgrow.os, hgrow.tape, hgrow.output, Nat.le_trans (by simp) hgrow.size, fun k hk hr => (hgrow.block k (by simp; omega) hr).trans (Below.heap_alloc _ _ _ hk)⟩
  refine h _ w1 ?_ ⟨hg, ?_⟩
  · unfold OwnI
    rw [List.length_append, List.map_append]
    exact hown1
  · rcases hat with e | e
    · exact .inl e.symm
    · exact .inr fun k hk => by simp [Value.ownBlock] at hk; simp at e; omega
/-- Bytes are appended, none maybe. -/
theorem wpList_app0 {w : World} {ops : Array Oper} {rest : List Oper} {o : Oper} {a : Act} {Q : Exit → Act → World → Prop} (hgd : o.guard = none) (s x : Operand)
    (ho : o.op = .call { callee := .builtin .append, args := #[s, x], argTypes := #[23, 23] }) (B : Nat) (v : Value) (l : List UInt8) (A : Option Addr) (c n : Nat) (r : List UInt8) (hs : a.eval s = v) (hx : a.eval x = .slice A n c) (hn : n = r.length)
    (hown : OwnB w B v l) (hr : BRd w A r) (hB : B ≤ w.heap.size) (hlim : l.length + r.length ≤ 140737488355328)
    (h : ∀ v' w', OwnB w' B v' (l ++ r) → Grw w w' v v' → wpList Try.prog ops Q rest (a.put o.dst v') w') : wpList Try.prog ops Q (o :: rest) a w := by
  subst hn
  by_cases h0 : r.length = 0
  · obtain rfl := List.eq_nil_of_length_eq_zero h0
    exact wpList_run2 hgd s x ho (app_none hown o.type A c) rfl hs hx (h v w (own_nil_app hown) (Grw.refl _ _))
  · exact wpList_app hgd s x ho B v l A c r hs hx hown hr (by omega) hB hlim h
theorem OwnB.brdn {w : World} {B n cap : Nat} {a : Option Addr} {l : List UInt8} (h : OwnB w B (.slice a n cap) l) (hn : n = l.length) : BRd w a l := by
  subst hn
  exact OwnB.brd h
theorem brd_behind {w : World} {g off : Nat} {l : List UInt8} (h : BRd w (some ⟨g, off, none⟩) l) (k : Nat) : BRd w (some ⟨g, off + k, none⟩) (l.drop k) := fun hn => by
  rw [List.length_drop] at hn
  obtain ⟨g', off', e, hg, hc⟩ := h (by omega)
  cases e
  refine ⟨g, off + k, rfl, hg, fun i hi => ?_⟩
  rw [List.length_drop] at hi
  rw [Nat.add_assoc, hc (k + i) (by omega)]
  simp
/-- What lies in a new block stays as other bytes grow. -/
theorem OwnB.apart2 {w0 w w' : World} {B : Nat} {v v' u : Value} {l r : List UInt8} (hu : OwnB w w0.heap.size u r) (hv : OwnB w0 B v l) (hg : Grw w w' v v') : OwnB w' w0.heap.size u r :=
  hu.same fun k hk e => hg.old hk fun e' => by
    have h1 := (World.ownsRow.lt hu k e).1
    have h2 := (World.ownsRow.lt hv k e').2
    omega
theorem nodup_le : ∀ (m : Nat) (l : List Int), l.Nodup → (∀ x ∈ l, 2 ≤ x ∧ x < (m : Int) + 2) → l.length ≤ m
  | 0, l, _, h => by
    cases l with
    | nil => simp
    | cons x xs => have := h x (by simp); omega
  | m + 1, l, hd, h => by
    have h1 := nodup_le m (l.erase ((m : Int) + 2)) (hd.erase _) fun x hx => by
      have h2 := (List.Nodup.mem_erase_iff hd).1 hx
      have h3 := h x h2.2
      have h4 := h2.1
      omega
    rw [List.length_erase] at h1
    split at h1 <;> omega

end

section

open Go.ChangeShapes Go.WideShapes Go.ChangeAt Go.RowKit Go.Deep
set_option linter.unusedVariables false

/-- What Get leaves. -/
def GetPost (x : List UInt8 × List Int × Int) (w : World) (e : Ending) (w' : World) : Prop := ∃ v u, e = .returned (.tuple #[v, u, .int .i64 x.2.2]) ∧ OwnB w' w.heap.size v x.1 ∧ OwnI w' w.heap.size u x.2.1 ∧ Below w.heap.size w w'
theorem read_is {s : St} {p : Pg} {n : Int} (h : (p.read s n).2 = 0) : p.is n = true := by
  cases hi : p.is n with
  | true => rfl
  | false => unfold Pg.read at h; rw [if_pos hi] at h; cases h
theorem read_len (s : St) (p : Pg) (n : Int) : (p.read s n).1.length ≤ 4090 := by
  unfold Pg.read
  split
  · simp
  · split
    · simp
    · split
      · simp
      · exact unsealV_len _
/-- As the round sees it. -/
def getR (s : St) (p : Pg) (l : List Int) (b : List UInt8) (r : List UInt8 × Int) (n : Int) : List UInt8 × List Int × Int :=
  if r.2 ≠ 0 then ([], [], r.2) else if r.1.length < 4 then ([], [], 50)
  else if 1048576 < (b ++ r.1.drop 4).length ∨ ((leN (r.1.take 4) : Nat) ≠ 0 ∧ (p.is (leN (r.1.take 4) : Nat) = false ∨ ((leN (r.1.take 4) : Nat) : Int) ∈ l ++ [n])) then ([], [], 50)
  else if leN (r.1.take 4) = 0 then (b ++ r.1.drop 4, l ++ [n], 0)
  else getN s p (1024 - (l ++ [n]).length) (leN (r.1.take 4) : Nat) (l ++ [n]) (b ++ r.1.drop 4)
theorem getN_R (s : St) (p : Pg) (l : List Int) (b : List UInt8) (n : Int) (hl : l.length ≤ 1022) : getN s p (1024 - l.length) n l b = getR s p l b (p.read s n) n := by
  rw [show 1024 - l.length = (1024 - (l ++ [n]).length) + 1 by simp; omega]
  rfl
theorem get_out (w w' : World) (e : Int) (hb : Below w.heap.size w w') : GetPost ([], [], e) w (.returned (.tuple #[.slice none 0 0, .slice none 0 0, .int .i64 e])) w' :=
  ⟨_, _, rfl, OwnB.nil _ _, OwnI.nil _ _, hb⟩
set_option maxHeartbeats 6400000 in
set_option maxRecDepth 100000 in
theorem get_any {w : World} {B : Nat} {F : Nat → Prop} {gp gd gm : Nat} {s : St} {p : Pg} (h : Pgr w B F gp gd gm s p) (first : Int) :
    Calls Try.prog 29 #[.pointer (some ⟨gp, 0, none⟩), .int .i64 first] w (GetPost (getV s p first) w) := by
  have hok := h.ok.len
  have H := Lib.hid h
  clear h
  obtain ⟨Z, hZ⟩ : ∃ Z, Z = getV s p first := ⟨_, rfl⟩
  rw [← hZ]
  have HZ := Lib.hid hZ
  clear hZ
  go_enter Try.func29, Try.ntmps29
  go_wp2_with fail
  go_loopw [7, 8, 9] (fun bv lv nv wr => ∃ (b : List UInt8) (l : List Int) (n : Int), nv = .int .i64 n ∧ OwnB wr w.heap.size bv b ∧ OwnI wr w.heap.size lv l ∧ Below w.heap.size w wr ∧ Z = getN s p (1024 - l.length) n l b ∧ l.Nodup ∧ (∀ x ∈ l, p.is x = true) ∧ n ∉ l ∧ b.length ≤ 1048576) (fun _ lv _ _ => 1024 - lenV lv)
  case atStart => exact ⟨[], [], first, rfl, OwnB.nil _ _, OwnI.nil _ _, Below.refl _ _, HZ.out, List.nodup_nil, fun x hx => by simp at hx, by simp, by simp⟩
  case round =>
    obtain ⟨b, l, n, rfl, hob, hol, hb, hz, hnd, his, hnl, hbl⟩ := hrel
    have hll : l.length ≤ 1022 := Nat.le_trans (nodup_le p.st.length l hnd fun x hx => by have := (is_iff p x).1 (his x hx); unfold Pg.nb at this; omega) hok
    rw [getN_R s p l b n hll] at hz
    obtain ⟨bA, bC, rfl, -, -⟩ := hob.slice
    obtain ⟨lA, lC, rfl, -⟩ := hol.slice
    have hrl := read_len s p n
    have HIS : Hid ((p.read s n).2 = 0 → p.is n = true) := read_is
    have HRD := Lib.hid (pread_any (H.out.below hb) n)
    generalize p.read s n = r at *
    unfold RReadK at HRD
    have HOB := Lib.hid hob
    have HOL := Lib.hid hol
    have HB := Lib.hid hb
    have HS := Lib.hid (And.intro hnd (And.intro his (And.intro hnl hbl)))
    have hbs := hb.size
    clear hob hol hb hnd his hnl
    by_cases h2 : r.2 = 0
    · by_cases h4 : r.1.length < 4
      · have HQ := Lib.hid (hz.trans (by unfold getR; rw [if_neg (by rw [h2]; simp), if_pos h4]))
        rw [h2] at HRD
        clear hz h2
        go_wp2_with fail
        refine HRD.out.mono ?_
        rintro e w1 ⟨a, k, c, rfl, hk, hkc, hbr, hb1⟩
        have hk4 : (k : Int) < 4 := by omega
        have HB1 := Lib.hid (bt HB.out hb1)
        clear hb1 hbr
        go_wp2_with fail
        go_ret3
        rw [HQ.out]
        exact get_out _ _ _ HB1.out
      · have HIN := Lib.hid (HIS.out h2)
        have HQ := Lib.hid (hz.trans (by unfold getR; rw [if_neg (by rw [h2]; simp), if_neg h4]))
        rw [h2] at HRD
        clear hz h2
        obtain ⟨x, hx⟩ : ∃ x, x = r.1 := ⟨_, rfl⟩
        rw [← hx] at HRD hrl h4 HQ
        clear hx HIS
        go_wp2_with fail
        refine HRD.out.mono ?_
        rintro e w1 ⟨a, k, c, rfl, hk, hkc, hbr, hb1⟩
        subst hk
        obtain ⟨g, o, rfl, hg, -⟩ := hbr.brd (by omega)
        obtain ⟨k, hk⟩ : ∃ k, k = x.length := ⟨_, rfl⟩
        rw [← hk] at hbr hkc hrl h4 ⊢
        have hk4 : (4 : Int) ≤ (k : Int) := by omega
        have hk4n : 4 ≤ k := by omega
        have hkI : (k : Int) ≤ 4090 := by omega
        have HB1 := Lib.hid (bt HB.out hb1)
        have HOB1 := Lib.hid (HOB.out.below hb1)
        have HOL1 := Lib.hid (HOL.out.below hb1)
        have HBR := Lib.hid hbr
        have HK := Lib.hid hk
        have HKC := Lib.hid hkc
        have hw1 : w.heap.size ≤ w1.heap.size := HB1.out.size
        have hkc4 : (4 : Int) ≤ (c : Int) := by omega
        clear hb1 hbr hk h4
        go_wp2_with (at_builtin; refine wpList_int rfl _ _ rfl w.heap.size (.slice lA l.length lC) l rfl rfl HOL1.out hw1 (by omega) ?_; intro v3 w3 ho3 hg3; refine Hid.out ?_)
        refine Lib.hid ?_
        have hb3 := hg3.below HOL1.out hw1
        have HOB3 := Lib.hid (HOB1.out.grewI HOL1.out hg3)
        have hw3 : w.heap.size ≤ w3.heap.size := Nat.le_trans hw1 hb3.size
        have HB3 := Lib.hid (below_tr HB1.out hb3)
        have HO3 := Lib.hid ho3
        have HC3 := Lib.hid (HBR.out.grewI HOL1.out hg3)
        clear ho3 hg3 hb3
        have HD3 : Hid (∀ A', (c = 4 → A' = some ⟨g, o, none⟩) → (¬ c = 4 → A' = some ⟨g, o + 4, none⟩) → BRd w3 A' (x.drop 4)) := fun A' h1 h2 => by
          by_cases hc4 : c = 4
          · have : x.drop 4 = [] := List.drop_eq_nil_of_le (by have := HK.out; omega)
            rw [this]
            exact BRd.nil _ _
          · rw [h2 hc4]
            exact brd_behind (HC3.out.brdn HK.out) 4
        have HXL : Hid ((x.drop 4).length = k - 4) := by show _ = _; rw [List.length_drop, HK.out]
        obtain ⟨X, hX⟩ : ∃ X, X = x.drop 4 := ⟨_, rfl⟩
        rw [← hX] at HQ HD3 HXL
        clear hX
        have HGR : Hid (∀ (v4 : Value) (w4 : World), OwnB w4 w.heap.size v4 (b ++ X) → Grw w3 w4 (.slice bA b.length bC) v4 → OwnI w4 w.heap.size v3 (l ++ [n]) ∧ Below w.heap.size w w4 ∧ BRd w4 (some ⟨g, o, none⟩) (x.take 4)) := fun v4 w4 h1 h2 =>
          ⟨HO3.out.grewB HOB3.out h2, below_tr HB3.out (h2.below HOB3.out hw3), brd_take' ((HC3.out.apart2 HOB.out h2).brdn HK.out) 4⟩
        obtain ⟨M, hM⟩ : ∃ M, M = leN (x.take 4) := ⟨_, rfl⟩
        have h4l : (x.take 4).length = 4 := by rw [List.length_take]; have := HK.out; omega
        have HML : Hid ((M : Int) ≤ 4294967295) := by
          have h1 := leN_lt (x.take 4)
          rw [h4l, ← hM] at h1
          have : (256 : Nat) ^ 4 = 4294967296 := by decide
          show _ ≤ _
          omega
        have HNX : Hid (∀ w4 : World, BRd w4 (some ⟨g, o, none⟩) (x.take 4) → Calls Try.prog 57 #[.slice (some ⟨g, o, none⟩) 4 c] w4 fun e w' => e = .returned (.int .u32 (M : Nat)) ∧ w4 = w') := fun w4 h => by
          rw [hM]
          exact number_any (some ⟨g, o, none⟩) c 4 (x.take 4) w4 h h4l.symm (by omega)
        rw [← hM] at HQ
        clear hM h4l
        have HLS : Hid ((l ++ [n]).Nodup ∧ (∀ x ∈ l ++ [n], p.is x = true) ∧ (l ++ [n]).length = l.length + 1) := by
          obtain ⟨h1, h2, h3, -⟩ := HS.out
          refine ⟨List.nodup_append.2 ⟨h1, by simp, fun a ha b hb e => ?_⟩, fun x hx => ?_, by simp⟩
          · rw [List.mem_singleton] at hb
            subst hb e
            exact h3 ha
          · rcases List.mem_append.1 hx with hx | hx
            · exact h2 x hx
            · rw [List.mem_singleton] at hx
              subst hx
              exact HIN.out
        by_cases hc4 : c = 4
        · subst hc4
          obtain rfl : k = 4 := by omega
          go_wp2_with (at_builtin; refine wpList_app0 rfl _ _ rfl w.heap.size (.slice bA b.length bC) b _ _ _ X rfl rfl HXL.out.symm HOB3.out (HD3.out _ (fun _ => rfl) (fun h => absurd rfl h)) hw3 (by have := HXL.out; omega) ?_; intro v4 w4 ho4 hg4; refine Hid.out ?_)
          refine Lib.hid ?_
          obtain ⟨ho5, hb5, hr5⟩ := HGR.out v4 w4 ho4 hg4
          have HO4 := Lib.hid ho4
          have HO5 := Lib.hid ho5
          have HB5 := Lib.hid hb5
          have HN5 := Lib.hid (HNX.out w4 hr5)
          clear ho4 hg4 ho5 hb5 hr5 HGR HC3 HD3
          obtain ⟨Y, hY⟩ : ∃ Y, Y = b ++ X := ⟨_, rfl⟩
          obtain ⟨L, hL⟩ : ∃ L, L = l ++ [n] := ⟨_, rfl⟩
          rw [← hY, ← hL] at HQ
          rw [← hY] at HO4
          rw [← hL] at HO5 HO3 HLS
          clear hY hL
          obtain ⟨aa, ca, rfl, -, -⟩ := HO4.out.slice
          obtain ⟨la, lc, rfl, -⟩ := HO5.out.slice
          have HEX := Lib.hid (exists_any (M : Int) (H.out.below HB5.out))
          have HCO := Lib.hid (contains_any la lc L.length L (M : Int) w4 HO5.out.ird rfl (by have := HLS.out.2.2; omega))
          go_wp2_with fail
          refine HN5.out.mono ?_
          rintro e w' ⟨rfl, rfl⟩
          have hml := HML.out
          by_cases hbig : 1048576 < Y.length
          · have HQ2 := Lib.hid (HQ.out.trans (if_pos (.inl hbig)))
            have hbi : (1048576 : Int) < (Y.length : Int) := by omega
            clear hbig
            go_wp2_with fail
            go_ret3
            rw [HQ2.out]
            exact get_out _ _ _ HB5.out
          · have hbi : ¬ (1048576 : Int) < (Y.length : Int) := by omega
            have HBG := Lib.hid hbig
            clear hbig
            by_cases hm0 : M = 0
            · subst hm0
              have HQ2 := Lib.hid (HQ.out.trans ((if_neg (fun h => h.elim HBG.out fun h => h.1 rfl)).trans (if_pos rfl)))
              go_wp2_with fail
              go_ret3
              rw [HQ2.out]
              exact ⟨_, _, rfl, HO4.out, HO5.out, HB5.out⟩
            · have hmI : ¬ (M : Int) = 0 := by omega
              have hmB : ((M : Int) == 0) = false := by simpa using hmI
              by_cases hi : p.is (M : Int) = true
              · by_cases hin : (M : Int) ∈ L
                · have HQ2 := Lib.hid (HQ.out.trans (if_pos (.inr ⟨hm0, .inr hin⟩)))
                  rw [hi] at HEX
                  rw [show decide ((M : Int) ∈ L) = true by simpa using hin] at HCO
                  clear hi hin
                  go_wp2_with fail
                  refine HEX.out.mono ?_
                  rintro e w' ⟨rfl, rfl⟩
                  go_wp2_with fail
                  refine HCO.out.mono ?_
                  rintro e w' ⟨rfl, rfl⟩
                  go_wp2_with fail
                  go_ret3
                  rw [HQ2.out]
                  exact get_out _ _ _ HB5.out
                · have HQ2 := Lib.hid (HQ.out.trans ((if_neg (fun h => h.elim HBG.out fun h => h.2.elim (fun h => by rw [hi] at h; cases h) hin)).trans (if_neg hm0)))
                  have HIN2 := Lib.hid hin
                  rw [hi] at HEX
                  rw [show decide ((M : Int) ∈ L) = false by simpa using hin] at HCO
                  clear hi hin
                  go_wp2_with fail
                  refine HEX.out.mono ?_
                  rintro e w' ⟨rfl, rfl⟩
                  go_wp2_with fail
                  refine HCO.out.mono ?_
                  rintro e w' ⟨rfl, rfl⟩
                  go_wp2_with fail
                  go_roundw
                  case rel => exact ⟨Y, L, M, rfl, HO4.out, HO5.out, HB5.out, HQ2.out, HLS.out.1, HLS.out.2.1, HIN2.out, by have := HBG.out; omega⟩
                  case measure => have := HLS.out.2.2; simp [lenV]; omega
              · have hi' : p.is (M : Int) = false := by simpa using hi
                have HQ2 := Lib.hid (HQ.out.trans (if_pos (.inr ⟨hm0, .inl hi'⟩)))
                rw [hi'] at HEX
                clear hi hi'
                go_wp2_with fail
                refine HEX.out.mono ?_
                rintro e w' ⟨rfl, rfl⟩
                go_wp2_with fail
                go_ret3
                rw [HQ2.out]
                exact get_out _ _ _ HB5.out
        · have hcI : ¬ (c : Int) = 4 := by omega
          go_wp2_with (at_builtin; refine wpList_app0 rfl _ _ rfl w.heap.size (.slice bA b.length bC) b _ _ _ X rfl rfl HXL.out.symm HOB3.out (HD3.out _ (fun h => absurd h hc4) (fun _ => rfl)) hw3 (by have := HXL.out; omega) ?_; intro v4 w4 ho4 hg4; refine Hid.out ?_)
          refine Lib.hid ?_
          obtain ⟨ho5, hb5, hr5⟩ := HGR.out v4 w4 ho4 hg4
          have HO4 := Lib.hid ho4
          have HO5 := Lib.hid ho5
          have HB5 := Lib.hid hb5
          have HN5 := Lib.hid (HNX.out w4 hr5)
          clear ho4 hg4 ho5 hb5 hr5 HGR HC3 HD3
          obtain ⟨Y, hY⟩ : ∃ Y, Y = b ++ X := ⟨_, rfl⟩
          obtain ⟨L, hL⟩ : ∃ L, L = l ++ [n] := ⟨_, rfl⟩
          rw [← hY, ← hL] at HQ
          rw [← hY] at HO4
          rw [← hL] at HO5 HO3 HLS
          clear hY hL
          obtain ⟨aa, ca, rfl, -, -⟩ := HO4.out.slice
          obtain ⟨la, lc, rfl, -⟩ := HO5.out.slice
          have HEX := Lib.hid (exists_any (M : Int) (H.out.below HB5.out))
          have HCO := Lib.hid (contains_any la lc L.length L (M : Int) w4 HO5.out.ird rfl (by have := HLS.out.2.2; omega))
          go_wp2_with fail
          refine HN5.out.mono ?_
          rintro e w' ⟨rfl, rfl⟩
          have hml := HML.out
          by_cases hbig : 1048576 < Y.length
          · have HQ2 := Lib.hid (HQ.out.trans (if_pos (.inl hbig)))
            have hbi : (1048576 : Int) < (Y.length : Int) := by omega
            clear hbig
            go_wp2_with fail
            go_ret3
            rw [HQ2.out]
            exact get_out _ _ _ HB5.out
          · have hbi : ¬ (1048576 : Int) < (Y.length : Int) := by omega
            have HBG := Lib.hid hbig
            clear hbig
            by_cases hm0 : M = 0
            · subst hm0
              have HQ2 := Lib.hid (HQ.out.trans ((if_neg (fun h => h.elim HBG.out fun h => h.1 rfl)).trans (if_pos rfl)))
              go_wp2_with fail
              go_ret3
              rw [HQ2.out]
              exact ⟨_, _, rfl, HO4.out, HO5.out, HB5.out⟩
            · have hmI : ¬ (M : Int) = 0 := by omega
              have hmB : ((M : Int) == 0) = false := by simpa using hmI
              by_cases hi : p.is (M : Int) = true
              · by_cases hin : (M : Int) ∈ L
                · have HQ2 := Lib.hid (HQ.out.trans (if_pos (.inr ⟨hm0, .inr hin⟩)))
                  rw [hi] at HEX
                  rw [show decide ((M : Int) ∈ L) = true by simpa using hin] at HCO
                  clear hi hin
                  go_wp2_with fail
                  refine HEX.out.mono ?_
                  rintro e w' ⟨rfl, rfl⟩
                  go_wp2_with fail
                  refine HCO.out.mono ?_
                  rintro e w' ⟨rfl, rfl⟩
                  go_wp2_with fail
                  go_ret3
                  rw [HQ2.out]
                  exact get_out _ _ _ HB5.out
                · have HQ2 := Lib.hid (HQ.out.trans ((if_neg (fun h => h.elim HBG.out fun h => h.2.elim (fun h => by rw [hi] at h; cases h) hin)).trans (if_neg hm0)))
                  have HIN2 := Lib.hid hin
                  rw [hi] at HEX
                  rw [show decide ((M : Int) ∈ L) = false by simpa using hin] at HCO
                  clear hi hin
                  go_wp2_with fail
                  refine HEX.out.mono ?_
                  rintro e w' ⟨rfl, rfl⟩
                  go_wp2_with fail
                  refine HCO.out.mono ?_
                  rintro e w' ⟨rfl, rfl⟩
                  go_wp2_with fail
                  go_roundw
                  case rel => exact ⟨Y, L, M, rfl, HO4.out, HO5.out, HB5.out, HQ2.out, HLS.out.1, HLS.out.2.1, HIN2.out, by have := HBG.out; omega⟩
                  case measure => have := HLS.out.2.2; simp [lenV]; omega
              · have hi' : p.is (M : Int) = false := by simpa using hi
                have HQ2 := Lib.hid (HQ.out.trans (if_pos (.inr ⟨hm0, .inl hi'⟩)))
                rw [hi'] at HEX
                clear hi hi'
                go_wp2_with fail
                refine HEX.out.mono ?_
                rintro e w' ⟨rfl, rfl⟩
                go_wp2_with fail
                go_ret3
                rw [HQ2.out]
                exact get_out _ _ _ HB5.out
    · have HQ := Lib.hid (hz.trans (by unfold getR; rw [if_pos h2]))
      clear hz
      generalize hr2 : r.2 = er at *
      go_wp2_with fail
      refine HRD.out.mono ?_
      rintro e w1 ⟨a, k, c, rfl, hk, hkc, hbr, hb1⟩
      have HB1 := Lib.hid (bt HB.out hb1)
      clear hb1 hbr
      go_wp2_with fail
      go_ret3
      rw [HQ.out]
      exact get_out _ _ _ HB1.out

end

section

open Go.ChangeShapes Go.WideShapes Go.ChangeAt Go.RowKit
set_option linter.unusedVariables false

structure Live (s : St) : Prop where
  down : s.down = false
  fuse : s.fuse = 0
theorem Live.may {s : St} (h : Live s) : s.may 0 = 0 := by unfold St.may; rw [h.down]; rfl
theorem live_new : Live St.new := ⟨rfl, rfl⟩
theorem live_count {s : St} (h : Live s) : s.count.2 = 0 ∧ Live s.count.1 ∧ ∀ f, s.count.1.now f = s.now f := by
  unfold St.count
  rw [if_neg (by rw [h.fuse]; decide)]
  exact ⟨rfl, ⟨h.down, by simp [h.fuse]⟩, fun _ => rfl⟩
theorem fold_put (f k : Nat) (b x : List UInt8) (h0 : 0 < b.length) : foldF f (parts f k b) x = putAt k b x := by
  obtain ⟨h1, h2⟩ := foldF_parts f b.length k b x (Nat.le_refl _)
  rw [if_neg (by omega)] at h1
  refine List.ext_getElem (by rw [h1, putAt_len]) fun i hi hi' => ?_
  have h3 := h2 i
  have h4 := putAt_getD k b x i
  rw [List.getD_eq_getElem?_getD, List.getElem?_eq_getElem hi, Option.getD_some] at h3
  rw [List.getD_eq_getElem?_getD, List.getElem?_eq_getElem hi', Option.getD_some] at h4
  rw [h3, h4]
theorem live_write {s : St} (h : Live s) (k : Nat) (b : List UInt8) (h0 : 0 < b.length) (hk : k + b.length ≤ 4194304) :
    (s.write 0 k b).2 = 0 ∧ Live (s.write 0 k b).1 ∧ (s.write 0 k b).1.now 0 = putAt k b (s.now 0) := by
  unfold St.write
  rw [if_neg (by rw [h.may]; simp), if_neg (by omega), if_neg (by omega)]
  obtain ⟨h1, h2, h3⟩ := live_count (s := s.add (parts (Int.toNat 0) (Int.toNat k) b)) ⟨h.down, h.fuse⟩
  refine ⟨h1, h2, (h3 0).trans ?_⟩
  unfold St.add St.now
  rw [foldF_app]
  exact fold_put 0 k b _ h0
theorem live_sync {s : St} (h : Live s) : (s.sync 0).2 = 0 ∧ Live (s.sync 0).1 ∧ (s.sync 0).1.now 0 = s.now 0 := by
  unfold St.sync
  rw [if_neg (by rw [h.may]; simp), if_neg (by rw [h.fuse]; decide)]
  obtain ⟨h1, h2, h3⟩ := live_count (s := s.settle (Int.toNat 0)) ⟨h.down, h.fuse⟩
  exact ⟨h1, h2, (h3 0).trans (St.settle_now _ _ _)⟩
theorem live_read {s : St} (h : Live s) (k n : Nat) : s.read 0 k n = (((s.now 0).drop k).take n, 0) := by
  unfold St.read
  rw [if_neg (by rw [h.may]; simp), if_neg (by omega)]
  rfl
theorem put_end (k : Nat) (b l : List UInt8) (h : l.length = k) : putAt k b l = l ++ b := by
  subst h
  unfold putAt pad
  rw [List.take_left, List.drop_eq_nil_of_le (by simp), List.append_nil]
theorem put_far (k : Nat) (b : List UInt8) : putAt k b [] = List.replicate k 0 ++ b := by
  unfold putAt pad
  rw [List.drop_eq_nil_of_le (by simp), List.append_nil, List.nil_append, List.take_replicate]
  congr 2
  simp
theorem put_mid (b x y z : List UInt8) (h : y.length = b.length) : putAt x.length b (x ++ y ++ z) = x ++ b ++ z := by
  unfold putAt
  rw [pad_id (by simp; omega), ← h, List.append_assoc x y z, List.take_left, ← List.append_assoc x y z, show x.length + y.length = (x ++ y).length by simp, List.drop_left]
theorem read_mid (x y z : List UInt8) (k n : Nat) (hk : k = x.length) (hn : n = y.length) : ((x ++ (y ++ z)).drop k).take n = y := by
  subst hk hn
  rw [List.drop_left, List.take_left]
theorem leN_leB (n : Nat) : ∀ k, leN (leB n k) = n % 256 ^ k
  | 0 => by simp [leB, leN, Nat.mod_one]
  | k + 1 => by
    rw [leB, leN_app, leN_leB n k, leB_len, Nat.pow_succ, Nat.mod_mul]
    simp [leN]
theorem unseal_seal (b : List UInt8) (h : b.length ≤ 4090) : unsealV (sealB b) = (b, 0) := by
  obtain ⟨t, e⟩ : ∃ t, sealB b = leB b.length 2 ++ (b ++ t) := by
    unfold sealB signB
    generalize leB (crcN32 (blockB b)) 4 = u
    unfold blockB
    rw [List.append_assoc, List.append_assoc]
    exact ⟨_, rfl⟩
  have h1 : (sealB b).take 2 = leB b.length 2 := by
    rw [e]
    exact List.take_left' (leB_len _ _)
  have h2 : leN ((sealB b).take 2) = b.length := by
    rw [h1, leN_leB, Nat.mod_eq_of_lt (by omega)]
  have h3 : ((sealB b).drop 2).take b.length = b := by
    rw [e]
    exact read_mid _ _ _ _ _ (leB_len _ _).symm rfl
  unfold unsealV
  rw [if_neg (by rw [sealB_len b h]; simp), h2, if_neg (by omega), h3, if_pos rfl]
theorem head_header (g r k : Int) (h : headB g r k = true) (hz : zeroB (headerB g r k) = false) (place : Int) (hp : g % 2 = place) : headV (headerB g r k) place = ((g, r, k), true, 0) := by
  obtain ⟨i1, i2, i3⟩ := headB_in h
  obtain ⟨x, e⟩ : ∃ x, headerB g r k = encI g ++ (encI r ++ (encI k ++ x)) := by
    unfold headerB signB rowF
    simp only [List.flatMap_cons, List.flatMap_nil, List.append_assoc, List.nil_append]
    exact ⟨_, rfl⟩
  have v0 : restB (headerB g r k) 0 = encI g ++ (encI r ++ (encI k ++ x)) := e
  have v1 : restB (headerB g r k) 1 = encI r ++ (encI k ++ x) := by
    show (restB (headerB g r k) 0).drop (rdI (restB (headerB g r k) 0)).2.1 = _
    rw [v0, rd_enc g i1]
    exact List.drop_left
  have v2 : restB (headerB g r k) 2 = encI k ++ x := by
    show (restB (headerB g r k) 1).drop (rdI (restB (headerB g r k) 1)).2.1 = _
    rw [v1, rd_enc r i2]
    exact List.drop_left
  have w0 : valB (headerB g r k) 0 = g := by unfold valB; rw [v0, rd_enc g i1]
  have w1 : valB (headerB g r k) 1 = r := by unfold valB; rw [v1, rd_enc r i2]
  have w2 : valB (headerB g r k) 2 = k := by unfold valB; rw [v2, rd_enc k i3]
  unfold headV headingV
  rw [w0, w1, w2, if_neg (by rw [headerB_len h]; simp), if_neg (by rw [hz]; simp), if_pos ⟨h, rfl, hp⟩]
theorem head_zero (place : Int) : headV (List.replicate 512 0) place = ((0, 0, 0), false, 0) := by
  have hz : zeroB (List.replicate 512 0) = true := List.all_eq_true.2 fun x hx => by rw [List.eq_of_mem_replicate hx]; rfl
  unfold headV headingV
  rw [if_neg (fun h => h List.length_replicate), if_pos hz]

end

section

open Go.ChangeShapes Go.WideShapes Go.ChangeAt Go.RowKit
set_option linter.unusedVariables false

theorem add_at {s : St} {p q : Pg} {next n : Int} {x : List UInt8} (ha : p.alloc = (q, n, 0)) (hi : q.is n = true) (h3 : stAt q.st n = 3) (hx : x.length ≤ 4086) :
    addV s p next x = ((s.write 0 (4096 * n) (sealB (leB next.toNat 4 ++ x))).1, q, n, (s.write 0 (4096 * n) (sealB (leB next.toNat 4 ++ x))).2) := by
  unfold addV
  rw [ha, if_neg (by simp)]
  have e : q.write s n (leB next.toNat 4 ++ x) = s.write 0 (4096 * n) (sealB (leB next.toNat 4 ++ x)) := by
    unfold Pg.write
    rw [if_neg (by rw [hi]; simp), if_neg (by rw [h3]; simp), if_neg (by rw [List.length_append, leB_len]; omega)]
  show ((q.write s n (leB next.toNat 4 ++ x)).1, q, n, (q.write s n (leB next.toNat 4 ++ x)).2) = _
  rw [e]
theorem putL_two {s s1 s2 : St} {p p1 p2 : Pg} {n n1 n2 : Int} {x y : List UInt8} (h1 : addV s p n x = (s1, p1, n1, 0)) (h2 : addV s1 p1 n1 y = (s2, p2, n2, 0)) : putL [x, y] s p n = (s2, p2, n2, 0) := by
  simp [putL, h1, h2]
theorem five_put (b : List UInt8) (hb : b.length = 5000) : ∃ S, putV St.new (pgOf (0, 0, 2)) b = (S, ⟨0, 0, 2, [3, 3]⟩, 3, 0) ∧ Live S ∧ S.now 0 = List.replicate 8192 0 ++ (sealB (leB 0 4 ++ pieceAt b 1) ++ sealB (leB 2 4 ++ pieceAt b 0)) ∧ S.pcs.length ≤ 8192 := by
  have hm : manyOf b = 2 := by unfold manyOf; rw [hb, if_neg (by omega)]
  have hr : (pieces b).reverse = [pieceAt b 1, pieceAt b 0] := by unfold pieces; rw [hm]; rfl
  have l0 : (pieceAt b 0).length = 4086 := by unfold pieceAt; rw [List.length_take, List.length_drop, hb]; omega
  have l1 : (pieceAt b 1).length = 914 := by unfold pieceAt; rw [List.length_take, List.length_drop, hb]; omega
  have hl1 : (leB 0 4 ++ pieceAt b 1).length = 918 := by rw [List.length_append, leB_len, l1]
  have hl0 : (leB 2 4 ++ pieceAt b 0).length = 4090 := by rw [List.length_append, leB_len, l0]
  have s1 : (sealB (leB 0 4 ++ pieceAt b 1)).length = 4096 := sealB_len _ (by omega)
  have s0 : (sealB (leB 2 4 ++ pieceAt b 0)).length = 4096 := sealB_len _ (by omega)
  have a1 := add_at (s := St.new) (p := pgOf (0, 0, 2)) (q := ⟨0, 0, 2, [3]⟩) (next := 0) (n := 2) (x := pieceAt b 1) rfl rfl rfl (by omega)
  obtain ⟨e1, w1, n1⟩ := live_write live_new 8192 (sealB (leB 0 4 ++ pieceAt b 1)) (by omega) (by omega)
  have a0 := add_at (s := (St.new.write 0 ((8192 : Nat) : Int) (sealB (leB 0 4 ++ pieceAt b 1))).1) (p := ⟨0, 0, 2, [3]⟩) (q := ⟨0, 0, 2, [3, 3]⟩) (next := 2) (n := 3) (x := pieceAt b 0) rfl rfl rfl (by omega)
  obtain ⟨e0, w0, n0⟩ := live_write w1 12288 (sealB (leB 2 4 ++ pieceAt b 0)) (by omega) (by omega)
  have n1' := n1.trans (put_far _ _)
  have n0' := n0.trans (put_end _ _ _ (by rw [n1', List.length_append, s1, List.length_replicate]))
  have a1' : addV St.new (pgOf (0, 0, 2)) 0 (pieceAt b 1) = ((St.new.write 0 ((8192 : Nat) : Int) (sealB (leB 0 4 ++ pieceAt b 1))).1, ⟨0, 0, 2, [3]⟩, 2, 0) := a1.trans (by
    rw [show (4096 * 2 : Int) = ((8192 : Nat) : Int) by omega, show (0 : Int).toNat = 0 by decide, e1])
  have a0' : addV (St.new.write 0 ((8192 : Nat) : Int) (sealB (leB 0 4 ++ pieceAt b 1))).1 ⟨0, 0, 2, [3]⟩ 2 (pieceAt b 0) = (((St.new.write 0 ((8192 : Nat) : Int) (sealB (leB 0 4 ++ pieceAt b 1))).1.write 0 ((12288 : Nat) : Int) (sealB (leB 2 4 ++ pieceAt b 0))).1, ⟨0, 0, 2, [3, 3]⟩, 3, 0) := a0.trans (by
    rw [show (4096 * 3 : Int) = ((12288 : Nat) : Int) by omega, show (2 : Int).toNat = 2 by decide, e0])
  refine ⟨((St.new.write 0 ((8192 : Nat) : Int) (sealB (leB 0 4 ++ pieceAt b 1))).1.write 0 ((12288 : Nat) : Int) (sealB (leB 2 4 ++ pieceAt b 0))).1, ?_, w0, ?_, ?_⟩
  · unfold putV
    rw [if_neg (by omega), if_neg (by rw [hm]; decide), hr]
    exact putL_two a1' a0'
  · rw [n0', n1', List.append_assoc]
  · have q1 := write_pcs St.new 0 ((8192 : Nat) : Int) (sealB (leB 0 4 ++ pieceAt b 1))
    have q0 := write_pcs (St.new.write 0 ((8192 : Nat) : Int) (sealB (leB 0 4 ++ pieceAt b 1))).1 0 ((12288 : Nat) : Int) (sealB (leB 2 4 ++ pieceAt b 0))
    have q2 : St.new.pcs.length = 0 := rfl
    omega
theorem five_commit {S : St} (hS : Live S) (x y : List UInt8) (hx : x.length = 4096) (hy : y.length = 4096) (hn : S.now 0 = List.replicate 8192 0 ++ (x ++ y)) :
    ∃ T, commitV S ⟨0, 0, 2, [3, 3]⟩ 3 = (T, ⟨1, 3, 4, [1, 1]⟩, 0) ∧ Live T ∧ T.now 0 = (List.replicate 4096 0 ++ headerB 1 3 4 ++ List.replicate 3584 0) ++ (x ++ y) := by
  have hb : headB 1 3 4 = true := rfl
  have hh := headerB_len hb
  obtain ⟨e1, l1, n1⟩ := live_sync hS
  obtain ⟨e2, l2, n2⟩ := live_write l1 4096 (headerB 1 3 4) (by omega) (by omega)
  obtain ⟨e3, l3, n3⟩ := live_sync l2
  have hw : whV (S.sync 0).1 (0 + 1) 3 4 = (((S.sync 0).1.write 0 ((4096 : Nat) : Int) (headerB 1 3 4)).1.sync 0) := by
    unfold whV
    rw [show (0 + 1 : Int) = 1 by decide, if_neg (by rw [hb]; simp), show (4096 * (1 % 2) : Int) = ((4096 : Nat) : Int) by omega, if_neg (by rw [e2]; simp)]
  refine ⟨(((S.sync 0).1.write 0 ((4096 : Nat) : Int) (headerB 1 3 4)).1.sync 0).1, ?_, l3, ?_⟩
  · unfold commitV
    rw [if_neg (by simp [Pg.is, Pg.nb]), if_neg (by rw [e1]; simp)]
    have hw' : whV (S.sync 0).1 ((⟨0, 0, 2, [3, 3]⟩ : Pg).gen + 1) 3 ((⟨0, 0, 2, [3, 3]⟩ : Pg).nb : Int) = (((S.sync 0).1.write 0 ((4096 : Nat) : Int) (headerB 1 3 4)).1.sync 0) := hw
    rw [hw', if_neg (by rw [e3]; simp)]
    rfl
  · rw [n3, n2, n1, hn]
    have e : (List.replicate 8192 0 : List UInt8) = List.replicate 4096 0 ++ List.replicate 512 0 ++ List.replicate 3584 0 := by
      rw [List.replicate_append_replicate, List.replicate_append_replicate]
    rw [e, List.append_assoc (List.replicate 4096 0 ++ List.replicate 512 0)]
    have h := put_mid (headerB 1 3 4) (List.replicate 4096 0) (List.replicate 512 0) (List.replicate 3584 0 ++ (x ++ y)) (by rw [hh, List.length_replicate])
    rw [List.length_replicate] at h
    rw [h, List.append_assoc (List.replicate 4096 0 ++ headerB 1 3 4)]
theorem five_reads {T : St} (hT : Live T) (x y : List UInt8) (hx : x.length = 4096) (hy : y.length = 4096) (hn : T.now 0 = (List.replicate 4096 0 ++ headerB 1 3 4 ++ List.replicate 3584 0) ++ (x ++ y)) :
    T.read 0 ((0 : Nat) : Int) ((512 : Nat) : Int) = (List.replicate 512 0, 0) ∧ T.read 0 ((4096 : Nat) : Int) ((512 : Nat) : Int) = (headerB 1 3 4, 0) ∧ T.read 0 ((8192 : Nat) : Int) ((4096 : Nat) : Int) = (x, 0) ∧ T.read 0 ((12288 : Nat) : Int) ((4096 : Nat) : Int) = (y, 0) := by
  have hh := headerB_len (show headB 1 3 4 = true from rfl)
  have hz : ∀ n : Nat, (List.replicate n (0 : UInt8)).length = n := fun n => List.length_replicate
  refine ⟨?_, ?_, ?_, ?_⟩
  · rw [live_read hT, hn]
    have e : (List.replicate 4096 0 : List UInt8) = List.replicate 512 0 ++ List.replicate 3584 0 := by rw [List.replicate_append_replicate]
    rw [e, List.append_assoc, List.append_assoc, List.append_assoc]
    exact congrArg (·, 0) (read_mid [] _ _ _ _ rfl (hz 512).symm)
  · rw [live_read hT, hn, List.append_assoc, List.append_assoc]
    exact congrArg (·, 0) (read_mid _ _ _ _ _ (hz 4096).symm hh.symm)
  · rw [live_read hT, hn]
    refine congrArg (·, 0) (read_mid _ x y _ _ ?_ hx.symm)
    rw [List.length_append, List.length_append, hh, hz, hz]
  · rw [live_read hT, hn, ← List.append_assoc, ← List.append_nil y]
    refine (congrArg (·, 0) (read_mid _ y [] _ _ ?_ hy.symm)).trans (by rw [List.append_nil])
    rw [List.length_append, List.length_append, List.length_append, hh, hx, hz, hz]
theorem rh_of {T : St} {place : Int} {l : List UInt8} (h : T.read 0 (4096 * place) 512 = (l, 0)) (hl : l.length = 512) : rhV T place = headV l place := by
  unfold rhV
  rw [h, if_neg (by simp)]
  unfold padB
  rw [hl, Nat.sub_self, List.replicate_zero, List.append_nil]
theorem zero_134 : zeroB (headerB 1 3 4) = false := by
  unfold zeroB headerB signB
  rw [List.all_append, List.all_append, show (rowF [1, 3, 4]).all (· == 0) = false from rfl]
  rfl
theorem hd_none {s : St} (e0 : rhV s 0 = ((0, 0, 0), false, 0)) (e1 : rhV s 1 = ((0, 0, 0), false, 0)) : openE s = 0 ∧ hdK s 2 = (0, 0, 2) := by
  constructor
  · unfold openE
    rw [e0, e1]
    rfl
  · have k1 : hdK s 1 = (0, 0, 2) := by
      show (if (rhV s ((0 : Nat) : Int)).2.1 = true ∧ (hdK s 0).1 < (rhV s ((0 : Nat) : Int)).1.1 then (rhV s ((0 : Nat) : Int)).1 else hdK s 0) = _
      rw [show ((0 : Nat) : Int) = 0 from rfl, e0, if_neg (by simp)]
      rfl
    show (if (rhV s ((1 : Nat) : Int)).2.1 = true ∧ (hdK s 1).1 < (rhV s ((1 : Nat) : Int)).1.1 then (rhV s ((1 : Nat) : Int)).1 else hdK s 1) = _
    rw [show ((1 : Nat) : Int) = 1 from rfl, e1, if_neg (by simp), k1]
theorem new_open : openE St.new = 0 ∧ hdK St.new 2 = (0, 0, 2) := by
  have hr : ∀ k : Nat, St.new.read 0 (k : Int) ((512 : Nat) : Int) = ([], 0) := fun k => by
    rw [live_read live_new, show St.new.now 0 = [] from rfl, List.drop_nil, List.take_nil]
  have hp : padB [] = List.replicate 512 0 := by unfold padB; simp only [List.length_nil, Nat.sub_zero, List.nil_append]
  have e : ∀ place : Int, ∀ k : Nat, 4096 * place = (k : Int) → rhV St.new place = ((0, 0, 0), false, 0) := fun place k hk => by
    unfold rhV
    rw [hk, show (512 : Int) = ((512 : Nat) : Int) by omega, hr, if_neg (by simp), hp, head_zero]
  exact hd_none (e 0 0 (by omega)) (e 1 4096 (by omega))
theorem five_open {T : St} (h0 : T.read 0 ((0 : Nat) : Int) ((512 : Nat) : Int) = (List.replicate 512 0, 0)) (h1 : T.read 0 ((4096 : Nat) : Int) ((512 : Nat) : Int) = (headerB 1 3 4, 0)) : openE T = 0 ∧ hdK T 2 = (1, 3, 4) := by
  have e0 : rhV T 0 = ((0, 0, 0), false, 0) := (rh_of (place := 0) h0 List.length_replicate).trans (head_zero 0)
  have e1 : rhV T 1 = ((1, 3, 4), true, 0) := (rh_of (place := 1) h1 (headerB_len rfl)).trans (head_header 1 3 4 rfl zero_134 1 rfl)
  constructor
  · unfold openE
    rw [e0, e1]
    rfl
  · have k1 : hdK T 1 = (0, 0, 2) := by
      show (if (rhV T ((0 : Nat) : Int)).2.1 = true ∧ (hdK T 0).1 < (rhV T ((0 : Nat) : Int)).1.1 then (rhV T ((0 : Nat) : Int)).1 else hdK T 0) = _
      rw [show ((0 : Nat) : Int) = 0 from rfl, e0, if_neg (by simp)]
      rfl
    show (if (rhV T ((1 : Nat) : Int)).2.1 = true ∧ (hdK T 1).1 < (rhV T ((1 : Nat) : Int)).1.1 then (rhV T ((1 : Nat) : Int)).1 else hdK T 1) = _
    rw [show ((1 : Nat) : Int) = 1 from rfl, e1, k1, if_pos (by decide)]
theorem read_of {T : St} {p : Pg} {n : Int} {d : List UInt8} (hi : p.is n = true) (h : T.read 0 (4096 * n) 4096 = (sealB d, 0)) (hd : d.length ≤ 4090) : p.read T n = (d, 0) := by
  unfold Pg.read
  rw [if_neg (by rw [hi]; simp), h, if_neg (by simp), if_neg (by rw [sealB_len d hd]; simp)]
  exact unseal_seal d hd
theorem link_of (M : Nat) (hM : M < 4294967296) (q : List UInt8) : leN ((leB M 4 ++ q).take 4) = M ∧ (leB M 4 ++ q).drop 4 = q ∧ ¬ (leB M 4 ++ q).length < 4 := by
  refine ⟨?_, List.drop_left' (leB_len _ _), by rw [List.length_append, leB_len]; omega⟩
  rw [List.take_left' (leB_len _ _), leN_leB]
  exact Nat.mod_eq_of_lt hM
theorem get_next {s : St} {p : Pg} {l : List Int} {b q : List UInt8} {n : Int} {M : Nat} (hM : M < 4294967296) (h0 : M ≠ 0) (hi : p.is (M : Int) = true) (hn : (M : Int) ∉ l ++ [n]) (hb : (b ++ q).length ≤ 1048576) :
    getR s p l b (leB M 4 ++ q, 0) n = getN s p (1024 - (l ++ [n]).length) (M : Int) (l ++ [n]) (b ++ q) := by
  obtain ⟨h1, h2, h3⟩ := link_of M hM q
  unfold getR
  simp only [h1, h2]
  rw [if_neg (by simp), if_neg h3, if_neg (by rintro (h | ⟨-, h | h⟩) <;> first | omega | (rw [hi] at h; cases h) | exact hn h), if_neg h0]
theorem get_last {s : St} {p : Pg} {l : List Int} {b q : List UInt8} {n : Int} (hb : (b ++ q).length ≤ 1048576) :
    getR s p l b (leB 0 4 ++ q, 0) n = (b ++ q, l ++ [n], 0) := by
  obtain ⟨h1, h2, h3⟩ := link_of 0 (by decide) q
  unfold getR
  simp only [h1, h2]
  rw [if_neg (by simp), if_neg h3, if_neg (by rintro (h | ⟨h, -⟩) <;> first | omega | exact h rfl), if_pos trivial]
theorem five_get {T : St} (p0 p1 : List UInt8) (l0 : p0.length = 4086) (l1 : p1.length = 914) (hx : T.read 0 ((8192 : Nat) : Int) ((4096 : Nat) : Int) = (sealB (leB 0 4 ++ p1), 0)) (hy : T.read 0 ((12288 : Nat) : Int) ((4096 : Nat) : Int) = (sealB (leB 2 4 ++ p0), 0)) :
    getV T (pgOf (1, 3, 4)) 3 = (p0 ++ p1, [3, 2], 0) := by
  have r3 : (pgOf (1, 3, 4)).read T 3 = (leB 2 4 ++ p0, 0) := read_of rfl hy (by rw [List.length_append, leB_len]; omega)
  have r2 : (pgOf (1, 3, 4)).read T 2 = (leB 0 4 ++ p1, 0) := read_of rfl hx (by rw [List.length_append, leB_len]; omega)
  have s1 := getN_R T (pgOf (1, 3, 4)) [] [] 3 (by simp)
  rw [r3, get_next (M := 2) (by decide) (by decide) rfl (by decide) (by simp; omega)] at s1
  have s2 := getN_R T (pgOf (1, 3, 4)) ([] ++ [3]) ([] ++ p0) ((2 : Nat) : Int) (by simp)
  rw [show ((2 : Nat) : Int) = 2 from rfl, r2, get_last (by simp; omega)] at s2
  unfold getV
  exact s1.trans s2

end

section

open Go.ChangeShapes Go.WideShapes Go.ChangeAt Go.RowKit Go.Deep
set_option linter.unusedVariables false

theorem ird_two (w : World) (T : TypeId) (c d : Int) : IRd (w.alloc (.cells #[.int .i64 c, .int .i64 d] T)) (some ⟨w.heap.size, 0, none⟩) [c, d] := fun _ => by
  refine ⟨_, _, rfl, by simp, fun i hi => ?_⟩
  match i, hi with
  | 0, _ => exact World.cell?_alloc_at _ _ _ _ rfl
  | 1, _ => exact World.cell?_alloc_at _ _ _ _ rfl
theorem below_drewN {B : Nat} {w w' : World} (h : Below B w w') : ∀ m, Below B w (w'.drewN m) := fun m => ⟨h.os, h.tape, h.output, h.size, h.block⟩
set_option maxHeartbeats 6400000 in
set_option maxRecDepth 100000 in
theorem begun5_any (w : World) : Calls Try.prog 14 #[] w fun e w' => e = .returned (.bool true) ∧ Below w.heap.size w w' := by
  have HN := Lib.hid (dsk_new w w.heap.size (Nat.le_refl _))
  obtain ⟨b, hb⟩ : ∃ b, b = List.replicate 5000 (0 : UInt8) := ⟨_, rfl⟩
  have hbl : b.length = 5000 := by rw [hb, List.length_replicate]
  obtain ⟨S, hput, hS, hSn, hSp⟩ := five_put b hbl
  have l0 : (pieceAt b 0).length = 4086 := by unfold pieceAt; rw [List.length_take, List.length_drop, hbl]; omega
  have l1 : (pieceAt b 1).length = 914 := by unfold pieceAt; rw [List.length_take, List.length_drop, hbl]; omega
  have s1 : (sealB (leB 0 4 ++ pieceAt b 1)).length = 4096 := sealB_len _ (by rw [List.length_append, leB_len]; omega)
  have s0 : (sealB (leB 2 4 ++ pieceAt b 0)).length = 4096 := sealB_len _ (by rw [List.length_append, leB_len]; omega)
  obtain ⟨T, hcom, hT, hTn⟩ := five_commit hS _ _ s1 s0 hSn
  obtain ⟨r0, r1, r2, r3⟩ := five_reads hT _ _ s1 s0 hTn
  have HO := Lib.hid (five_open r0 r1)
  have HG := Lib.hid (five_get _ _ l0 l1 r2 r3)
  have HPUT := Lib.hid hput
  have HCOM := Lib.hid hcom
  have HSP := Lib.hid hSp
  have HGL : Hid ((pieceAt b 0 ++ pieceAt b 1).length = 5000) := by show _ = _; rw [List.length_append, l0, l1]
  have HBL := Lib.hid hbl
  have HMD : Hid (∀ W : World, OwnB (W.alloc (.cells (madeCells #[.int .u8 0] 5000) 5)) W.heap.size (.slice (some ⟨W.heap.size, 0, none⟩) 5000 5000) b) := fun W => by
    rw [hb]
    exact OwnB.made W 5000 (by omega)
  have hmk := run_make_row' (P := Try.prog) 23 5 (.int .u8 0) 1 Try.underlying23 byteInfo rfl .i64 .i64 5000 (by omega) (by omega)
  rw [show ((5000 : Nat) : Int) = 5000 from rfl] at hmk
  have HMK := Lib.hid hmk
  generalize pieceAt b 0 ++ pieceAt b 1 = Y at *
  clear hb hput hS hSn hSp l0 l1 s1 s0 hcom hT hTn r0 r1 r2 r3 hbl hmk
  go_enter Try.func14, Try.ntmps14
  go_wp2_with fail
  refine HN.out.mono ?_
  rintro e w1 ⟨g, rfl, hd1, hb1⟩
  have hL1 : Lies w1 w.heap.size (New w w1) := fun k hk => hk
  have HOP := Lib.hid (open_any hd1 hL1 hb1.size)
  have HB1 := Lib.hid hb1
  clear hd1 hL1 hb1
  go_wp2_with fail
  refine HOP.out.mono ?_
  rintro e w2 (⟨h', -⟩ | ⟨-, gp, gm, rfl, hp2, hb2⟩)
  · exact absurd new_open.1 h'
  rw [new_open.2] at hp2
  have HP2 := Lib.hid hp2
  have HB2 := Lib.hid (bt HB1.out hb2)
  clear hp2 hb2
  have hmk := HMK.out
  go_wp2_with fail
  have hw2 := HB2.out.size
  have HPU := Lib.hid (put_any (HP2.out.below (alloc_below w2 (.cells (madeCells #[.int .u8 0] 5000) 5))) (Nat.le_trans hw2 (by simp)) (some ⟨w2.heap.size, 0, none⟩) 5000 5000 b ((HMD.out w2).brdn HBL.out.symm) HBL.out.symm (Nat.le_refl _) (fun _ a ha hk => by cases ha; exact Nat.lt_irrefl _ (HP2.out.lies _ hk).2) (by rw [show St.new.pcs.length = 0 from rfl]; omega))
  rw [HPUT.out] at HPU
  have HW2 := Lib.hid (alloc_below w2 (.cells (madeCells #[.int .u8 0] 5000) 5))
  have HF2 := Lib.hid HP2.out.lies
  generalize w2.alloc (.cells (madeCells #[.int .u8 0] 5000) 5) = W2 at *
  refine HPU.out.mono ?_
  rintro e w3 ⟨rfl, hp3, hf3⟩
  have HP3 := Lib.hid hp3
  have HB3 := Lib.hid (below_tr HB2.out (below_tr (HW2.out.mono hw2) (hf3.below (fun k hk => (HF2.out k hk).1) (Nat.le_trans hw2 HW2.out.size))))
  have hw3 := HB3.out.size
  clear hp3 hf3 hmk
  go_wp2_with fail
  have HCO := Lib.hid (commit_any HP3.out hw3 3 (by have := HSP.out; omega))
  rw [HCOM.out] at HCO
  refine HCO.out.mono ?_
  rintro e w4 ⟨rfl, hp4, hf4⟩
  have HP4 := Lib.hid hp4
  have HB4 := Lib.hid (below_tr HB3.out (hf4.below (fun k hk => (HP3.out.lies k hk).1) hw3))
  have hw4 := HB4.out.size
  clear hp4 hf4
  go_wp2_with fail
  refine (open_any HP4.out.dsk HP4.out.lies hw4).mono ?_
  rintro e w5 (⟨h', -⟩ | ⟨-, gp5, gm5, rfl, hp5, hb5⟩)
  · exact absurd HO.out.1 h'
  rw [HO.out.2] at hp5
  have HP5 := Lib.hid hp5
  have HB5 := Lib.hid (bt HB4.out hb5)
  have hw5 := HB5.out.size
  clear hp5 hb5
  go_wp2_with fail
  have HGE := Lib.hid (get_any HP5.out 3)
  rw [HG.out] at HGE
  refine HGE.out.mono ?_
  rintro e w6 ⟨v, u, rfl, ho6, hi6, hb6⟩
  obtain ⟨va, vc, rfl, -, -⟩ := ho6.slice
  obtain ⟨ua, uc, rfl, -⟩ := hi6.slice
  have HI6 := Lib.hid hi6.ird
  have HP6 := Lib.hid (HP5.out.below hb6)
  have HB6 := Lib.hid (bt HB5.out hb6)
  clear ho6 hi6 hb6
  have hgl : ((Y.length : Nat) : Int) = 5000 := by rw [HGL.out]; rfl
  go_wp2_with fail
  refine (equalI_any ua (some ⟨w6.heap.size, 0, none⟩) uc 2 2 [3, 2] _ (HI6.out.below (alloc_below _ _)) (ird_two w6 _ 3 2) rfl (by omega)).mono ?_
  rintro e w7 ⟨rfl, m7, rfl⟩
  have hb7 : Below w6.heap.size w6 ((w6.alloc (.cells #[.int .i64 3, .int .i64 2] 3)).drewN m7) := below_drewN (alloc_below _ _) m7
  have HB7 := Lib.hid (bt HB6.out hb7)
  have HP7 := Lib.hid (HP6.out.below hb7)
  generalize (w6.alloc (.cells #[.int .i64 3, .int .i64 2] 3)).drewN m7 = w7 at *
  go_wp2_with fail
  refine (head_any HP7.out).mono ?_
  rintro e w8 ⟨rfl, hb8⟩
  have HB8 := Lib.hid (bt HB7.out hb8)
  clear hb7 hb8
  go_wp2_with fail
  go_ret
  exact ⟨rfl, HB8.out⟩

end

section

open Go.ChangeShapes Go.WideShapes Go.ChangeAt Go.RowKit Go.Deep
set_option linter.unusedVariables false

section
variable {H : Type} {enc : TypeId × Value → H} {W : World} {base : Nat} {sp : Nat → Bool} {held : Bool}
set_option maxRecDepth 100000 in
theorem intsI_cell {fuel : Nat} {v : Value} {x : DataW H × List MemPlace} (hf : DataW.trod enc Try.prog W 0 (fun _ => true) true fuel 22 [v] = some x) :
    ∃ (A : Option Addr) (cap : Nat) (l : List Int), v = .slice A l.length cap ∧ IRd W A l ∧ l.length ≤ cap ∧ (∀ z ∈ l, In64 z) ∧ (l.length = 0 ∨ ∃ el sp, x.1 = .slice el sp ∧ el.length = l.length) := by
  rcases open_ints Try.underlying22 Try.underlying3 (by kernel_rfl) hf with ⟨hcs, hx⟩ | ⟨a, len, cap, zs, hcs, hlc, hl, hc, hm, hx, hi, hw⟩
  · simp at hcs
    subst hcs
    exact ⟨none, 0, [], rfl, fun h => by simp at h, by simp, fun z hz => by simp at hz, .inl rfl⟩
  · simp at hcs
    subst hcs
    simp only [if_true] at hm
    have hlen : (zs.take len).length = len := by rw [List.length_take]; omega
    refine ⟨some a, cap, zs.take len, by rw [hlen], fun hn => ?_, by rw [hlen]; omega, fun z hz => in64_of (hw z (List.mem_of_mem_take hz)), .inr ⟨_, _, congrArg Prod.fst hx, by simp [lits]⟩⟩
    have h0 := hi 0 (by omega)
    have hs := cell_spot (by simpa [Addr.add] using h0)
    refine ⟨a.block, a.off, by rw [← hs.1], hs.2, fun i hil => ?_⟩
    have h1 := hi i (by omega)
    have e : a.add i = ⟨a.block, a.off + i, none⟩ := by
      unfold Addr.add
      split
      · rename_i hj; subst hj; exact hs.1
      · rfl
    rw [e] at h1
    rw [h1, List.getD_eq_getElem?_getD, List.getElem?_eq_getElem (show i < zs.length by omega)]
    simp
/-- An operation of a script on a pager, in memory. -/
structure OpP where
  d : Int
  n : Int
  L : Option Addr
  l : List Int
  lc : Nat
  A : Option Addr
  b : List UInt8
  ac : Nat
  m : Nat
  K : Option Addr
  ks : List Bool
  kc : Nat
def OpP.cells (o : OpP) : List Value := [.int .i64 o.d, .int .i64 o.n, .slice o.L o.l.length o.lc, .slice o.A o.b.length o.ac, .int .u16 o.m, .slice o.K o.ks.length o.kc]
structure OpP.Reads (o : OpP) (W : World) : Prop where
  l : IRd W o.L o.l
  b : BRd W o.A o.b
  ks : KRd W o.K o.ks
  n : In64 o.n
  m : o.m < 65536
  ls : ∀ z ∈ o.l, In64 z
  lc : o.l.length ≤ o.lc
  bc : o.b.length ≤ o.ac
theorem OpP.Reads.below {o : OpP} {W W' : World} (h : o.Reads W) (hb : Below W.heap.size W W') : o.Reads W' := ⟨h.l.below hb, h.b.below hb, h.ks.below hb, h.n, h.m, h.ls, h.lc, h.bc⟩
/-- What the reading of an operation says of its sizes. -/
structure OpP.Says (o : OpP) (x : DataW H) : Prop where
  weightB : o.b.length = 0 ∨ ∃ n ∈ x.weights Try.prog 27, o.b.length ≤ n
  bulk : o.l.length + o.b.length + o.ks.length + 1 ≤ Rows.uptoBulk x
theorem cellsOp5 : Try.prog.cellsOf 27 = 6 := by kernel_rfl
theorem cells5 : Try.prog.cellsOf 3 = 1 ∧ Try.prog.cellsOf 23 = 1 ∧ Try.prog.cellsOf 25 = 1 ∧ Try.prog.cellsOf 22 = 1 ∧ Try.prog.cellsOf 24 = 1 := ⟨by kernel_rfl, by kernel_rfl, by kernel_rfl, by kernel_rfl, by kernel_rfl⟩
set_option maxRecDepth 100000 in
theorem op5_of_cells {fuel : Nat} {cs : List Value} {x : DataW H × List MemPlace} (h : DataW.trod enc Try.prog W 0 (fun _ => true) true fuel 27 cs = some x) : ∃ o : OpP, cs = o.cells ∧ o.Reads W ∧ o.Says x.1 := by
  obtain ⟨xs, n, _, hx, hl, hlen, hg⟩ := DataW.trod_struct Try.underlying27 h
  rw [cellsOp5] at hl
  match xs, hlen with
  | [y0, y1, y2, y3, y4, y5], _ =>
    match cs, hl with
    | [c0, c1, c2, c3, c4, c5], _ =>
      have g0 : DataW.trod enc Try.prog W 0 (fun _ => true) true n 3 (([c0, c1, c2, c3, c4, c5].drop 0).take (Try.prog.cellsOf 3)) = some y0 := hg 0 _ rfl
      have g1 : DataW.trod enc Try.prog W 0 (fun _ => true) true n 3 (([c0, c1, c2, c3, c4, c5].drop 1).take (Try.prog.cellsOf 3)) = some y1 := hg 1 _ rfl
      have g2 : DataW.trod enc Try.prog W 0 (fun _ => true) true n 22 (([c0, c1, c2, c3, c4, c5].drop 2).take (Try.prog.cellsOf 22)) = some y2 := hg 2 _ rfl
      have g3 : DataW.trod enc Try.prog W 0 (fun _ => true) true n 23 (([c0, c1, c2, c3, c4, c5].drop 3).take (Try.prog.cellsOf 23)) = some y3 := hg 3 _ rfl
      have g4 : DataW.trod enc Try.prog W 0 (fun _ => true) true n 24 (([c0, c1, c2, c3, c4, c5].drop 4).take (Try.prog.cellsOf 24)) = some y4 := hg 4 _ rfl
      have g5 : DataW.trod enc Try.prog W 0 (fun _ => true) true n 25 (([c0, c1, c2, c3, c4, c5].drop 5).take (Try.prog.cellsOf 25)) = some y5 := hg 5 _ rfl
      rw [cells5.1] at g0 g1
      rw [cells5.2.2.2.1] at g2
      rw [cells5.2.1] at g3
      rw [cells5.2.2.2.2] at g4
      rw [cells5.2.2.1] at g5
      change DataW.trod enc Try.prog W 0 _ true n _ [c0] = _ at g0
      change DataW.trod enc Try.prog W 0 _ true n _ [c1] = _ at g1
      change DataW.trod enc Try.prog W 0 _ true n _ [c2] = _ at g2
      change DataW.trod enc Try.prog W 0 _ true n _ [c3] = _ at g3
      change DataW.trod enc Try.prog W 0 _ true n _ [c4] = _ at g4
      change DataW.trod enc Try.prog W 0 _ true n _ [c5] = _ at g5
      obtain ⟨z0, e0, _, w0⟩ := DataW.trod_int Try.underlying3 g0
      obtain ⟨z1, e1, _, w1⟩ := DataW.trod_int Try.underlying3 g1
      obtain ⟨z4, e4, _, w4⟩ := DataW.trod_int Try.underlying24 g4
      simp only [List.cons.injEq, and_true] at e0 e1 e4
      obtain ⟨L, lc, l, e2, hll, hlc, hls, hld⟩ := intsI_cell g2
      obtain ⟨A, ac, b, e3, hb, hbc, -, hbd⟩ := bytes_cell g3
      obtain ⟨K, kc, ks, e5, hk, -, -, hkd⟩ := bools_cell g5
      have i4 : 0 ≤ z4 ∧ z4 ≤ 65535 := by simpa [Lit.wf, IntKind.min, IntKind.max, IntKind.signed, IntKind.bits] using w4
      obtain ⟨m, rfl⟩ := Int.eq_ofNat_of_zero_le i4.1
      refine ⟨⟨z0, z1, L, l, lc, A, b, ac, m, K, ks, kc⟩, by rw [e0, e1, e2, e3, e4, e5]; rfl, ⟨hll, hb, hk, in64_of w1, by have := i4.2; show m < 65536; omega, hls, hlc, hbc⟩, ?_⟩
      rw [hx]
      have hb1 : Try.prog.bytesOf 5 = 1 := by kernel_rfl
      refine ⟨?_, ?_⟩
      · rcases hbd with h0 | ⟨el, sp, e, he⟩
        · exact .inl h0
        · refine .inr ⟨(el.length + sp.length) * 1, ?_, by show b.length ≤ _; omega⟩
          unfold DataW.weights
          rw [Try.underlying27]
          simp [DataW.weightsEach, e, DataW.weights, Try.underlying23, hb1]
      · have h2 : l.length + 1 ≤ Rows.uptoBulk y2.1 ∨ l.length = 0 := by
          rcases hld with h0 | ⟨el, sp, e, he⟩
          · exact .inr h0
          · rw [e]
            simp only [Rows.uptoBulk]
            have := bulk_all el
            omega
        have h4 : b.length + 1 ≤ Rows.uptoBulk y3.1 ∨ b.length = 0 := by
          rcases hbd with h0 | ⟨el, sp, e, he⟩
          · exact .inr h0
          · rw [e]
            simp only [Rows.uptoBulk]
            have := bulk_all el
            omega
        have h5 : ks.length + 1 ≤ Rows.uptoBulk y5.1 ∨ ks.length = 0 := by
          rcases hkd with h0 | ⟨el, sp, e, he⟩
          · exact .inr h0
          · rw [e]
            simp only [Rows.uptoBulk]
            have := bulk_all el
            omega
        show l.length + b.length + ks.length + 1 ≤ _
        simp only [List.map_cons, List.map_nil, Rows.uptoBulk, Rows.uptoBulkAll]
        omega
set_option maxRecDepth 100000 in
theorem open_op5 {v : Value} {d : DataW H} {p : List MemPlace} (hv : Value.okWide Try.prog W .any base 27 v) (h : DataW.Trod enc Try.prog W 0 (fun _ => true) true 27 v d p) : ∃ o : OpP, v = .agg o.cells.toArray ∧ o.Reads W ∧ o.Says d := by
  obtain ⟨cs, rfl, _⟩ := okWide_struct Try.underlying27 hv
  obtain ⟨fuel, hf⟩ := h
  obtain ⟨o, ha, h1, h2⟩ := op5_of_cells hf
  refine ⟨o, ?_, h1, h2⟩
  obtain ⟨l⟩ := cs
  have e : l = o.cells := by simpa [Value.cells] using ha
  rw [e]
end

end

section

open Go.ChangeShapes Go.WideShapes Go.ChangeAt Go.RowKit Go.Deep
set_option linter.unusedVariables false

def copyB (m r : List UInt8) (pos : Nat) : List UInt8 := m.take pos ++ r.take (m.length - pos) ++ m.drop (pos + (r.take (m.length - pos)).length)
theorem copyB_len (m r : List UInt8) (pos : Nat) (h : pos ≤ m.length) : (copyB m r pos).length = m.length := by
  unfold copyB
  simp
  omega
theorem own_copyT {w : World} {g cap n : Nat} {m : List UInt8} (hown : OwnB w 0 (.slice (some ⟨g, 0, none⟩) n cap) m) (hn : n = m.length) (h0 : 0 < n) {A : Option Addr} {r : List UInt8} (hA : BRd w A r) (pos : Nat) (hp : pos < n) :
    ∃ w1 k, (∀ ty dc sc dl, dl = n - pos → (Builtin.copy_ #[23, 23] ty #[.slice (some ⟨g, pos, none⟩) dl dc, .slice A r.length sc]).run Try.prog w = .ok (goInt k) w1) ∧
      OwnB w1 0 (.slice (some ⟨g, 0, none⟩) n cap) (copyB m r pos) ∧ Fr (fun k => k = g) w w1 := by
  subst hn
  by_cases hr : r.length = 0
  · obtain rfl := List.eq_nil_of_length_eq_zero hr
    refine ⟨w, 0, fun ty dc sc dl hdl => copy_none w ty _ A sc g dl dc pos rfl, ?_, Fr.refl _ _⟩
    have e : copyB m [] pos = m := by unfold copyB; simp
    rw [e]
    exact hown
  · obtain ⟨b, hb⟩ : ∃ b, b = r.take (m.length - pos) := ⟨_, rfl⟩
    have hbl0 : b.length = min (m.length - pos) r.length := by rw [hb, List.length_take]
    have hb0 : 0 < b.length := by omega
    have hAb : BRd w A b := by rw [hb]; exact brd_take' hA _
    have hfit : pos + b.length ≤ m.length := by omega
    unfold copyB
    rw [← hb]
    obtain ⟨g', cap', cur, hv, hg, hc1, hc2, hc3, hc4⟩ := own_form hown h0
    obtain ⟨rfl, rfl⟩ : g = g' ∧ cap = cap' := by simpa using hv
    obtain ⟨i0, hi, hz0, hz1, hz2⟩ := info_parts byteInfo
    obtain ⟨q, off, rfl, hq, hcells⟩ := hAb hb0
    have hcl : cur.toList.length = cur.size := Array.length_toList
    have hcs' : m.length ≤ cur.toList.length := by omega
    have hbl : (Lib.byteCells b).length = b.length := by simp [Lib.byteCells]
    have hml : (Lib.byteCells m).length = m.length := by simp [Lib.byteCells]
    refine ⟨w.setRow g (cur.toList.take pos ++ (Lib.byteCells b ++ cur.toList.drop (pos + (Lib.byteCells b).length))).toArray, b.length, fun ty dc sc dl hdl => ?_, ?_, ?_⟩
    · have := run_copy_row (P := Try.prog) w 23 23 ty 5 g pos dl dc ⟨q, off, none⟩ r.length sc cur 5 (Lib.byteCells b) Try.underlying23 (by rw [hi]; simp [hz1]) hg (by rw [hbl, hbl0, hdl]; exact Nat.min_comm _ _) (fun j u hj => by
        obtain ⟨hj', rfl⟩ := byteCells_get hj
        rw [Go.WideShapes.add_plain, hcells j hj']) (by rw [hbl]; omega) (fun u hu => by simp [Lib.byteCells] at hu; obtain ⟨c, _, rfl⟩ := hu; rfl)
      rw [this, hbl, List.append_assoc]
    · have hL : (m.take pos ++ b ++ m.drop (pos + b.length)).length = m.length := by simp; omega
      unfold OwnB
      rw [hL]
      refine ⟨by simp [Lib.byteCells]; omega, .inr ⟨g, cap, _, rfl, Nat.zero_le _, setRow_heap w g cur _ 5 _ hg, hc1, hc2, ?_, ?_⟩⟩
      · simp only [List.size_toArray, List.length_append, List.length_take, List.length_drop, Array.length_toList, hbl]
        omega
      · have hB : Lib.byteCells (m.take pos ++ b ++ m.drop (pos + b.length)) = (Lib.byteCells m).take pos ++ (Lib.byteCells b ++ (Lib.byteCells m).drop (pos + b.length)) := by simp [Lib.byteCells]
        rw [hB, ← hc4, Nat.mul_one, ← hbl]
        exact take_splice cur.toList (Lib.byteCells b) pos m.length (by rw [hbl]; exact hfit) (by have := hcs'; omega)
    · exact ⟨rfl, rfl, rfl, by simp, fun j _ hj => setRow_other w g j _ (fun e => hj (by rw [e]))⟩
/-- Zeros are appended to a slice of the call's own. -/
theorem run_zerosI (w : World) (ty : TypeId) (v : Value) (l : List UInt8) (hown : OwnB w 0 v l) (k : Nat) (h0 : 0 < k) (hlim : l.length + k ≤ 150000000000000) :
    ∃ v' w', (Builtin.append_ #[23, 3] ty #[v, .int .i64 k]).run Try.prog w = .ok v' w' ∧ OwnB w' 0 v' (l ++ List.replicate k 0) ∧ Grw w w' v v' := by
  obtain ⟨i0, hi, hz0, hz1, hz2⟩ := info_parts byteInfo
  have hzc : (Value.int .u8 0).cells = #[.int .u8 0] := rfl
  have hcells : Lib.byteCells (l ++ List.replicate k 0) = Lib.byteCells l ++ List.replicate k (.int .u8 0) := by simp [Lib.byteCells]
  have hxl : (Lib.byteCells l).length = l.length := by simp [Lib.byteCells]
  have fresh : ∀ (old : Nat) (row : Option Nat), old < l.length + k →
      (w.drew.alloc (.cells ((Lib.byteCells l).toArray ++ Builtin.zeroCells (Value.int .u8 0).cells k ++ Builtin.zeroCells (Value.int .u8 0).cells (grownCap w (l.length + k) old 5 - (l.length + k))) 5)).ownsRow 0 5 1
        (.slice (some ⟨w.heap.size, 0, none⟩) (l.length + k) (grownCap w (l.length + k) old 5)) (l.length + k) (Lib.byteCells l ++ List.replicate k (.int .u8 0)) ∧
      w.grownBy (w.drew.alloc (.cells ((Lib.byteCells l).toArray ++ Builtin.zeroCells (Value.int .u8 0).cells k ++ Builtin.zeroCells (Value.int .u8 0).cells (grownCap w (l.length + k) old 5 - (l.length + k))) 5)) row := by
    intro old row ho
    have hge := grownCap_ge w (l.length + k) old 5
    have hcm : grownCap w (l.length + k) old 5 ≤ maxLen := grownCap_le_maxLen w (l.length + k) old 5 (by unfold maxLen; omega)
    refine ⟨⟨by simp [hxl], .inr ⟨w.heap.size, _, _, rfl, Nat.zero_le _, heap_alloc_new w.drew _, hge, hcm, ?_, ?_⟩⟩, ⟨rfl, rfl, rfl, by simp, fun j hj _ => heap_alloc_old w.drew _ hj⟩⟩
    · simp only [Array.size_append, List.size_toArray, size_zeroCells, hxl, hzc, List.size_toArray, List.length_cons, List.length_nil]
      omega
    · rw [zeroCells_one _ k hzc]
      simp only [Array.toList_append, List.append_assoc]
      rw [← List.append_assoc, Nat.mul_one]
      have : l.length + k = (Lib.byteCells l ++ List.replicate k (Value.int .u8 0)).length := by simp [hxl]
      rw [this]
      exact List.take_left
  have hlen : l.length + k = (l ++ List.replicate k 0).length := by simp
  rcases hown.2 with ⟨rfl, hl0⟩ | ⟨g, cap, cur, rfl, hbg, hg, hnc, hcm, hcs, htake⟩
  · have hr := Lib.run_append_nil_zeros (P := Try.prog) w 23 3 ty 5 i0 (.int .u8 0) .i64 .i64 Try.underlying23 Try.underlying3 hi hz0 k h0 (by omega) (by omega) (by rw [hz2]; omega)
    have hl : l = [] := List.length_eq_zero_iff.1 hl0
    subst hl
    have hf := fresh 0 (Value.ownBlock (.slice none 0 0)) (by simp; omega)
    simp only [List.length_nil, Nat.zero_add, List.nil_append, Lib.byteCells, List.map_nil, Array.empty_append] at hf
    refine ⟨_, _, hr, ?_, ?_⟩
    · have h2 := hf.1
      unfold OwnB
      simpa [Lib.byteCells] using h2
    · exact Grw.lies hf.2 (.inr rfl)
  · by_cases hroom : l.length + k ≤ cap
    · have hr := run_append_room_zeros (P := Try.prog) w 23 3 ty 5 i0 (.int .u8 0) .i64 .i64 Try.underlying23 Try.underlying3 hi hz0 hz1 hzc rfl g l.length cap cur hg k h0 hroom (by omega) (by omega) (by rw [hz2]; omega)
      refine ⟨_, _, hr, ?_, ?_⟩
      · unfold OwnB
        rw [hcells, ← hlen]
        refine ⟨by simp [hxl], .inr ⟨g, cap, _, rfl, Nat.zero_le _, setRow_heap w g cur _ 5 _ hg, hroom, hcm, ?_, ?_⟩⟩
        · simp only [List.size_toArray, List.length_append, List.length_take, List.length_drop, Array.length_toList, List.length_replicate]
          omega
        · rw [Nat.mul_one] at htake
          rw [htake, Nat.mul_one]
          have : l.length + k = (Lib.byteCells l ++ List.replicate k (Value.int .u8 0)).length := by simp [hxl]
          rw [this]
          exact List.take_left
      · exact Grw.lies ⟨rfl, rfl, rfl, by simp, fun j _ hj => setRow_other w g j _ (fun e => hj (by simp [Value.ownBlock, e]))⟩ (.inl rfl)
    · have holds : ∀ j u, (Lib.byteCells l)[j]? = some u → w.cell? ((⟨g, 0, none⟩ : Addr).add j) = some u := World.ownsRow.cells hown (g := g) rfl
      have hr := Lib.run_append_grow_zeros (P := Try.prog) w 23 3 ty 5 i0 (.int .u8 0) .i64 .i64 Try.underlying23 Try.underlying3 hi hz0 (some ⟨g, 0, none⟩) l.length cap (Lib.byteCells l)
        (run_firstCells_some (P := Try.prog) w.drew i0.size l.length ⟨g, 0, none⟩ l.length cap (Lib.byteCells l) (by rw [hxl, hz1, Nat.mul_one]) (by simpa using holds)) k h0 (by omega) (by omega) (by omega) (by rw [hz2]; omega) (by rw [hz2, Nat.mul_one]; exact cap_fits (by omega) (by omega))
      have hf := fresh cap (Value.ownBlock (.slice (some ⟨g, 0, none⟩) l.length cap)) (by omega)
      refine ⟨_, _, hr, ?_, ?_⟩
      · unfold OwnB
        rw [hcells, ← hlen]
        exact hf.1
      · exact Grw.lies hf.2 (.inr rfl)
/-- Zeros, and perhaps none, are appended to a slice of the call's own. -/
theorem run_zerI (w : World) (ty : TypeId) (B k : Nat) (v : Value) (l : List UInt8) (hown : OwnB w B v l) (hB : B ≤ w.heap.size) (hlim : l.length + k ≤ 150000000000000) :
    ∃ v' w', (Builtin.append_ #[23, 3] ty #[v, .int .i64 k]).run Try.prog w = .ok v' w' ∧ OwnB w' B v' (l ++ List.replicate k 0) ∧ Below B w w' := by
  obtain ⟨i, hi, hz, hs, hbb⟩ := info_parts byteInfo
  have ht := Try.underlying23
  have htn := Try.underlying3
  by_cases hk : 0 < k
  · obtain ⟨v', w', h1, h2, h3⟩ := run_zerosI w ty v l (hown.low (Nat.zero_le _)) k hk (by omega)
    obtain ⟨g', c', rfl, _, _⟩ := World.ownsRow.form h2 (by simp; omega)
    have hg' : B ≤ g' := by
      rcases h3.at_ with e | e
      · exact (World.ownsRow.lt hown g' e.symm).1
      · exact Nat.le_trans hB (e g' rfl)
    refine ⟨_, w', h1, ?_, h3.below hown hB⟩
    have hl : (l ++ List.replicate k (0 : UInt8)).length = l.length + k := by simp
    rw [hl] at h2 ⊢
    exact own_raise h2 hg'
  · obtain rfl : k = 0 := by omega
    refine ⟨v, w, ?_, by rw [List.replicate_zero, List.append_nil]; exact hown, Below.refl _ _⟩
    obtain ⟨a, cap, rfl, hcap, -⟩ := hown.slice
    have hzz := zeroCells_one (.int .u8 0) 0 rfl
    have hw0 : IntKind.i64.wrap 0 = 0 := by decide
    cases a <;> simp [hw0, Builtin.append_, run_underlying ht, run_underlying htn, sizeOf, typeInfo, zeroValue, hi, hz, asInt, asIntOf, hzz, hcap, Builtin.lenOf, Builtin.firstCells, loadCells, storeCells]
theorem unseal_arg (b : List UInt8) : decide ((unsealV b).2 = 1) = decide (b.length ≠ 4096) := by
  unfold unsealV
  by_cases h : b.length = 4096
  · rw [if_neg (by simp [h])]
    split
    · simp [h]
    · split <;> simp [h]
  · rw [if_pos h]
    simp [h]

end

section

open Go.ChangeShapes Go.WideShapes Go.ChangeAt Go.RowKit Go.Deep
set_option linter.unusedVariables false

def B6 (W : World) (q : Nat) (a b c d e f : Value) : Prop := q < W.heap.size ∧ W.cell? ⟨q, 0, none⟩ = some a ∧ W.cell? ⟨q, 1, none⟩ = some b ∧ W.cell? ⟨q, 2, none⟩ = some c ∧ W.cell? ⟨q, 3, none⟩ = some d ∧ W.cell? ⟨q, 4, none⟩ = some e ∧ W.cell? ⟨q, 5, none⟩ = some f
theorem B6.below {W W' : World} {q : Nat} {a b c d e f : Value} (h : B6 W q a b c d e f) (hb : Below W.heap.size W W') : B6 W' q a b c d e f := by
  obtain ⟨h0, h1, h2, h3, h4, h5, h6⟩ := h
  have hc := (bcell hb).1
  exact ⟨Nat.lt_of_lt_of_le h0 hb.size, (hc _ _ h0).trans h1, (hc _ _ h0).trans h2, (hc _ _ h0).trans h3, (hc _ _ h0).trans h4, (hc _ _ h0).trans h5, (hc _ _ h0).trans h6⟩
theorem B6.new (w : World) (a b c d e f : Value) (T : TypeId) : B6 (w.alloc (.cells #[a, b, c, d, e, f] T)) w.heap.size a b c d e f :=
  ⟨by simp, World.cell?_alloc_at _ _ _ _ rfl, World.cell?_alloc_at _ _ _ _ rfl, World.cell?_alloc_at _ _ _ _ rfl, World.cell?_alloc_at _ _ _ _ rfl, World.cell?_alloc_at _ _ _ _ rfl, World.cell?_alloc_at _ _ _ _ rfl⟩
theorem zeros_cut (r : List UInt8) : ((r ++ List.replicate 4096 0).take 4096).length = 4096 := by
  rw [List.length_take, List.length_append, List.length_replicate]
  omega
set_option maxHeartbeats 8000000 in
set_option maxRecDepth 100000 in
theorem pagerSeals_long (d n : Int) (m : Nat) (La A Ka R : Option Addr) (Ln Lc c Kn Kc rc : Nat) (l r : List UInt8) (w : World) (hA : BRd w A l) (hl : l.length ≤ 140737488351232) (hR : BRd w R r) (hr : r.length ≤ 140737488351232) (hrc : r.length ≤ rc) (hlong : 4090 < (dataB l m).length) :
    Calls Try.prog 3 #[.agg #[.int .i64 d, .int .i64 n, .slice La Ln Lc, .slice A l.length c, .int .u16 m, .slice Ka Kn Kc], .slice R r.length rc] w fun e w' => e = .returned (.bool true) ∧ Below w.heap.size w w' := by
  have HDA : Hid (∀ W, Below w.heap.size w W → Calls Try.prog 12 #[.agg #[.int .i64 d, .int .i64 n, .slice La Ln Lc, .slice A l.length c, .int .u16 m, .slice Ka Kn Kc]] W fun e w' => ∃ v, e = .returned v ∧ OwnB w' W.heap.size v (dataB l m) ∧ Below W.heap.size W w') := fun W hW => data_any d n m La A Ka Ln Lc l.length c Kn Kc l W (hA.below hW) rfl (by omega)
  have HR := Lib.hid hR
  have HRC := Lib.hid hrc
  have HLG := Lib.hid hlong
  have hrl := hr
  generalize dataB l m = D at *
  clear hA hR hlong hrc
  go_enter Try.func3, Try.ntmps3
  go_wp2_with fail
  have HB0 := Lib.hid (alloc_below w (.cells #[.int .i64 d, .int .i64 n, .slice La Ln Lc, .slice A l.length c, .int .u16 m, .slice Ka Kn Kc] 27))
  have HX0 := Lib.hid (B6.new w (.int .i64 d) (.int .i64 n) (.slice La Ln Lc) (.slice A l.length c) (.int .u16 m) (.slice Ka Kn Kc) 27)
  generalize w.alloc (.cells #[.int .i64 d, .int .i64 n, .slice La Ln Lc, .slice A l.length c, .int .u16 m, .slice Ka Kn Kc] 27) = w0 at *
  refine (HDA.out _ HB0.out).mono ?_
  rintro e w1 ⟨v1, rfl, ho1, hb1⟩
  obtain ⟨a1, k1, rfl, -, -⟩ := ho1.slice
  have HX1 := Lib.hid (HX0.out.below hb1)
  have HB1 := Lib.hid (bt HB0.out hb1)
  clear ho1 hb1
  go_wp2_with fail
  refine (seal_long a1 k1 D w1 HLG.out).mono ?_
  rintro e w' ⟨rfl, rfl⟩
  obtain ⟨-, c0, c1, c2, c3, c4, c5⟩ := HX1.out
  go_wp2_with fail
  refine (HDA.out _ HB1.out).mono ?_
  rintro e w2 ⟨v2, rfl, ho2, hb2⟩
  obtain ⟨a2, k2, rfl, -, -⟩ := ho2.slice
  have HX2 := Lib.hid (HX1.out.below hb2)
  have HB2 := Lib.hid (bt HB1.out hb2)
  clear ho2 hb2 c0 c1 c2 c3 c4 c5
  go_wp2_with fail
  refine (rseal_long a2 k2 D w2 HLG.out).mono ?_
  rintro e w' ⟨rfl, rfl⟩
  go_wp2_with fail
  refine (begun5_any w2).mono ?_
  rintro e w3 ⟨rfl, hb3⟩
  have HX3 := Lib.hid (HX2.out.below hb3)
  have HB3 := Lib.hid (bt HB2.out hb3)
  clear hb3
  go_wp2_with fail
  refine (equal_any none none 0 0 [] [] w3 (BRd.nil _ _) (BRd.nil _ _)).mono ?_
  rintro e w' ⟨rfl, rfl⟩
  go_wp2_with fail
  refine (clone_any R rc r w3 (HR.out.below HB3.out) (by omega)).mono ?_
  rintro e w4 ⟨v4, rfl, ho4, hb4⟩
  have HB4 := Lib.hid (bt HB3.out hb4)
  obtain ⟨v5, w5, hr5, ho5, hb5'⟩ := run_zerI w4 23 w3.heap.size 4096 v4 r ho4 hb4.size (by omega)
  have hb5 : Below w3.heap.size w3 w5 := below_tr hb4 hb5'
  have hC5 := zeros_cut r
  have hlen5 : (r ++ List.replicate 4096 (0 : UInt8)).length = r.length + 4096 := by rw [List.length_append, List.length_replicate]
  obtain ⟨g5, k5, rfl, -, -⟩ := World.ownsRow.form ho5 (by rw [hlen5]; omega)
  obtain ⟨a', k', e', hk5, -⟩ := ho5.slice
  obtain ⟨rfl, -, rfl⟩ : some (⟨g5, 0, none⟩ : Addr) = a' ∧ True ∧ k5 = k' := by
    simp only [Value.slice.injEq] at e'
    exact ⟨e'.1, trivial, e'.2.2⟩
  have HC5 := Lib.hid (brd_take' ho5.brd 4096)
  have hk5' : 4096 ≤ k5 := by omega
  rw [hlen5] at hr5
  have hk5I : (4096 : Int) ≤ (k5 : Int) := by omega
  obtain ⟨N5, hN5⟩ : ∃ N5, N5 = r.length + 4096 := ⟨_, rfl⟩
  rw [← hN5] at hr5
  have h5I : (4096 : Int) ≤ (N5 : Int) := by omega
  have HB5 := Lib.hid (bt HB3.out hb5)
  have HRL : Hid (r.length ≤ 140737488351232) := hrl
  have HC4 := Lib.hid hC5
  generalize (r ++ List.replicate 4096 (0 : UInt8)).take 4096 = C at *
  clear ho4 hb4 hb5' ho5 hb5 e' hk5 hlen5 hN5 hC5
  go_wp2_with (at_builtin; refine wpList_run2 rfl _ _ rfl hr5 rfl rfl rfl ?_; clear hr5; refine Hid.out ?_)
  refine Lib.hid ?_
  go_wp2_with fail
  have HUA : Hid (decide ((unsealV r).2 = 1) = decide (r.length ≠ 4096)) := unseal_arg r
  obtain ⟨x, hx⟩ : ∃ x, x = unsealV C := ⟨_, rfl⟩
  have HU6 := Lib.hid (unseal_any (some ⟨g5, 0, none⟩) k5 4096 C w5 HC5.out HC4.out.symm hk5')
  have HU7 : Hid (∀ W, Below w5.heap.size w5 W → Calls Try.prog 18 #[.slice (some ⟨g5, 0, none⟩) 4096 k5] W (RRead (unsealV C) W)) := fun W hW => runseal_any (some ⟨g5, 0, none⟩) k5 4096 C W (HC5.out.below hW) HC4.out.symm hk5'
  have HU8 : Hid (∀ W, Below w.heap.size w W → Calls Try.prog 17 #[.slice R r.length rc] W (RRead (unsealV r) W)) := fun W hW => unseal_any R rc r.length r W (HR.out.below hW) rfl HRC.out
  rw [← hx] at HU6 HU7
  generalize unsealV r = y at *
  clear hx
  refine HU6.out.mono ?_
  rintro e w6 ⟨a6, n6, k6, rfl, hn6, hr6, hb6⟩
  have HN6 := Lib.hid hn6
  have HR6 := Lib.hid hr6
  have HB56 := Lib.hid hb6
  have HB6 := Lib.hid (bt HB5.out hb6)
  clear hn6 hr6 hb6
  go_wp2_with fail
  refine (HU7.out w6 HB56.out).mono ?_
  rintro e w7 ⟨a7, n7, k7, rfl, hn7, hr7, hb7⟩
  have HEQV : Hid (∀ W, Below w7.heap.size w7 W → Calls Try.prog 15 #[.slice a6 n6 k6, .slice a7 n7 k7] W fun e w' => e = .returned (.bool true) ∧ W = w') := fun W hW => by
    have h := equal_at (w := w7) (W := W) (c1 := k6) (c2 := k7) (HR6.out.below hb7) hr7 HN6.out hn7 hW
    rw [beq_self_eq_true] at h
    exact h
  have HB67 := Lib.hid hb7
  have HB7 := Lib.hid (bt HB6.out hb7)
  clear hn7 hr7 hb7
  go_wp2_with fail
  refine (HU8.out w7 HB7.out).mono ?_
  rintro e w8 ⟨a8, n8, k8, rfl, hn8, hr8, hb8⟩
  have HB8 := Lib.hid (bt HB7.out hb8)
  have HEQ8 : Hid (Calls Try.prog 15 #[.slice a6 n6 k6, .slice a7 n7 k7] w8 fun e w' => e = .returned (.bool true) ∧ w8 = w') := HEQV.out w8 hb8
  clear hn8 hr8 hb8
  go_wp2_with fail
  refine HEQ8.out.mono ?_
  rintro e w' ⟨rfl, rfl⟩
  by_cases h4 : r.length = 4096
  · have h4I : (r.length : Int) = 4096 := by omega
    have hy1 : ¬ y.2 = 1 := fun h => by have := HUA.out; rw [h4] at this; simp [h] at this
    generalize y.2 = yi at *
    clear h4
    go_wp2_with fail
    go_ret
    exact ⟨ret_bool (by simp [hy1]), HB8.out⟩
  · have h4I : ¬ (r.length : Int) = 4096 := by omega
    have hy1 : y.2 = 1 := by have := HUA.out; simpa [h4] using this
    rw [hy1]
    clear h4 hy1
    go_wp2_with fail
    go_ret
    exact ⟨ret_bool (by simp [h4I]), HB8.out⟩

end

section

open Go.ChangeShapes Go.WideShapes Go.ChangeAt Go.RowKit Go.Deep
set_option linter.unusedVariables false

theorem B6.fr {W W' : World} {q : Nat} {a b c d e f : Value} {F : Nat → Prop} (h : B6 W q a b c d e f) (hf : Fr F W W') (hq : ¬ F q) : B6 W' q a b c d e f := by
  obtain ⟨h0, h1, h2, h3, h4, h5, h6⟩ := h
  have hc : ∀ o, W'.cell? ⟨q, o, none⟩ = W.cell? ⟨q, o, none⟩ := fun o => World.cell?_of_block (w := W) (w' := W') (a := ⟨q, o, none⟩) (hf.block q h0 hq)
  exact ⟨Nat.lt_of_lt_of_le h0 hf.size, (hc _).trans h1, (hc _).trans h2, (hc _).trans h3, (hc _).trans h4, (hc _).trans h5, (hc _).trans h6⟩
set_option maxHeartbeats 8000000 in
set_option maxRecDepth 100000 in
theorem pagerSeals_short (d n : Int) (m : Nat) (La A Ka R : Option Addr) (Ln Lc c Kn Kc rc : Nat) (l r : List UInt8) (w : World) (hA : BRd w A l) (hl : l.length ≤ 140737488351232) (hR : BRd w R r) (hr : r.length ≤ 140737488351232) (hrc : r.length ≤ rc) (hshort : (dataB l m).length ≤ 4090) :
    Calls Try.prog 3 #[.agg #[.int .i64 d, .int .i64 n, .slice La Ln Lc, .slice A l.length c, .int .u16 m, .slice Ka Kn Kc], .slice R r.length rc] w fun e w' => e = .returned (.bool true) ∧ Below w.heap.size w w' := by
  have HDA : Hid (∀ W, Below w.heap.size w W → Calls Try.prog 12 #[.agg #[.int .i64 d, .int .i64 n, .slice La Ln Lc, .slice A l.length c, .int .u16 m, .slice Ka Kn Kc]] W fun e w' => ∃ v, e = .returned v ∧ OwnB w' W.heap.size v (dataB l m) ∧ Below W.heap.size W w') := fun W hW => data_any d n m La A Ka Ln Lc l.length c Kn Kc l W (hA.below hW) rfl (by omega)
  have HR := Lib.hid hR
  have HRC := Lib.hid hrc
  have HSH := Lib.hid hshort
  have hrl := hr
  generalize dataB l m = D at *
  clear hA hR hshort hrc
  go_enter Try.func3, Try.ntmps3
  go_wp2_with fail
  have HB0 := Lib.hid (alloc_below w (.cells #[.int .i64 d, .int .i64 n, .slice La Ln Lc, .slice A l.length c, .int .u16 m, .slice Ka Kn Kc] 27))
  have HX0 := Lib.hid (B6.new w (.int .i64 d) (.int .i64 n) (.slice La Ln Lc) (.slice A l.length c) (.int .u16 m) (.slice Ka Kn Kc) 27)
  generalize w.alloc (.cells #[.int .i64 d, .int .i64 n, .slice La Ln Lc, .slice A l.length c, .int .u16 m, .slice Ka Kn Kc] 27) = w0 at *
  refine (HDA.out _ HB0.out).mono ?_
  rintro e w1 ⟨v1, rfl, ho1, hb1⟩
  obtain ⟨a1, k1, rfl, -, -⟩ := ho1.slice
  have HX1 := Lib.hid (HX0.out.below hb1)
  have HB1 := Lib.hid (bt HB0.out hb1)
  have HO1 := Lib.hid ho1.brd
  clear ho1 hb1
  go_wp2_with fail
  refine (seal_any a1 k1 D w1 HO1.out HSH.out).mono ?_
  rintro e wa ⟨sa, ka, rfl, hoa, hba⟩
  have hsl : (sealB D).length = 4096 := sealB_len D HSH.out
  have HSL := Lib.hid hsl
  have HOA := Lib.hid hoa
  have HKA0 : Hid (4096 ≤ ka) := by
    obtain ⟨a', k', e', hk', -⟩ := (show OwnB wa w1.heap.size (.slice sa (sealB D).length ka) (sealB D) by rw [HSL.out]; exact hoa).slice
    simp only [Value.slice.injEq] at e'
    rw [HSL.out] at hk'
    rw [e'.2.2]
    exact hk'
  have HXA := Lib.hid (HX1.out.below hba)
  have HBA := Lib.hid (bt HB1.out hba)
  clear hoa hba hsl
  obtain ⟨-, c0, c1, c2, c3, c4, c5⟩ := HXA.out
  go_wp2_with fail
  refine (HDA.out _ HBA.out).mono ?_
  rintro e w2 ⟨v2, rfl, ho2, hb2⟩
  obtain ⟨a2, k2, rfl, -, -⟩ := ho2.slice
  have HX2 := Lib.hid (HXA.out.below hb2)
  have HB2 := Lib.hid (bt HBA.out hb2)
  have HO2 := Lib.hid ho2.brd
  have HBA2 := Lib.hid hb2
  clear ho2 hb2 c0 c1 c2 c3 c4 c5
  go_wp2_with fail
  refine (rseal_any a2 k2 D w2 HO2.out HSH.out).mono ?_
  rintro e wb ⟨sb, kb, rfl, hob, hbb⟩
  obtain ⟨gb, kb', hv, hgb, hgb'⟩ := World.ownsRow.form hob (by rw [HSL.out]; omega)
  obtain ⟨rfl, -, rfl⟩ : sb = some ⟨gb, 0, none⟩ ∧ True ∧ kb = kb' := by
    simp only [Value.slice.injEq] at hv
    exact ⟨hv.1, trivial, hv.2.2⟩
  obtain ⟨sb', kb2, hv2, hkb, -⟩ := (show OwnB wb w2.heap.size (.slice (some ⟨gb, 0, none⟩) 4096 kb) (sealB D) from hob).slice
  obtain ⟨-, -, rfl⟩ : True ∧ True ∧ kb = kb2 := by
    simp only [Value.slice.injEq] at hv2
    exact ⟨trivial, trivial, hv2.2.2⟩
  rw [HSL.out] at hkb
  have hkbI : (4096 : Int) ≤ (kb : Int) := by omega
  have hkbN : ¬ kb = 2048 := by omega
  have hkbL : 2048 ≤ kb := by omega
  clear hv2
  have HOB := Lib.hid hob
  have HXB := Lib.hid (HX2.out.below hbb)
  have HBB := Lib.hid (bt HB2.out hbb)
  have HBAB := Lib.hid (bt HBA2.out hbb)
  have HGB := Lib.hid hgb
  have HGB' := Lib.hid hgb'
  clear hob hbb hv hgb hgb'
  go_wp2_with fail
  refine (begun5_any wb).mono ?_
  rintro e w3 ⟨rfl, hb3⟩
  have HX3 := Lib.hid (HXB.out.below hb3)
  have HB3 := Lib.hid (bt HBB.out hb3)
  have HOA3 := Lib.hid (HOA.out.below (bt HBAB.out hb3))
  have HOB3 := Lib.hid (HOB.out.below hb3)
  have HS3 : Hid (wb.heap.size ≤ w3.heap.size) := hb3.size
  clear hb3
  go_wp2_with fail
  have HEA := Lib.hid (equal_at (w := w3) (W := w3) (c1 := ka) (c2 := kb) (HOA3.out.brdn HSL.out.symm) (HOB3.out.brdn HSL.out.symm) HSL.out.symm HSL.out.symm (Below.refl _ _))
  rw [beq_self_eq_true] at HEA
  refine HEA.out.mono ?_
  rintro e w' ⟨rfl, rfl⟩
  go_wp2_with fail
  refine (clone_any R rc r w3 (HR.out.below HB3.out) (by omega)).mono ?_
  rintro e w4 ⟨v4, rfl, ho4, hb4⟩
  have HB4 := Lib.hid (bt HB3.out hb4)
  obtain ⟨v5, w5, hr5, ho5, hb5'⟩ := run_zerI w4 23 w3.heap.size 4096 v4 r ho4 hb4.size (by omega)
  have hb5 : Below w3.heap.size w3 w5 := below_tr hb4 hb5'
  have hC5 := zeros_cut r
  have hlen5 : (r ++ List.replicate 4096 (0 : UInt8)).length = r.length + 4096 := by rw [List.length_append, List.length_replicate]
  obtain ⟨g5, k5, rfl, hg5, -⟩ := World.ownsRow.form ho5 (by rw [hlen5]; omega)
  obtain ⟨a', k', e', hk5, -⟩ := ho5.slice
  obtain ⟨rfl, -, rfl⟩ : some (⟨g5, 0, none⟩ : Addr) = a' ∧ True ∧ k5 = k' := by
    simp only [Value.slice.injEq] at e'
    exact ⟨e'.1, trivial, e'.2.2⟩
  have HC5 := Lib.hid (brd_take' ho5.brd 4096)
  have hk5' : 4096 ≤ k5 := by omega
  rw [hlen5] at hr5
  have hk5I : (4096 : Int) ≤ (k5 : Int) := by omega
  obtain ⟨N5, hN5⟩ : ∃ N5, N5 = r.length + 4096 := ⟨_, rfl⟩
  rw [← hN5] at hr5
  have h5I : (4096 : Int) ≤ (N5 : Int) := by omega
  have HB5 := Lib.hid (bt HB3.out hb5)
  have HRL : Hid (r.length ≤ 140737488351232) := hrl
  have HB35 := Lib.hid hb5
  have HG5 := Lib.hid hg5
  clear hg5
  have HC4 := Lib.hid hC5
  generalize (r ++ List.replicate 4096 (0 : UInt8)).take 4096 = C at *
  clear ho4 hb4 hb5' ho5 hb5 e' hk5 hlen5 hN5 hC5
  go_wp2_with (at_builtin; refine wpList_run2 rfl _ _ rfl hr5 rfl rfl rfl ?_; clear hr5; refine Hid.out ?_)
  refine Lib.hid ?_
  obtain ⟨w6, kc, hcp, ho6, hf6⟩ := own_copyT ((HOB3.out.below HB35.out).low (Nat.zero_le _)) HSL.out.symm (by omega) (HR.out.below HB5.out) 2048 (by omega)
  have hcp1 := hcp 3 (kb - 2048) rc 2048 rfl
  have hs2 := HGB.out
  have hX2 := HX2.out.1
  have hwq : w.heap.size ≤ gb := by omega
  have HB6 := Lib.hid (below_tr HB5.out (hf6.below (B := w.heap.size) (fun k hk => by rw [show k = gb from hk]; exact hwq) HB5.out.size))
  have HP6 := Lib.hid (ho6.brdn (by rw [copyB_len _ _ _ (by have := HSL.out; omega)]; exact HSL.out.symm))
  have HPL : Hid (4096 = (copyB (sealB D) r 2048).length) := by show _ = _; rw [copyB_len _ _ _ (by have := HSL.out; omega)]; exact HSL.out.symm
  have HA6 := Lib.hid (((HOA3.out.brdn HSL.out.symm).below HB35.out).fr' hf6 fun h0 a ha hk => by
    obtain ⟨g', o', e', hl', _⟩ := (HOA.out.brdn HSL.out.symm) h0
    rw [ha] at e'
    obtain rfl := Option.some.inj e'
    have h1 : g' = gb := hk
    have h2 := HBA2.out.size
    omega)
  have HC6 := Lib.hid (HC5.out.fr' hf6 fun h0 a ha hk => by
    cases ha
    have h1 : g5 = gb := hk
    have h2 := HG5.out
    have h3 := HS3.out
    have h4 := HGB'.out
    omega)
  have HX6 := Lib.hid (((HX3.out.below HB35.out)).fr hf6 (fun hk => by have h1 : w.heap.size = gb := hk; omega))
  clear hcp ho6 hf6
  go_wp2_with fail
  have HUS := Lib.hid (unseal_seal D HSH.out)
  generalize copyB (sealB D) r 2048 = P at *
  refine (unseal_any (some ⟨gb, 0, none⟩) kb 4096 P w6 HP6.out HPL.out (by omega)).mono ?_
  obtain ⟨z, hz⟩ : ∃ z, z = unsealV P := ⟨_, rfl⟩
  rw [← hz]
  rintro e w7 ⟨a7, n7, k7, rfl, hn7, hr7, hb7⟩
  have HN7 := Lib.hid hn7
  have HR7 := Lib.hid hr7
  have HP7 := Lib.hid (HP6.out.below hb7)
  have HA7 := Lib.hid (HA6.out.below hb7)
  have HC7 := Lib.hid (HC6.out.below hb7)
  have HX7 := Lib.hid (HX6.out.below hb7)
  have HB7 := Lib.hid (bt HB6.out hb7)
  have HZ := Lib.hid hz
  clear hn7 hr7 hb7 hz
  go_wp2_with fail
  refine (runseal_any (some ⟨gb, 0, none⟩) kb 4096 P w7 HP7.out HPL.out (by omega)).mono ?_
  rw [← HZ.out]
  rintro e w8 ⟨a8, n8, k8, rfl, hn8, hr8, hb8⟩
  have HN8 := Lib.hid hn8
  have HR8 := Lib.hid hr8
  have HR78 := Lib.hid (HR7.out.below hb8)
  have HA8 := Lib.hid (HA7.out.below hb8)
  have HC8 := Lib.hid (HC7.out.below hb8)
  have HX8 := Lib.hid (HX7.out.below hb8)
  have HB8 := Lib.hid (bt HB7.out hb8)
  clear hn8 hr8 hb8
  go_wp2_with fail
  have HKA : Hid (4096 ≤ ka) := HKA0
  refine (unseal_any sa ka 4096 (sealB D) w8 HA8.out HSL.out.symm HKA.out).mono ?_
  rw [HUS.out]
  rintro e w9 ⟨a9, n9, k9, rfl, hn9, hr9, hb9⟩
  have HN9 := Lib.hid hn9
  have HR9 := Lib.hid hr9
  have HC9 := Lib.hid (HC8.out.below hb9)
  have HX9 := Lib.hid (HX8.out.below hb9)
  have HB9 := Lib.hid (bt HB8.out hb9)
  have HE9 := Lib.hid (equal_at (w := w9) (W := w9) (c1 := k7) (c2 := k8) (HR78.out.below hb9) (HR8.out.below hb9) HN7.out HN8.out (Below.refl _ _))
  rw [beq_self_eq_true] at HE9
  clear hn9 hr9 hb9
  go_wp2_with fail
  refine HE9.out.mono ?_
  rintro e w' ⟨rfl, rfl⟩
  obtain ⟨-, c0, c1, c2, c3, c4, c5⟩ := HX9.out
  go_wp2_with fail
  refine (HDA.out _ HB9.out).mono ?_
  rintro e w10 ⟨v10, rfl, ho10, hb10⟩
  obtain ⟨a10, k10, rfl, -, -⟩ := ho10.slice
  have HC10 := Lib.hid (HC9.out.below hb10)
  have HB10 := Lib.hid (bt HB9.out hb10)
  have HE10 := Lib.hid (equal_at (w := w10) (W := w10) (c1 := k9) (c2 := k10) (HR9.out.below hb10) ho10.brd HN9.out rfl (Below.refl _ _))
  rw [beq_self_eq_true] at HE10
  clear ho10 hb10 c0 c1 c2 c3 c4 c5
  go_wp2_with fail
  refine HE10.out.mono ?_
  rintro e w' ⟨rfl, rfl⟩
  go_wp2_with fail
  have HUA : Hid (decide ((unsealV r).2 = 1) = decide (r.length ≠ 4096)) := unseal_arg r
  obtain ⟨x, hx⟩ : ∃ x, x = unsealV C := ⟨_, rfl⟩
  have HU11 := Lib.hid (unseal_any (some ⟨g5, 0, none⟩) k5 4096 C w10 HC10.out HC4.out.symm hk5')
  have HU12 : Hid (∀ W, Below w10.heap.size w10 W → Calls Try.prog 18 #[.slice (some ⟨g5, 0, none⟩) 4096 k5] W (RRead (unsealV C) W)) := fun W hW => runseal_any (some ⟨g5, 0, none⟩) k5 4096 C W (HC10.out.below hW) HC4.out.symm hk5'
  have HU13 : Hid (∀ W, Below w.heap.size w W → Calls Try.prog 17 #[.slice R r.length rc] W (RRead (unsealV r) W)) := fun W hW => unseal_any R rc r.length r W (HR.out.below hW) rfl HRC.out
  rw [← hx] at HU11 HU12
  generalize unsealV r = y at *
  clear hx
  refine HU11.out.mono ?_
  rintro e w11 ⟨a11, n11, k11, rfl, hn11, hr11, hb11⟩
  have HN11 := Lib.hid hn11
  have HR11 := Lib.hid hr11
  have HB1011 := Lib.hid hb11
  have HB11 := Lib.hid (bt HB10.out hb11)
  clear hn11 hr11 hb11
  go_wp2_with fail
  refine (HU12.out w11 HB1011.out).mono ?_
  rintro e w12 ⟨a12, n12, k12, rfl, hn12, hr12, hb12⟩
  have HEQV : Hid (∀ W, Below w12.heap.size w12 W → Calls Try.prog 15 #[.slice a11 n11 k11, .slice a12 n12 k12] W fun e w' => e = .returned (.bool true) ∧ W = w') := fun W hW => by
    have h := equal_at (w := w12) (W := W) (c1 := k11) (c2 := k12) (HR11.out.below hb12) hr12 HN11.out hn12 hW
    rw [beq_self_eq_true] at h
    exact h
  have HB1112 := Lib.hid hb12
  have HB12 := Lib.hid (bt HB11.out hb12)
  clear hn12 hr12 hb12
  go_wp2_with fail
  refine (HU13.out w12 HB12.out).mono ?_
  rintro e w13 ⟨a13, n13, k13, rfl, hn13, hr13, hb13⟩
  have HB13 := Lib.hid (bt HB12.out hb13)
  have HEQ13 : Hid (Calls Try.prog 15 #[.slice a11 n11 k11, .slice a12 n12 k12] w13 fun e w' => e = .returned (.bool true) ∧ w13 = w') := HEQV.out w13 hb13
  clear hn13 hr13 hb13
  go_wp2_with fail
  refine HEQ13.out.mono ?_
  rintro e w' ⟨rfl, rfl⟩
  by_cases h4 : r.length = 4096
  · have h4I : (r.length : Int) = 4096 := by omega
    have hy1 : ¬ y.2 = 1 := fun h => by have := HUA.out; rw [h4] at this; simp [h] at this
    generalize y.2 = yi at *
    clear h4
    go_wp2_with fail
    go_ret
    exact ⟨ret_bool (by simp [hy1]), HB13.out⟩
  · have h4I : ¬ (r.length : Int) = 4096 := by omega
    have hy1 : y.2 = 1 := by have := HUA.out; simpa [h4] using this
    rw [hy1]
    clear h4 hy1
    go_wp2_with fail
    go_ret
    exact ⟨ret_bool (by simp [h4I]), HB13.out⟩

end

section

open Go.ChangeShapes Go.WideShapes Go.ChangeAt Go.RowKit Go.Deep
set_option linter.unusedVariables false

theorem pagerSeals_walk (d n : Int) (m : Nat) (La A Ka R : Option Addr) (Ln Lc c Kn Kc rc : Nat) (l r : List UInt8) (w : World) (hA : BRd w A l) (hl : l.length ≤ 140737488351232) (hR : BRd w R r) (hr : r.length ≤ 140737488351232) (hrc : r.length ≤ rc) :
    Calls Try.prog 3 #[.agg #[.int .i64 d, .int .i64 n, .slice La Ln Lc, .slice A l.length c, .int .u16 m, .slice Ka Kn Kc], .slice R r.length rc] w fun e w' => e = .returned (.bool true) ∧ Below w.heap.size w w' := by
  by_cases h : 4090 < (dataB l m).length
  · exact pagerSeals_long d n m La A Ka R Ln Lc c Kn Kc rc l r w hA hl hR hr hrc h
  · exact pagerSeals_short d n m La A Ka R Ln Lc c Kn Kc rc l r w hA hl hR hr hrc (by omega)

set_option maxRecDepth 100000 in
theorem pagerSeals_lifted (os : Os) (started : os.Started) (H : Type) (enc : TypeId × Value → H) :
    ReturnsInHanded {} Try.checked os 3 .any (Rows.pagerSealsSpec.pre6 enc Try.prog Try.f3 Rows.pagerSealsRow.domain false) (Rows.pagerSealsSpec.post enc Try.prog Try.f3 false true false false) := by
  refine returnsInHanded_of_change_sized (C := Try.checked) own started (by kernel_rfl) Try.func3
    (ChangeSpec.witness6 (enc := enc) (C := Try.checked) false ⟨#[], #[.agg #[.int .i64 0, .int .i64 0, .slice none 0 0, .slice none 0 0, .int .u16 0, .slice none 0 0], .slice none 0 0], []⟩ 8 (by kernel_rfl) (by kernel_rfl) (by kernel_rfl) (by kernel_rfl)) ?_
  intro W base args ds gs before hval0 hW _ hsz _
  have hval : ∀ (j : Nat) t v, Try.f3.params[j]? = some t → args[j]? = some v → Value.okWide Try.prog W .any base t v := hval0
  have hW' := hW
  obtain ⟨p, q, hA0, hV, rfl, hfz, hnd⟩ := hW
  have hA : DataW.TrodAll enc Try.prog W 0 (fun _ => true) true Try.f3.params.toList args.toList ds p := hA0
  rw [Try.params3] at hA hval
  obtain ⟨v0, vs0, d0, ds0, p0, q0, hargs, rfl, rfl, h0, r0⟩ := trodAll_cons hA
  obtain ⟨v1, vs1, d1, ds1, p1, q1, rfl, rfl, rfl, h1, r1⟩ := trodAll_cons r0
  obtain ⟨rfl, rfl, rfl⟩ := trodAll_nil r1
  obtain rfl : args = #[v0, v1] := by cases args; simp_all
  obtain ⟨rfl, rfl⟩ := trodVars_none hV
  simp only [List.append_nil] at hW'
  have hlt0 : ∀ x ∈ p0, x.block < W.heap.size := fun x hx => hW'.lt x (by simp [hx])
  have hlt1 : ∀ x ∈ p1, x.block < W.heap.size := fun x hx => hW'.lt x (by simp [hx])
  have hreach : reachBytes ≤ 140737488351232 := by decide
  obtain ⟨o, rfl, rd0, sy0⟩ := open_op5 (hval 0 27 v0 rfl rfl) h0
  have b0 : o.b.length ≤ reachBytes := by
    rcases sy0.weightB with h0 | ⟨n, hn, hle⟩
    · rw [h0]; exact Nat.zero_le _
    · have := List.all_eq_true.1 hsz _ (DataW.weights_mem_each (j := 0) (t := 27) rfl rfl _ hn)
      have : n ≤ reachBytes := by simpa using this
      omega
  obtain ⟨A1, cap1, raw, rfl, hR1, hc1, hn1, hd1⟩ := open_bytes (hval 1 23 v1 rfl rfl) h1
  have b1 : raw.length ≤ reachBytes := by
    rcases hd1 with h0 | ⟨el, sp, e, he⟩
    · rw [h0]; simp
    · have hs : (el.length + sp.length) * Try.prog.bytesOf 5 ≤ reachBytes := sized_slice hsz (j := 1) (t := 23) (e := 5) rfl (by rw [e]; rfl) Try.underlying23
      rw [show Try.prog.bytesOf 5 = 1 by kernel_rfl] at hs
      omega
  clear hA0 hval0
  refine (pagerSeals_walk o.d o.n o.m o.L o.A o.K A1 o.l.length o.lc o.ac o.ks.length o.kc cap1 o.b raw W rd0.b (by omega) hR1 (by omega) hc1).mono fun e W' ⟨he, hg⟩ => ?_
  subst he
  have hpost : Rows.pagerSealsSpec.post enc Try.prog Try.f3 false true false false W _ _ W' := post_of_below (pa := p0 ++ (p1 ++ [])) (pv := []) hW' (fun _ _ _ => (trodAll_cons_mk (shut_bool Try.underlying4 _) trodAll_mk0)) (fun sp hsp => (trodAll_cons_mk (WideElems.Trod_stays laidOut (by kernel_rfl) (of_decide_eq_true (by kernel_rfl)) h0 (fun x hx => hg.same (hlt0 x hx)) (fun x hx => hsp x (by simp [hx]))) (trodAll_cons_mk (WideElems.Trod_stays laidOut (by kernel_rfl) (of_decide_eq_true (by kernel_rfl)) h1 (fun x hx => hg.same (hlt1 x hx)) (fun x hx => hsp x (by simp [hx]))) trodAll_mk0))) (fun _ _ => rfl) (by simp) hg (ok_one (by kernel_rfl) rfl (okWide_bool_mk Try.underlying4 _))
  exact ⟨_, rfl, hpost⟩

theorem pagerSeals_holds : Rows.PagerSealsSaid :=
  OpenClaim.holds_of_wide 3 Try.f3 rfl rfl rfl rfl rfl rfl rfl ⟨rfl, rfl, rfl, rfl, rfl⟩ rfl rfl rfl rfl rfl (by kernel_rfl) Try.func3 (by kernel_rfl)
    (of_decide_eq_true (by kernel_rfl)) (by unfold Func.isWrapper; first | (rw [if_pos (by decide +kernel)]; kernel_rfl) | (rw [if_neg (by decide +kernel)]; exact ⟨rfl, rfl⟩))
    (fun os started H enc _ => pagerSeals_lifted os started H enc)

end
end Go.Proofs.Ytellmmgiabfacaa
