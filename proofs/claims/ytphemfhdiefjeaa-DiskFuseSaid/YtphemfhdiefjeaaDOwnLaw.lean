/-
  DiskOwn: what is handed in is left as it is, and what is answered is nobody's else. No condition beyond the form's own.
-/
import Derived.Test.YtphemfhdiefjeaaDOpen
import Derived.Test.YtphemfhdiefjeaaDMath2
import Derived.Laws.OwnMore
namespace Go.Proofs.Ytphemfhdiefjeaa
open Go.ChangeShapes Go.WideShapes Go.ChangeAt Go.RowKit Go.Deep
set_option linter.unusedVariables false

/-- A slice of the call's own, of whatever bytes. -/
def Any8 (w : World) (B n cap : Nat) (a : Option Addr) : Prop := ∃ xs : List Value, w.ownsRow B 5 1 (.slice a n cap) n xs ∧ ∀ x ∈ xs, ∃ z, x = .int .u8 z
theorem OwnB.any8 {w : World} {B n cap : Nat} {a : Option Addr} {l : List UInt8} (h : OwnB w B (.slice a n cap) l) (hn : n = l.length) : Any8 w B n cap a := by
  subst hn
  exact ⟨_, h, fun x hx => by simp [Lib.byteCells] at hx; obtain ⟨c, _, rfl⟩ := hx; exact ⟨_, rfl⟩⟩
theorem Any8.at {w : World} {B n cap : Nat} {a : Option Addr} (h : Any8 w B n cap a) (i : Nat) (hi : i < n) : ∃ g z, a = some ⟨g, 0, none⟩ ∧ B ≤ g ∧ w.cell? ⟨g, i, none⟩ = some (.int .u8 z) ∧ w.frozen? ⟨g, i, none⟩ = false ∧ ∀ z', Any8 (w.setCell ⟨g, i, none⟩ (.int .u8 z')) B n cap a := by
  obtain ⟨xs, h1, h2⟩ := h
  obtain ⟨g, cap', hv, hb, hg⟩ := World.ownsRow.form h1 (by omega)
  obtain ⟨rfl, rfl⟩ : a = some ⟨g, 0, none⟩ ∧ cap = cap' := by simpa using hv
  have hl : xs.length = n := by have := h1.1; omega
  obtain ⟨z, hz⟩ := h2 xs[i] (List.getElem_mem (by omega))
  have hc := World.ownsRow.cells h1 (g := g) rfl i xs[i] (List.getElem?_eq_getElem (by omega))
  rw [Go.WideShapes.add_plain, Nat.zero_add, hz] at hc
  refine ⟨g, z, rfl, hb, hc, World.ownsRow.frozenAt h1 i, fun z' => ⟨_, (World.ownsRow.stored h1 i (.int .u8 z')).1, fun x hx => ?_⟩⟩
  rcases List.mem_or_eq_of_mem_set hx with hx | rfl
  · exact h2 x hx
  · exact ⟨_, rfl⟩
theorem Any8.same {w w' : World} {B n cap : Nat} {a : Option Addr} (h : Any8 w B n cap a) (hs : ∀ k, k < w.heap.size → (Value.slice a n cap).ownBlock = some k → w'.heap[k]? = w.heap[k]?) : Any8 w' B n cap a := by
  obtain ⟨xs, h1, h2⟩ := h
  exact ⟨xs, ownsRow_same h1 hs, h2⟩
theorem own_write (l : List UInt8) (hl : l.length ≤ 2000) : (St.new.write 0 0 l).2 = 0 ∧ (St.new.write 0 0 l).1.read 0 0 2000 = (l, 0) := by
  have h := write_plain (s := St.new) 0 0 l (.inl rfl) rfl rfl (by omega)
  have h' : St.new.write 0 0 l = _ := h
  rw [h']
  refine ⟨rfl, ?_⟩
  have hnow := now_write (s := St.new) 0 0 l (next64 St.new.calls)
  have h0 : St.new.now 0 = [] := rfl
  obtain ⟨h1, h2⟩ := foldF_parts 0 l.length 0 l [] (Nat.le_refl _)
  have hx : foldF 0 (parts 0 0 l) [] = l := eq_of_getD (by rw [h1]; split <;> simp <;> omega) fun i hi => by
    rw [h2 i]
    split
    · rfl
    · next hn =>
      rw [getD_none (a := l) (by omega)]
      rfl
  unfold St.read
  rw [if_neg (by show ¬ (0 : Int) ≠ 0; omega), if_neg (by omega)]
  show ((List.drop 0 (St.now _ 0)).take 2000, (0 : Int)) = (l, 0)
  rw [hnow, h0, hx, List.drop_zero, List.take_of_length_le hl]
/-- A disk behind w0; the blocks of X it does not read. -/
def AtX (w0 w : World) (g : Nat) (s : St) (X : Nat → Prop) : Prop := ∃ v pc qs kp, DSt w g v pc qs kp s ∧ (∀ k, DF g v pc k → w0.heap.size ≤ k) ∧ Below w0.heap.size w0 w ∧ ∀ k, X k → ¬ DR g v pc qs kp k
theorem AtX.at {w0 w : World} {g : Nat} {s : St} {X : Nat → Prop} (h : AtX w0 w g s X) : At w0 w g s := by
  obtain ⟨v, pc, qs, kp, h1, h2, h3, _⟩ := h
  exact ⟨v, pc, qs, kp, h1, h2, h3⟩
theorem At.x {w0 w w' : World} {g : Nat} {s : St} (h : At w0 w g s) (hb : Below w.heap.size w w') : AtX w0 w' g s (fun k => w.heap.size ≤ k) := by
  obtain ⟨v, pc, qs, kp, h1, h2, h3⟩ := h
  exact ⟨v, pc, qs, kp, h1.below hb, h2, bt h3 hb, fun k hk hd => by
    have := h1.core.lt (Array.getElem?_eq_some_iff.1 h1.box).1 k hd
    omega⟩
theorem AtX.turned {w0 w w' : World} {g : Nat} {v : Nat → Value} {pc : Value} {qs : List PV} {kp : Value} {x : St × Int} {e : Ending} {X : Nat → Prop} (hF : ∀ k, DF g v pc k → w0.heap.size ≤ k) (hb : Below w0.heap.size w0 w) (hX : ∀ k, X k → ¬ DR g v pc qs kp k) (h : Turned w g v pc qs kp x e w') : e = .returned (.int .i64 x.2) ∧ AtX w0 w' g x.1 (fun k => X k ∧ k < w.heap.size) ∧ Fr (DF g v pc) w w' := by
  obtain ⟨he, v', pc', qs', kp', hd, hr⟩ := h
  refine ⟨he, ⟨v', pc', qs', kp', hd, fun k hk => ?_, below_tr hb (hr.turn.fr.below hF hb.size), fun k hk hd' => hX k hk.1 (hr.newR k hk.2 hd')⟩, hr.turn.fr⟩
  by_cases hkw : k < w.heap.size
  · exact hF k (hr.turn.new k hkw hk)
  · have := hb.size
    omega
theorem AtX.fr {w0 w w' : World} {g : Nat} {s : St} {X G : Nat → Prop} (h : AtX w0 w g s X) (hf : Fr G w w') (hG : ∀ k, k < w.heap.size → G k → X k ∧ w0.heap.size ≤ k) : AtX w0 w' g s X := by
  obtain ⟨v, pc, qs, kp, h1, h2, h3, h4⟩ := h
  refine ⟨v, pc, qs, kp, h1.same hf.size fun k hk hd => hf.block k hk fun hg => h4 k (hG k hk hg).1 hd, h2, below_tr h3 ⟨hf.os, hf.tape, hf.output, hf.size, fun k hk => hf.block k (Nat.lt_of_lt_of_le hk h3.size) fun hg => ?_⟩, h4⟩
  have := (hG k (Nat.lt_of_lt_of_le hk h3.size) hg).2
  omega
theorem writeX {w0 w : World} {g : Nat} {s : St} {X : Nat → Prop} (f k : Int) (A : Option Addr) (c n : Nat) (b : List UInt8) (h : AtX w0 w g s X) (hA : BRd w A b) (hn : n = b.length) (hb : b.length ≤ 140737488355328) (hlim : s.pcs.length + 4194304 ≤ 8000000000000) :
    Calls Try.prog 19 #[.pointer (some ⟨g, 0, none⟩), .int .i64 f, .int .i64 k, .slice A n c] w fun e w' => e = .returned (.int .i64 (s.write f k b).2) ∧ AtX w0 w' g (s.write f k b).1 (fun k => X k ∧ k < w.heap.size) ∧ ∀ k, k < w.heap.size → X k → w'.heap[k]? = w.heap[k]? := by
  subst hn
  obtain ⟨v, pc, qs, kp, hd, hF, h0, hX⟩ := h
  have hq : s.pcs.length = qs.length := by rw [hd.names, List.length_map]
  refine (write_any g f k A c b w v pc qs kp s hd hA hb (by omega)).mono fun e w' h => ?_
  obtain ⟨h1, h2, h3⟩ := AtX.turned hF h0 hX h
  exact ⟨h1, h2, fun k hk hx => h3.block k hk fun hf => hX k hx (.inl hf)⟩
theorem min2000 (n : Nat) : min (n : Int) 2000 = ((min n 2000 : Nat) : Int) := by omega

set_option maxHeartbeats 12800000 in
set_option maxRecDepth 100000 in
theorem diskOwn_walk (A : Option Addr) (c : Nat) (b : List UInt8) (K : Value) (w : World) (hR : BRd w A b) (hbc : b.length ≤ c) (hl : b.length ≤ 140737488351232) :
    Calls Try.prog 8 #[.slice A b.length c, K] w fun e w' => e = .returned (.bool true) ∧ Below w.heap.size w w' := by
  obtain ⟨m, hm⟩ : ∃ m, m = min b.length 2000 := ⟨_, rfl⟩
  obtain ⟨l, hlb⟩ : ∃ l, l = b.take m := ⟨_, rfl⟩
  have hlm : l.length = m := by rw [hlb]; simp; omega
  have hR' : BRd w A l := fun h0 => by
    obtain ⟨g, off, rfl, hg, hc⟩ := hR (by rw [hlb] at h0; simp at h0; omega)
    refine ⟨g, off, rfl, hg, fun i hi => ?_⟩
    rw [hc i (by rw [hlb] at hi; simp at hi; omega)]
    simp [hlb]
  have hmI : min (b.length : Int) 2000 = (m : Int) := by rw [hm]; omega
  have hmc : m ≤ c := by omega
  have hm2 : m ≤ 2000 := by omega
  have HR := Lib.hid (fun (W : World) (h : Below w.heap.size w W) => hR'.below h)
  have HN := Lib.hid (new_at w w (Below.refl _ _))
  have HW := Lib.hid (own_write l (by omega))
  have HLM := Lib.hid hlm
  clear hR hR' hm hlb hlm
  go_enter Try.func8, Try.ntmps8
  go_wp2_with fail
  refine HN.out.mono ?_
  rintro e w1 ⟨g, rfl, h1⟩
  have H1 := Lib.hid h1
  clear h1
  go_wp2_with fail
  refine (begun_any _).mono ?_
  rintro e w2 ⟨rfl, h2⟩
  have H2 := Lib.hid (H1.out.below h2)
  clear h2
  have HC := Lib.hid (clone_any A c l w2 (HR.out _ H2.out.bel) (by have := HLM.out; omega))
  rw [HLM.out] at HC
  go_wp2_with fail
  refine HC.out.mono ?_
  rintro e w3 ⟨v3, rfl, ho3, hb3⟩
  obtain ⟨a3, k3, rfl, -, -⟩ := ho3.slice
  have X3 := Lib.hid (H2.out.x hb3)
  have O3 := Lib.hid ho3
  clear hb3 ho3
  rw [HLM.out]
  go_wp2_with fail
  refine (writeX 0 0 a3 k3 m l X3.out O3.out.brd HLM.out.symm (by have := HLM.out; omega) (by show 0 + 4194304 ≤ _; omega)).mono ?_
  rintro e w4 ⟨he, h4, hk4⟩
  rw [HW.out.1] at he
  subst he
  have HLMm : Hid (m = l.length) := HLM.out.symm
  have A4 : Hid (Any8 w4 w2.heap.size m k3 a3) := by
    show Any8 _ _ _ _ _
    have h5 := O3.out.any8 rfl
    rw [HLM.out] at h5
    exact h5.same fun k hk he => hk4 k hk (O3.out.lt k (by
      cases a3 with
      | none => simp [Value.ownBlock] at he
      | some x => simpa [Value.ownBlock] using he)).1
  have X4 := Lib.hid h4
  clear h4 hk4
  go_wp2_with fail
  go_loopw [33] (fun idx wr => ∃ i : Nat, i ≤ m ∧ idx = .int .i64 i ∧ Any8 wr w2.heap.size m k3 a3 ∧ Fr (fun k => w2.heap.size ≤ k ∧ k < w3.heap.size) w4 wr) (fun idx _ => m - (intOf idx).toNat)
  case atStart => exact ⟨0, by omega, rfl, A4.out, Fr.refl _ _⟩
  case round =>
    obtain ⟨i, hi, rfl, hany, hbw⟩ := hrel
    have HBW := Lib.hid hbw
    clear hbw
    by_cases hin : i < m
    · obtain ⟨g3, z, rfl, hgB, hc, hf, hst⟩ := hany.at i hin
      have HST := Lib.hid hst
      have x0 : (0 : Int) ≤ (i : Int) := by omega
      have x1 : (i : Int) < (m : Int) := by omega
      have hgl : g3 < wr.heap.size := World.block_lt_of_cell? _ _ hc
      have HG3 : Hid (g3 < w3.heap.size) := (O3.out.lt g3 rfl).2
      clear hany hst
      go_wp2_with fail
      go_roundw
      case rel => exact ⟨i + 1, by omega, by go_num, HST.out _, HBW.out.trans (Fr.set _ _ _ _ ⟨hgB, HG3.out⟩)⟩
      case measure => simp [intOf]; omega
    · obtain rfl : i = m := by omega
      have hinI : ¬ ((i : Int) < (i : Int)) := by omega
      clear hany
      rename World => WA
      have HA : Hid (At w WA g (St.new.write 0 0 l).1) := (X4.out.fr HBW.out fun k _ hk => ⟨hk, by have := H2.out.bel.size; omega⟩).at
      have HRA := Lib.hid (read_at 0 0 2000 HA.out)
      rw [HW.out.2] at HRA
      clear hi hin hinI HBW X4 A4
      go_wp2_with fail
      refine HRA.out.mono ?_
      rintro e w5 ⟨v5, rfl, ho5, hb5⟩
      obtain ⟨a5, k5, rfl, -, -⟩ := ho5.slice
      have A5 : Hid (Any8 w5 WA.heap.size i k5 a5) := by show Any8 _ _ _ _ _; have := ho5.any8 rfl; rw [HLM.out] at this; exact this
      have B5 := Lib.hid hb5
      simp only [HLM.out]
      clear ho5 hb5 HRA
      go_wp2_with fail
      go_loopw [50] (fun idx wr => ∃ j : Nat, j ≤ i ∧ idx = .int .i64 j ∧ Any8 wr WA.heap.size i k5 a5 ∧ Below WA.heap.size WA wr) (fun idx _ => i - (intOf idx).toNat)
      case atStart => exact ⟨0, by omega, rfl, A5.out, B5.out⟩
      case round =>
        obtain ⟨j, hj, rfl, hany, hbw⟩ := hrel
        have HBW := Lib.hid hbw
        clear hbw
        by_cases hin : j < i
        · obtain ⟨g3, z, rfl, hgB, hc, hf, hst⟩ := hany.at j hin
          have HST := Lib.hid hst
          have x0 : (0 : Int) ≤ (j : Int) := by omega
          have x1 : (j : Int) < (i : Int) := by omega
          have hgl : g3 < wr.heap.size := World.block_lt_of_cell? _ _ hc
          clear hany hst
          go_wp2_with fail
          go_roundw
          case rel => exact ⟨j + 1, by omega, by go_num, HST.out _, HBW.out.setCell hgB _⟩
          case measure => simp [intOf]; omega
        · obtain rfl : j = i := by omega
          have hinI : ¬ ((j : Int) < (j : Int)) := by omega
          clear hany
          rename World => WB
          have HB := Lib.hid (HA.out.below HBW.out)
          have HRB := Lib.hid (read_at 0 0 2000 HB.out)
          rw [HW.out.2] at HRB
          clear hj hin hinI
          go_wp2_with fail
          refine HRB.out.mono ?_
          rintro e w7 ⟨v7, rfl, ho7, hb7⟩
          obtain ⟨a7, k7, rfl, -, -⟩ := ho7.slice
          have R7 := Lib.hid ho7.brd
          have H7 := Lib.hid (HB.out.below hb7)
          clear ho7 hb7 HRB
          simp only [HLM.out]
          have HEQ := Lib.hid (equal_any a7 A k7 c l l w7 R7.out (HR.out _ H7.out.bel))
          rw [HLM.out] at HEQ
          go_wp2_with fail
          refine HEQ.out.mono ?_
          rintro e w' ⟨rfl, rfl⟩
          go_wp2_with fail
          go_ret
          exact ⟨ret_bool (by simp), H7.out.bel⟩

set_option maxRecDepth 100000 in
theorem diskOwn_lifted (os : Os) (started : os.Started) (H : Type) (enc : TypeId × Value → H) :
    ReturnsInHanded {} Try.checked os 8 .any (Rows.diskOwnSpec.pre6 enc Try.prog Try.f8 Rows.diskOwnRow.domain false) (Rows.diskOwnSpec.post enc Try.prog Try.f8 false true false false) := by
  refine returnsInHanded_of_change_sized (C := Try.checked) own started (by kernel_rfl) Try.func8
    (ChangeSpec.witness6 (enc := enc) (C := Try.checked) false ⟨#[], #[.slice none 0 0, .slice none 0 0], []⟩ 8 (by kernel_rfl) (by kernel_rfl) (by kernel_rfl) (by kernel_rfl)) ?_
  intro W base args ds gs before hval0 hW _ hsz _
  have hval : ∀ (j : Nat) t v, Try.f8.params[j]? = some t → args[j]? = some v → Value.okWide Try.prog W .any base t v := hval0
  have hW' := hW
  obtain ⟨p, q, hA0, hV, rfl, hfz, hnd⟩ := hW
  have hA : DataW.TrodAll enc Try.prog W 0 (fun _ => true) true Try.f8.params.toList args.toList ds p := hA0
  rw [Try.params8] at hA hval
  obtain ⟨v0, vs0, d0, ds0, p0, q0, hargs, rfl, rfl, h0, r0⟩ := trodAll_cons hA
  obtain ⟨v1, vs1, d1, ds1, p1, q1, rfl, rfl, rfl, h1, r1⟩ := trodAll_cons r0
  obtain ⟨rfl, rfl, rfl⟩ := trodAll_nil r1
  obtain rfl : args = #[v0, v1] := by cases args; simp_all
  obtain ⟨rfl, rfl⟩ := trodVars_none hV
  simp only [List.append_nil] at hW'
  have hlt0 : ∀ x ∈ p0, x.block < W.heap.size := fun x hx => hW'.lt x (by simp [hx])
  have hlt1 : ∀ x ∈ p1, x.block < W.heap.size := fun x hx => hW'.lt x (by simp [hx])
  have hreach : reachBytes ≤ 140737488351232 := by decide
  obtain ⟨A0, cap0, b, rfl, hR0, hc0, hn0, hd0⟩ := open_bytes (hval 0 28 v0 rfl rfl) h0
  have b0 : b.length ≤ reachBytes := by
    rcases hd0 with h0 | ⟨el, sp, e, he⟩
    · rw [h0]; simp
    · have hs : (el.length + sp.length) * Try.prog.bytesOf 5 ≤ reachBytes := sized_slice hsz (j := 0) (t := 28) (e := 5) rfl (by rw [e]; rfl) Try.underlying28
      rw [show Try.prog.bytesOf 5 = 1 by kernel_rfl] at hs
      omega
  obtain ⟨A1, cap1, ks, rfl, hR1, hc1, hn1, hd1⟩ := open_bools_ (hval 1 29 v1 rfl rfl) h1
  have b1 : ks.length ≤ reachBytes := by
    rcases hd1 with h0 | ⟨el, sp, e, he⟩
    · rw [h0]; simp
    · have hs : (el.length + sp.length) * Try.prog.bytesOf 4 ≤ reachBytes := sized_slice hsz (j := 1) (t := 29) (e := 4) rfl (by rw [e]; rfl) Try.underlying29
      rw [show Try.prog.bytesOf 4 = 1 by kernel_rfl] at hs
      omega
  clear hA0 hval0
  refine (diskOwn_walk A0 cap0 b _ W hR0 hc0 (by omega)).mono fun e W' ⟨he, hg⟩ => ?_
  subst he
  have hpost : Rows.diskOwnSpec.post enc Try.prog Try.f8 false true false false W _ _ W' := post_of_below (pa := p0 ++ (p1 ++ [])) (pv := []) hW' (fun _ _ _ => (trodAll_cons_mk (shut_bool Try.underlying4 _) trodAll_mk0)) (fun sp hsp => (trodAll_cons_mk (WideElems.Trod_stays laidOut (by kernel_rfl) (of_decide_eq_true (by kernel_rfl)) h0 (fun x hx => hg.same (hlt0 x hx)) (fun x hx => hsp x (by simp [hx]))) (trodAll_cons_mk (WideElems.Trod_stays laidOut (by kernel_rfl) (of_decide_eq_true (by kernel_rfl)) h1 (fun x hx => hg.same (hlt1 x hx)) (fun x hx => hsp x (by simp [hx]))) trodAll_mk0))) (fun _ _ => rfl) (by simp) hg (ok_one (by kernel_rfl) rfl (okWide_bool_mk Try.underlying4 _))
  exact ⟨_, rfl, hpost⟩

theorem diskOwn_holds : Rows.DiskOwnSaid :=
  OpenClaim.holds_of_wide 8 Try.f8 rfl rfl rfl rfl rfl rfl rfl ⟨rfl, rfl, rfl, rfl, rfl⟩ rfl rfl rfl rfl rfl (by kernel_rfl) Try.func8 (by kernel_rfl)
    (of_decide_eq_true (by kernel_rfl)) (by unfold Func.isWrapper; first | (rw [if_pos (by decide +kernel)]; kernel_rfl) | (rw [if_neg (by decide +kernel)]; exact ⟨rfl, rfl⟩))
    (fun os started H enc _ => diskOwn_lifted os started H enc)
end Go.Proofs.Ytphemfhdiefjeaa
