/-
  CodecOwn: what is handed in is left as it is, and what is told is nobody's else. No condition beyond the form's own.
-/
import Derived.Test.YtdjppchcnbfcoaaCOpen
import Derived.Test.YtdjppchcnbfcoaaCBegun
import Derived.Test.YtdjppchcnbfcoaaCRdr2
import Derived.Laws.OwnMore
namespace Go.Proofs.Ytdjppchcnbfcoaa
open Go.ChangeShapes Go.WideShapes Go.ChangeAt Go.RowKit Go.Deep
set_option linter.unusedVariables false

/-- A slice of the call's own, of whatever bytes. -/
def Any8 (w : World) (B n cap : Nat) (a : Option Addr) : Prop := ∃ xs : List Value, w.ownsRow B 5 1 (.slice a n cap) n xs ∧ ∀ x ∈ xs, ∃ z, x = .int .u8 z
theorem OwnB.any8 {w : World} {B cap : Nat} {a : Option Addr} {l : List UInt8} (h : OwnB w B (.slice a l.length cap) l) : Any8 w B l.length cap a :=
  ⟨_, h, fun x hx => by simp [Lib.byteCells] at hx; obtain ⟨c, _, rfl⟩ := hx; exact ⟨_, rfl⟩⟩
theorem Any8.at {w : World} {B n cap : Nat} {a : Option Addr} (h : Any8 w B n cap a) (i : Nat) (hi : i < n) : ∃ g z, a = some ⟨g, 0, none⟩ ∧ B ≤ g ∧ w.cell? ⟨g, i, none⟩ = some (.int .u8 z) ∧ w.frozen? ⟨g, i, none⟩ = false ∧ ∀ z', Any8 (w.setCell ⟨g, i, none⟩ (.int .u8 z')) B n cap a := by
  obtain ⟨xs, h1, h2⟩ := h
  obtain ⟨g, cap', hv, hb, hg⟩ := World.ownsRow.form h1 (by omega)
  obtain ⟨rfl, rfl⟩ : a = some ⟨g, 0, none⟩ ∧ cap = cap' := by simpa using hv
  have hl : xs.length = n := by have := h1.1; omega
  obtain ⟨z, hz⟩ := h2 xs[i] (List.getElem_mem (by omega))
  have hc := World.ownsRow.cells h1 (g := g) rfl i xs[i] (List.getElem?_eq_getElem (by omega))
  rw [Go.WideShapes.add_plain, Nat.zero_add, hz] at hc
  refine ⟨g, z, rfl, hb, hc, World.ownsRow.frozenAt h1 i, fun z' => ⟨_, (World.ownsRow.stored h1 i (.int .u8 z')).1, fun x hx => ?_⟩⟩
  rcases List.mem_or_eq_of_mem_set hx with hx | rfl
  · exact h2 x hx
  · exact ⟨_, rfl⟩
theorem rBytes_eq (w : World) (g q : Nat) (l : List UInt8) {x : List UInt8} {k : Nat} {er : Int} (h : RdS w g q l) (hl : l.length ≤ 140737488355328) (hr : rdB l = (x, k, er)) :
    Calls Try.prog 39 #[.pointer (some ⟨g, 0, none⟩)] w fun e w' => ∃ v', e = .returned (.tuple #[v', .int .i64 er]) ∧ OwnB w' w.heap.size v' x ∧ RdS w' g q (l.drop k) ∧ RGr w w' g := by
  have h1 := rBytes_any w g q l h hl
  unfold RBPost at h1
  rw [hr] at h1
  exact h1
theorem RGr.below {w w' : World} {g B : Nat} (h : RGr w w' g) (hB : B ≤ g) (hs : B ≤ w.heap.size) : Below B w w' :=
  ⟨h.os, h.tape, h.output, h.size, fun k hk => h.block k (Nat.lt_of_lt_of_le hk hs) (by omega)⟩

set_option maxHeartbeats 12800000 in
set_option maxRecDepth 100000 in
theorem codecOwn_walk (A : Option Addr) (c : Nat) (b : List UInt8) (w : World) (hR : BRd w A b) (hbc : b.length ≤ c) (hN : A = none → c = 0) (hl : b.length ≤ 140737488351232) :
    Calls Try.prog 11 #[.slice A b.length c] w fun e w' => e = .returned (.bool true) ∧ Below w.heap.size w w' := by
  have HR := Lib.hid (fun (W : World) (h : Below w.heap.size w W) => hR.below h)
  have hAp : ∀ (W : World) (v : Value), Below w.heap.size w W → (∀ k, v.ownBlock = some k → w.heap.size ≤ k) → 0 < b.length → Apart A v := fun W v hW hv h0 a e he => by
    obtain ⟨g, off, e2, hg, _⟩ := hR h0
    rw [e] at e2
    obtain rfl := Option.some.inj e2
    have := hv _ he
    simp at this
    omega
  have HAP := Lib.hid hAp
  have hw1 := Lib.hid (wrs_new w)
  have hA1 := Lib.hid (alloc_below w (.cells #[.bool true, .slice none 0 0] 67))
  clear hR hAp
  go_enter Try.func11, Try.ntmps11
  go_wp2_with (go_at_call 12; refine (newWriter_any _).mono ?_; rintro e w' ⟨rfl, rfl⟩)
  refine (begun_any _).mono ?_
  rintro e w1 ⟨rfl, h1⟩
  have W1 := Lib.hid (hw1.out.below h1)
  have B1 := Lib.hid (bt hA1.out h1)
  clear h1 hw1 hA1
  have HC := Lib.hid (clone_any A c b w1 (HR.out _ B1.out) (by omega))
  go_wp2_with fail
  refine HC.out.mono ?_
  rintro e w2 ⟨vw, rfl, how, hb2⟩
  obtain ⟨aw, capw, rfl, _, _⟩ := how.slice
  have OW := Lib.hid how
  have W2 := Lib.hid (W1.out.below hb2)
  have B2 := Lib.hid (bt B1.out hb2)
  have hBr : w.heap.size ≤ w2.heap.size := B2.out.size
  have hw12 : w1.heap.size ≤ w2.heap.size := hb2.size
  clear how hb2 HC
  have HWB := Lib.hid (wBytes_any w2 _ _ _ _ A c b (HR.out _ B2.out) (fun a e he => by simp [Value.ownBlock] at he) hN (by omega) W2.out (by decide) hBr)
  go_wp2_with fail
  refine HWB.out.mono ?_
  rintro e w3 ⟨v3, rfl, hs3, hg3⟩
  have B3 := Lib.hid (below_tr B2.out (WGr.below W2.out hg3 hBr))
  have W3 := Lib.hid hs3
  have OW3 := Lib.hid (show OwnB w3 w1.heap.size (.slice aw b.length capw) b from OW.out.same fun k hk he => hg3.block k hk (by have := (World.ownsRow.lt OW.out k he).1; have := W1.out.lt; omega) (by simp [Value.ownBlock]))
  have hs3l : w.heap.size ≤ w3.heap.size := B3.out.size
  have hs13 : w1.heap.size ≤ w3.heap.size := Nat.le_trans hw12 hg3.size
  have hlen : (putL [] (encB b)).length ≤ 1048576 := putL_len (by decide)
  obtain ⟨er, her⟩ : ∃ er, er = putE [] (encB b) := ⟨_, rfl⟩
  obtain ⟨L, hL⟩ : ∃ L, L = putL [] (encB b) := ⟨_, rfl⟩
  have HER := Lib.hid her
  have HLL := Lib.hid hL
  have HCASE : Hid ((er = 0 ∧ L = encB b) ∨ (er = 3 ∧ L = [])) := by
    show _ ∨ _
    rw [her, hL]
    unfold putE putL
    split
    · exact .inl ⟨rfl, rfl⟩
    · exact .inr ⟨rfl, rfl⟩
  have hrdb : rdB (encB b) = (b, (encB b).length, 0) := by simpa using rdB_enc b []
  have HRDB := Lib.hid hrdb
  clear hrdb
  rcases hrd : rdB L with ⟨X, kx, XE⟩
  have HRD := Lib.hid hrd
  have hXl : X.length ≤ L.length := (rdB_len hrd).1
  clear hrd
  rw [← hL] at W3 hlen
  rw [← her]
  clear hs3 hg3 her hL HWB
  have HO := Lib.hid (out_any w3 _ _ _ _ W3.out (by omega))
  go_wp2_with fail
  refine HO.out.mono ?_
  rintro e w4 ⟨v4, rfl, ho4, hb4⟩
  obtain ⟨a4, cap4, rfl, _, _⟩ := ho4.slice
  have A4 := Lib.hid ho4.any8
  have B4 := Lib.hid hb4
  clear ho4 hb4 HO
  go_wp2_with fail
  go_loopw [30] (fun idx wr => ∃ i : Nat, i ≤ L.length ∧ idx = .int .i64 i ∧ Any8 wr w3.heap.size L.length cap4 a4 ∧ Below w3.heap.size w4 wr) (fun idx _ => L.length - (intOf idx).toNat)
  case atStart => exact ⟨0, by omega, rfl, A4.out, Below.refl _ _⟩
  case round =>
    obtain ⟨i, hi, rfl, hany, hbw⟩ := hrel
    have HBW := Lib.hid hbw
    clear hbw
    by_cases hin : i < L.length
    · obtain ⟨g, z, rfl, hgB, hc, hf, hst⟩ := hany.at i hin
      have HST := Lib.hid hst
      have x0 : (0 : Int) ≤ (i : Int) := by omega
      have x1 : (i : Int) < (L.length : Int) := by omega
      have hgl : g < wr.heap.size := World.block_lt_of_cell? _ _ hc
      clear hany hst
      go_wp2_with fail
      go_roundw
      case rel => exact ⟨i + 1, by omega, by go_num, HST.out _, HBW.out.setCell hgB _⟩
      case measure => simp [intOf]; omega
    · obtain rfl : i = L.length := by omega
      have hinI : ¬ ((L.length : Int) < (L.length : Int)) := by omega
      clear hany
      have BW := Lib.hid (below_tr B4.out HBW.out)
      rename World => WA
      have W5 := Lib.hid (W3.out.below BW.out)
      have OWA := Lib.hid (OW3.out.below BW.out)
      have BA := Lib.hid (bt B3.out BW.out)
      have HOA := Lib.hid (out_any WA _ _ _ _ W5.out (by omega))
      clear hi hin hinI
      go_wp2_with fail
      refine HOA.out.mono ?_
      rintro e w5 ⟨v5, rfl, ho5, hb5⟩
      obtain ⟨a5, cap5, rfl, _, _⟩ := ho5.slice
      have R5 := Lib.hid ho5.brd
      have B5 := Lib.hid hb5
      clear ho5 hb5 HOA
      have HNR := Lib.hid (newReader_any a5 cap5 L w5 R5.out (by omega))
      go_wp2_with fail
      refine HNR.out.mono ?_
      rintro e w6 ⟨gr, qr, rfl, hgr, hqr, hqs, hrs, hb6⟩
      have HRB := Lib.hid (rBytes_eq w6 gr qr L hrs (by omega) HRD.out)
      have HGR := Lib.hid hgr
      have B6 := Lib.hid hb6
      have H56 := Lib.hid hb6.size
      have B7 := Lib.hid B5.out
      clear hgr hqr hqs hrs hb6 HNR
      go_wp2_with fail
      refine HRB.out.mono ?_
      rintro e w7 ⟨v7, rfl, ho7, -, hg7⟩
      obtain ⟨a7, cap7, rfl, _, _⟩ := ho7.slice
      have A7 := Lib.hid ho7.any8
      have BRR := Lib.hid (below_tr B6.out (hg7.below HGR.out B6.out.size))
      clear ho7 hg7 HRB
      go_wp2_with fail
      go_loopw [52] (fun idx wr => ∃ i : Nat, i ≤ X.length ∧ idx = .int .i64 i ∧ Any8 wr w6.heap.size X.length cap7 a7 ∧ Below w6.heap.size w7 wr) (fun idx _ => X.length - (intOf idx).toNat)
      case atStart => exact ⟨0, by omega, rfl, A7.out, Below.refl _ _⟩
      case round =>
        obtain ⟨i, hi, rfl, hany, hbw⟩ := hrel
        have HBW := Lib.hid hbw
        clear hbw
        by_cases hin : i < X.length
        · obtain ⟨g, z, rfl, hgB, hc, hf, hst⟩ := hany.at i hin
          have HST := Lib.hid hst
          have x0 : (0 : Int) ≤ (i : Int) := by omega
          have x1 : (i : Int) < (X.length : Int) := by omega
          have hgl : g < wr.heap.size := World.block_lt_of_cell? _ _ hc
          clear hany hst
          go_wp2_with fail
          go_roundw
          case rel => exact ⟨i + 1, by omega, by go_num, HST.out _, HBW.out.setCell hgB _⟩
          case measure => simp [intOf]; omega
        · obtain rfl : i = X.length := by omega
          have hinI : ¬ ((X.length : Int) < (X.length : Int)) := by omega
          clear hany
          have BW2 := Lib.hid (below_tr BRR.out (HBW.out.mono H56.out))
          rename World => WB
          have Z1 := Lib.hid (bt B7.out BW2.out)
          have W8 := Lib.hid (W5.out.below Z1.out)
          have OWB := Lib.hid (OWA.out.below Z1.out)
          have BB := Lib.hid (bt BA.out Z1.out)
          have HOB := Lib.hid (out_any WB _ _ _ _ W8.out (by omega))
          clear hi hin hinI
          go_wp2_with fail
          refine HOB.out.mono ?_
          rintro e w9 ⟨v9, rfl, ho9, hb9⟩
          obtain ⟨a9, cap9, rfl, _, _⟩ := ho9.slice
          have R9 := Lib.hid ho9.brd
          have B9 := Lib.hid hb9
          clear ho9 hb9 HOB
          have HNB := Lib.hid (newReader_any a9 cap9 L w9 R9.out (by omega))
          go_wp2_with fail
          refine HNB.out.mono ?_
          rintro e w10 ⟨gr, qr, rfl, hgr, hqr, hqs, hrs, hb10⟩
          have HRB := Lib.hid (rBytes_eq w10 gr qr L hrs (by omega) HRD.out)
          have H1010 := Lib.hid hgr
          have B10 := Lib.hid hb10
          clear hgr hqr hqs hrs hb10 HNB
          go_wp2_with fail
          refine HRB.out.mono ?_
          rintro e w11 ⟨v11, rfl, ho11, -, hg11⟩
          obtain ⟨a11, cap11, rfl, _, _⟩ := ho11.slice
          have R11 := Lib.hid ho11.brd
          have BQ := Lib.hid (bt B9.out ((below_tr (B10.out) (hg11.below H1010.out B10.out.size))))
          clear ho11 hg11 HRB
          have RB := Lib.hid (HR.out _ (bt BB.out BQ.out))
          have RW := Lib.hid ((OWB.out.below BQ.out).brd)
          have HE1 := Lib.hid (equal_any A aw c capw b b w11 RB.out RW.out)
          rw [show (b == b) = true by simp] at HE1
          rcases HCASE.out with ⟨h1, h2⟩ | ⟨h1, h2⟩
          · obtain ⟨rfl, rfl⟩ : X = b ∧ XE = 0 := by
              have h3 := HRD.out
              rw [h2, HRDB.out] at h3
              simp only [Prod.mk.injEq] at h3
              exact ⟨h3.1.symm, h3.2.2.symm⟩
            subst h1
            have HE2 := Lib.hid (equal_any a11 A cap11 c X X w11 R11.out RB.out)
            rw [show (X == X) = true by simp] at HE2
            clear h2
            go_wp2_with fail
            refine HE1.out.mono ?_
            rintro e w' ⟨rfl, rfl⟩
            go_wp2_with fail
            refine HE2.out.mono ?_
            rintro e w' ⟨rfl, rfl⟩
            go_wp2_with fail
            go_ret
            exact ⟨rfl, bt BB.out BQ.out⟩
          · subst h1
            clear h2
            go_wp2_with fail
            refine HE1.out.mono ?_
            rintro e w' ⟨rfl, rfl⟩
            go_wp2_with fail
            go_ret
            exact ⟨rfl, bt BB.out BQ.out⟩

set_option maxRecDepth 100000 in
theorem codecOwn_lifted (os : Os) (started : os.Started) (H : Type) (enc : TypeId × Value → H) :
    ReturnsInHanded {} Try.checked os 11 .any (Rows.codecOwnSpec.pre6 enc Try.prog Try.f11 Rows.codecOwnRow.domain false) (Rows.codecOwnSpec.post enc Try.prog Try.f11 false true false false) := by
  refine returnsInHanded_of_change_sized (C := Try.checked) own started (by kernel_rfl) Try.func11
    (ChangeSpec.witness6 (enc := enc) (C := Try.checked) false ⟨#[], #[.slice none 0 0], []⟩ 8 (by kernel_rfl) (by kernel_rfl) (by kernel_rfl) (by kernel_rfl)) ?_
  intro W base args ds gs before hval0 hW _ hsz _
  have hval : ∀ (j : Nat) t v, Try.f11.params[j]? = some t → args[j]? = some v → Value.okWide Try.prog W .any base t v := hval0
  have hW' := hW
  obtain ⟨p, q, hA0, hV, rfl, hfz, hnd⟩ := hW
  have hA : DataW.TrodAll enc Try.prog W 0 (fun _ => true) true Try.f11.params.toList args.toList ds p := hA0
  rw [Try.params11] at hA hval
  obtain ⟨v0, vs0, d0, ds0, p0, q0, hargs, rfl, rfl, h0, r0⟩ := trodAll_cons hA
  obtain ⟨rfl, rfl, rfl⟩ := trodAll_nil r0
  obtain rfl : args = #[v0] := by cases args; simp_all
  obtain ⟨rfl, rfl⟩ := trodVars_none hV
  simp only [List.append_nil] at hW'
  have hlt0 : ∀ x ∈ p0, x.block < W.heap.size := fun x hx => hW'.lt x (by simp [hx])
  have hreach : reachBytes ≤ 140737488351232 := by decide
  obtain ⟨A0, cap0, b, rfl, hR0, hc0, hn0, hd0⟩ := open_bytes (hval 0 26 v0 rfl rfl) h0
  have b0 : b.length * 1 ≤ reachBytes := by
    rcases hd0 with h0 | ⟨el, sp, e, he⟩
    · rw [h0]; simp
    · have hs : (el.length + sp.length) * Try.prog.bytesOf 5 ≤ reachBytes := sized_slice hsz (j := 0) (t := 26) (e := 5) rfl (by rw [e]; rfl) Try.underlying26
      rw [show Try.prog.bytesOf 5 = 1 by kernel_rfl] at hs
      omega
  clear hA0 hval0
  refine (codecOwn_walk A0 cap0 b W hR0 hc0 hn0 (by omega)).mono fun e W' ⟨he, hg⟩ => ?_
  subst he
  have hpost : Rows.codecOwnSpec.post enc Try.prog Try.f11 false true false false W _ _ W' := post_of_below (pa := p0 ++ []) (pv := []) hW' (fun _ _ _ => (trodAll_cons_mk (shut_bool Try.underlying4 _) trodAll_mk0)) (fun sp hsp => (trodAll_cons_mk (WideElems.Trod_stays laidOut (by kernel_rfl) (of_decide_eq_true (by kernel_rfl)) h0 (fun x hx => hg.same (hlt0 x hx)) (fun x hx => hsp x (by simp [hx]))) trodAll_mk0)) (fun _ _ => rfl) (by simp) hg (ok_one (by kernel_rfl) rfl (okWide_bool_mk Try.underlying4 _))
  exact ⟨_, rfl, hpost⟩

theorem codecOwn_holds : Rows.CodecOwnSaid :=
  OpenClaim.holds_of_wide 11 Try.f11 rfl rfl rfl rfl rfl rfl rfl ⟨rfl, rfl, rfl, rfl, rfl⟩ rfl rfl rfl rfl rfl (by kernel_rfl) Try.func11 (by kernel_rfl)
    (of_decide_eq_true (by kernel_rfl)) (by unfold Func.isWrapper; first | (rw [if_pos (by decide +kernel)]; kernel_rfl) | (rw [if_neg (by decide +kernel)]; exact ⟨rfl, rfl⟩))
    (fun os started H enc _ => codecOwn_lifted os started H enc)
end Go.Proofs.Ytdjppchcnbfcoaa
