/-
  DiskSame: two disks are the same just if both files have the same bytes in both. Condition: what comes in is of bulk at most 1048576.
-/
import Derived.Test.YtdbbghmldaekhaaESame
import Derived.Test.YtdbbghmldaekhaaEStep2
import Derived.Deep.OwnRows
namespace Go.Proofs.Ytdbbghmldaekhaa
open Go.ChangeShapes Go.WideShapes Go.ChangeAt Go.RowKit Go.Deep
set_option linter.unusedVariables false

theorem leq_comm (l m : List UInt8) : (l == m) = (m == l) := by
  rw [Bool.eq_iff_iff, beq_iff_eq, beq_iff_eq]
  exact eq_comm
theorem duo_new {w0 w : World} {gd gr : Nat} {v : Nat → Value} {pc : Value} {qs : List PV} {kp : Value} {Z Y X : Nat → Prop} (hd : DSt w gd v pc qs kp St.new) (hlo : ∀ k, DR gd v pc qs kp k → w0.heap.size ≤ k) (hY : ∀ k, DR gd v pc qs kp k → Y k) (hb : Below w0.heap.size w0 w) (hr : RDisk w w0.heap.size gr (.slice none 0 0) (fun _ => False) St.new) (hX : X gr) (hYX : ∀ k, X k → ¬ Y k) (hZ : ∀ k, Z k → k < w.heap.size ∧ ¬ X k ∧ ¬ Y k) : Duo w0 w gd gr St.new St.new Z := by
  have hx : ∀ k, RX gr (.slice none 0 0) (fun _ => False) k → X k := by
    rintro k (rfl | h | h)
    · exact hX
    · simp [Value.ownBlock] at h
    · exact h.elim
  exact ⟨.slice none 0 0, fun _ => False, ⟨v, pc, qs, kp, hd, fun k hk => hlo k (.inl hk), hb, fun k hk hdr => hk.elim (fun h => hYX k (hx k h) (hY k hdr)) fun h => (hZ k h).2.2 (hY k hdr)⟩, hr, fun k hk hz => (hZ k hz).2.1 (hx k hk), fun k hk => (hZ k hk).1⟩
theorem RDisk.below {w w' : World} {B g : Nat} {pc : Value} {R : Nat → Prop} {s : St} (h : RDisk w B g pc R s) (hb : Below w.heap.size w w') : RDisk w' B g pc R s := by
  obtain ⟨a, k, qs, ka, kc, ks, h⟩ := h
  exact ⟨a, k, qs, ka, kc, ks, h.below hb⟩
/-- Now at a pair. -/
theorem Duo.nowR {w0 w : World} {gd gr : Nat} {s t : St} {Z : Nat → Prop} (f : Int) (hf : f = 0 ∨ f = 1) (h : Duo w0 w gd gr s t Z) (hlim : t.pcs.length ≤ 8000000000000) (W : World) (hW : Below w.heap.size w W) : Calls Try.prog 66 #[.pointer (some ⟨gr, 0, none⟩), .int .i64 f] W (Tell (t.now f.toNat) w W) := by
  obtain ⟨a, kk, pc, qs, ka, kc, ks, R, hr⟩ := (h.below hW).ref
  have hq : t.pcs.length = qs.length := by rw [hr.names, List.length_map]
  rcases hf with rfl | rfl
  · exact (now_0 W _ gr a kk pc qs ka kc ks R t hr (by omega)).mono fun e w' h => h.tell hW
  · exact (now_1 W _ gr a kk pc qs ka kc ks R t hr (by omega)).mono fun e w' h => h.tell hW
set_option maxHeartbeats 12800000 in
set_option maxRecDepth 100000 in
theorem diskSame_walk (A1 A2 : Option Addr) (c1 c2 : Nat) (o1 o2 : List OpV) (w : World) (h1 : OpsRd w A1 o1) (r1 : ∀ o ∈ o1, o.Reads w) (h2 : OpsRd w A2 o2) (r2 : ∀ o ∈ o2, o.Reads w) (hb1 : bulkO o1 ≤ 1048576) (hb2 : bulkO o2 ≤ 1048576) :
    Calls Try.prog 4 #[.slice A1 o1.length c1, .slice A2 o2.length c2] w fun e w' => e = .returned (.bool true) ∧ Below w.heap.size w w' := by
  have H1 := Lib.hid h1
  have H2 := Lib.hid h2
  have R1 := Lib.hid r1
  have R2 := Lib.hid r2
  have HB1 := Lib.hid hb1
  have HB2 := Lib.hid hb2
  have hl1 : (o1.length : Int) ≤ 1048576 := by have := bulkO_len o1; omega
  have hl2 : (o2.length : Int) ≤ 1048576 := by have := bulkO_len o2; omega
  clear h1 h2 r1 r2 hb1 hb2
  go_enter Try.func4, Try.ntmps4
  go_wp2_with fail
  refine (new_st w).mono ?_
  rintro e w1 ⟨a, rfl, hb1, va, pa, qa, ka, hda, hRa⟩
  have LA := Lib.hid (hda.core.lt (Array.getElem?_eq_some_iff.1 hda.box).1)
  have HDA := Lib.hid hda
  have HRA := Lib.hid hRa
  have E1 := Lib.hid hb1
  clear hda hRa hb1
  go_wp2_with fail
  refine (new_st w1).mono ?_
  rintro e w2 ⟨b, rfl, hb2, vb, pb, qb, kb, hdb, hRb⟩
  have LB := Lib.hid (hdb.core.lt (Array.getElem?_eq_some_iff.1 hdb.box).1)
  have HDB := Lib.hid hdb
  have HRB := Lib.hid hRb
  have E2 := Lib.hid hb2
  clear hdb hRb hb2
  go_wp2_with fail
  refine (rnew_any w2 w.heap.size (Nat.le_trans E1.out.size E2.out.size)).mono ?_
  rintro e w3 ⟨x, rfl, hrx, hb3, hx3⟩
  have HRX := Lib.hid hrx
  have E3 := Lib.hid hb3
  have hx3l : x < w3.heap.size := by obtain ⟨_, _, _, _, _, _, h⟩ := hrx; exact h.g_lt
  clear hrx hb3
  go_wp2_with fail
  refine (rnew_any w3 w.heap.size (Nat.le_trans (Nat.le_trans E1.out.size E2.out.size) E3.out.size)).mono ?_
  rintro e w4 ⟨y, rfl, hry, hb4, hy4⟩
  have HRY := Lib.hid hry
  have E4 := Lib.hid hb4
  have hy4l : y < w4.heap.size := by obtain ⟨_, _, _, _, _, _, h⟩ := hry; exact h.g_lt
  clear hry hb4
  go_wp2_with fail
  refine (begun_any _).mono ?_
  rintro e w5 ⟨rfl, hb5⟩
  have s1 := E1.out.size
  have s2 := E2.out.size
  have s3 := E3.out.size
  have s4 := E4.out.size
  have s5 := hb5.size
  have D4a := HDA.out.below (bt (bt E2.out E3.out) E4.out)
  have D4b := HDB.out.below (bt E3.out E4.out)
  have BW : Below w.heap.size w w5 := bt (bt (bt (bt E1.out E2.out) E3.out) E4.out) hb5
  have HDuoB : Hid (Duo w w5 b y St.new St.new (fun k => k < w1.heap.size ∨ w2.heap.size ≤ k ∧ k < w3.heap.size)) :=
    duo_new (Y := fun k => w1.heap.size ≤ k ∧ k < w2.heap.size) (X := fun k => w3.heap.size ≤ k) (D4b.below hb5) (fun k hk => by have := HRB.out k hk; omega) (fun k hk => ⟨HRB.out k hk, LB.out k hk⟩) BW (HRY.out.below hb5) hy4 (fun k hk hy => by omega) (fun k hk => by rcases hk with hk | hk <;> (refine ⟨?_, ?_, ?_⟩ <;> omega))
  obtain ⟨CB, hCB, hBack⟩ := HDuoB.out.held
  have HCB := Lib.hid hCB
  have HBACK := Lib.hid hBack
  have HDuoA : Hid (Duo w w5 a x St.new St.new CB) :=
    duo_new (Y := fun k => k < w1.heap.size) (X := fun k => w2.heap.size ≤ k ∧ k < w3.heap.size) (D4a.below hb5) (fun k hk => HRA.out k hk) (fun k hk => LA.out k hk) BW ((HRX.out.below E4.out).below hb5) ⟨hx3, hx3l⟩ (fun k hk hy => by omega) (fun k hk => ⟨(HCB.out k hk).1, fun h => (HCB.out k hk).2 (.inr h), fun h => (HCB.out k hk).2 (.inl h)⟩)
  have HXY : Hid (¬ x = y) := by show ¬ x = y; omega
  clear HDuoB hCB hBack D4a D4b BW HDA HDB HRA HRB LA LB HRX HRY E1 E2 E3 E4 s1 s2 s3 s4 s5 hb5 hx3 hx3l hy4 hy4l
  go_wp2_with fail
  go_loopw [29] (fun idx wr => ∃ (j : Nat) (s : St), j ≤ o1.length ∧ idx = .int .i64 (j : Int) ∧ Duo w wr a x s s CB ∧ Kept CB w5 wr ∧ s.pcs.length ≤ bulkO (o1.take j)) (fun idx _ => o1.length - (intOf idx).toNat)
  case atStart => exact ⟨0, St.new, by omega, rfl, HDuoA.out, ⟨Nat.le_refl _, fun _ _ => rfl⟩, by simp [St.new]⟩
  case round =>
    obtain ⟨j, s, hj, rfl, hat, hkp, hcalm⟩ := hrel
    have HAT := Lib.hid hat
    have HKP := Lib.hid hkp
    have HCA := Lib.hid hcalm
    clear hat hkp hcalm
    by_cases hjn : j < o1.length
    · obtain ⟨ga, off, rfl, hga, k0, k1, k2, k3, k4, k5⟩ := (H1.out.below HAT.out.bel).cells j hjn
      have hr := R1.out o1[j] (List.getElem_mem _)
      have HS := Lib.hid (bulkO_take o1 j hjn)
      have HM := Lib.hid (bulkO_mem (List.getElem_mem hjn))
      have HLE := Lib.hid (bulkO_le o1 (j + 1))
      have HKN : Hid (o1[j].K = none → o1[j].ks.length = 0) := fun e => by
        rcases Nat.eq_zero_or_pos o1[j].ks.length with h | h
        · exact h
        · obtain ⟨_, _, e', _⟩ := hr.ks h
          rw [e] at e'; cases e'
      have HR := Lib.hid hr
      clear hr
      generalize o1[j] = o at *
      have HST : Hid (¬ o.d = 7 → Calls Try.prog 20 #[.pointer (some ⟨a, 0, none⟩), .pointer (some ⟨x, 0, none⟩), .agg #[.int .i64 o.d, .int .i64 o.f, .int .i64 o.k, .int .i64 o.n, .slice o.A o.b.length o.ac, .slice o.K o.ks.length o.kc]] (wr.alloc (.cells #[.int .i64 o.d, .int .i64 o.f, .int .i64 o.k, .int .i64 o.n, .slice o.A o.b.length o.ac, .slice o.K o.ks.length o.kc] 42)) (StepPost w (wr.alloc (.cells #[.int .i64 o.d, .int .i64 o.f, .int .i64 o.k, .int .i64 o.n, .slice o.A o.b.length o.ac, .slice o.K o.ks.length o.kc] 42)) a x (stepS s o) CB)) := fun hd => by
        have h1 := HM.out
        have h2 := HB1.out
        have h3 := HCA.out
        have h4 := HS.out
        have h5 := HLE.out
        exact step_any o (HAT.out.below (alloc_below wr _)) HR.out (by omega) (by omega) HKN.out (by omega) hd
      have HK0 : Hid (Kept CB w5 (wr.alloc (.cells #[.int .i64 o.d, .int .i64 o.f, .int .i64 o.k, .int .i64 o.n, .slice o.A o.b.length o.ac, .slice o.K o.ks.length o.kc] 42))) := HKP.out.trans (Kept.below (alloc_below wr _) fun k hk => by obtain ⟨_, _, _, _, _, h4⟩ := HAT.out; exact h4 k hk)
      by_cases hd7 : o.d = 7
      · have HD := Lib.hid (HAT.out.below (alloc_below wr (.cells #[.int .i64 o.d, .int .i64 o.f, .int .i64 o.k, .int .i64 o.n, .slice o.A o.b.length o.ac, .slice o.K o.ks.length o.kc] 42)))
        rw [hd7] at k0 HD HK0
        clear HST
        go_wp2_with fail
        exact ⟨⟨j + 1, s, hjn, rfl, HD.out, HK0.out, by have := HS.out; have := HCA.out; omega⟩, by simp only [intOf]; omega⟩
      · have HS7 := Lib.hid (HST.out hd7)
        clear HST
        go_wp2_with fail
        refine HS7.out.mono ?_
        rintro e w6 ⟨rfl, hd6, hk6⟩
        have HD6 := Lib.hid hd6
        have HK6 := Lib.hid (HK0.out.trans hk6)
        clear hd6 hk6 HS7
        go_wp2_with fail
        exact ⟨⟨j + 1, _, hjn, rfl, HD6.out, HK6.out, by have := stepS_len s o; have := HS.out; have := HCA.out; omega⟩, by simp only [intOf]; omega⟩
    · obtain rfl : j = o1.length := by omega
      clear hj
      have hs1 : s.pcs.length ≤ 1048576 := Nat.le_trans HCA.out (Nat.le_trans (bulkO_le o1 _) HB1.out)
      obtain ⟨CA, hCA, hBackA⟩ := HAT.out.held
      have HCAA := Lib.hid hCA
      have HBKA := Lib.hid hBackA
      have HDuoB := Lib.hid (HBACK.out wr CA HKP.out HAT.out.bel (fun k hk => hCA k hk))
      have HS1 := Lib.hid hs1
      clear hCA hBackA HCA HAT HDuoA hs1
      rename World => WA
      generalize s = sa at *
      go_wp2_with fail
      go_loopw [43] (fun idx wr => ∃ (j : Nat) (s : St), j ≤ o2.length ∧ idx = .int .i64 (j : Int) ∧ Duo w wr b y s s CA ∧ Kept CA WA wr ∧ s.pcs.length ≤ bulkO (o2.take j)) (fun idx _ => o2.length - (intOf idx).toNat)
      case atStart => exact ⟨0, St.new, by omega, rfl, HDuoB.out, ⟨Nat.le_refl _, fun _ _ => rfl⟩, by simp [St.new]⟩
      case round =>
        obtain ⟨j, s, hj, rfl, hat, hkp, hcalm⟩ := hrel
        have HAT := Lib.hid hat
        have HKP := Lib.hid hkp
        have HCA := Lib.hid hcalm
        clear hat hkp hcalm
        by_cases hjn : j < o2.length
        · obtain ⟨ga, off, rfl, hga, k0, k1, k2, k3, k4, k5⟩ := (H2.out.below HAT.out.bel).cells j hjn
          have hr := R2.out o2[j] (List.getElem_mem _)
          have HS := Lib.hid (bulkO_take o2 j hjn)
          have HM := Lib.hid (bulkO_mem (List.getElem_mem hjn))
          have HLE := Lib.hid (bulkO_le o2 (j + 1))
          have HKN : Hid (o2[j].K = none → o2[j].ks.length = 0) := fun e => by
            rcases Nat.eq_zero_or_pos o2[j].ks.length with h | h
            · exact h
            · obtain ⟨_, _, e', _⟩ := hr.ks h
              rw [e] at e'; cases e'
          have HR := Lib.hid hr
          clear hr
          generalize o2[j] = o at *
          have HST : Hid (¬ o.d = 7 → Calls Try.prog 20 #[.pointer (some ⟨b, 0, none⟩), .pointer (some ⟨y, 0, none⟩), .agg #[.int .i64 o.d, .int .i64 o.f, .int .i64 o.k, .int .i64 o.n, .slice o.A o.b.length o.ac, .slice o.K o.ks.length o.kc]] (wr.alloc (.cells #[.int .i64 o.d, .int .i64 o.f, .int .i64 o.k, .int .i64 o.n, .slice o.A o.b.length o.ac, .slice o.K o.ks.length o.kc] 42)) (StepPost w (wr.alloc (.cells #[.int .i64 o.d, .int .i64 o.f, .int .i64 o.k, .int .i64 o.n, .slice o.A o.b.length o.ac, .slice o.K o.ks.length o.kc] 42)) b y (stepS s o) CA)) := fun hd => by
            have h1 := HM.out
            have h2 := HB2.out
            have h3 := HCA.out
            have h4 := HS.out
            have h5 := HLE.out
            exact step_any o (HAT.out.below (alloc_below wr _)) HR.out (by omega) (by omega) HKN.out (by omega) hd
          have HK0 : Hid (Kept CA WA (wr.alloc (.cells #[.int .i64 o.d, .int .i64 o.f, .int .i64 o.k, .int .i64 o.n, .slice o.A o.b.length o.ac, .slice o.K o.ks.length o.kc] 42))) := HKP.out.trans (Kept.below (alloc_below wr _) fun k hk => by obtain ⟨_, _, _, _, _, h4⟩ := HAT.out; exact h4 k hk)
          by_cases hd7 : o.d = 7
          · have HD := Lib.hid (HAT.out.below (alloc_below wr (.cells #[.int .i64 o.d, .int .i64 o.f, .int .i64 o.k, .int .i64 o.n, .slice o.A o.b.length o.ac, .slice o.K o.ks.length o.kc] 42)))
            rw [hd7] at k0 HD HK0
            clear HST
            go_wp2_with fail
            exact ⟨⟨j + 1, s, hjn, rfl, HD.out, HK0.out, by have := HS.out; have := HCA.out; omega⟩, by simp only [intOf]; omega⟩
          · have HS7 := Lib.hid (HST.out hd7)
            clear HST
            go_wp2_with fail
            refine HS7.out.mono ?_
            rintro e w6 ⟨rfl, hd6, hk6⟩
            have HD6 := Lib.hid hd6
            have HK6 := Lib.hid (HK0.out.trans hk6)
            clear hd6 hk6 HS7
            go_wp2_with fail
            exact ⟨⟨j + 1, _, hjn, rfl, HD6.out, HK6.out, by have := stepS_len s o; have := HS.out; have := HCA.out; omega⟩, by simp only [intOf]; omega⟩
        · obtain rfl : j = o2.length := by omega
          clear hj
          have hs2 : s.pcs.length ≤ 1048576 := Nat.le_trans HCA.out (Nat.le_trans (bulkO_le o2 _) HB2.out)
          have HDA := Lib.hid (HBKA.out wr (fun _ => False) HKP.out HAT.out.bel (fun k hk => hk.elim))
          have HS2 := Lib.hid hs2
          clear hs2 HCA HKP
          obtain ⟨E, hE⟩ : ∃ E : Bool, E = (sa.now 0 == s.now 0 && sa.now 1 == s.now 1) := ⟨_, rfl⟩
          have hE2 : (s.now 0 == sa.now 0 && s.now 1 == sa.now 1) = E := by
            rw [hE]
            rw [leq_comm (s.now 0), leq_comm (s.now 1)]
          have SAB := Lib.hid (fun (W : World) (hW : Below wr.heap.size wr W) => by
            obtain ⟨_, _, d1⟩ := (HDA.out.below hW).disk
            obtain ⟨_, _, d2⟩ := (HAT.out.below hW).disk
            have h := same_any a b d1 d2
            rw [← hE] at h
            exact h)
          have SBA := Lib.hid (fun (W : World) (hW : Below wr.heap.size wr W) => by
            obtain ⟨_, _, d1⟩ := (HDA.out.below hW).disk
            obtain ⟨_, _, d2⟩ := (HAT.out.below hW).disk
            have h := same_any b a d2 d1
            rw [hE2] at h
            exact h)
          have SAA := Lib.hid (fun (W : World) (hW : Below wr.heap.size wr W) => by
            obtain ⟨_, _, d1⟩ := (HDA.out.below hW).disk
            have h := same_any a a d1 d1
            rw [beq_self_eq_true, beq_self_eq_true] at h
            exact h)
          have SAN := Lib.hid (fun (W : World) (hW : Below wr.heap.size wr W) => by
            obtain ⟨_, _, d1⟩ := (HDA.out.below hW).disk
            exact same_not d1.mk (.inl ⟨rfl, rfl⟩ : Mk W (.pointer none) false) rfl)
          have SNA := Lib.hid (fun (W : World) (hW : Below wr.heap.size wr W) => by
            obtain ⟨_, _, d1⟩ := (HDA.out.below hW).disk
            exact same_not (.inl ⟨rfl, rfl⟩ : Mk W (.pointer none) false) d1.mk rfl)
          have SXY := Lib.hid (fun (W : World) (hW : Below wr.heap.size wr W) => by
            have h := rsame_any x y W (fun g f => if g = x then sa.now f.toNat else s.now f.toNat) (fun g f V hg hf hV => by
              rcases hg with rfl | rfl
              · rw [if_pos rfl]
                exact (HDA.out.below hW).nowR f hf (by have := HS1.out; omega) V hV
              · rw [if_neg (fun e => HXY.out e.symm)]
                exact (HAT.out.below hW).nowR f hf (by have := HS2.out; omega) V hV)
            simp only [if_true, if_neg (fun e : y = x => HXY.out e.symm)] at h
            have h2 : ((sa.now (Int.toNat 0) == s.now (Int.toNat 0)) && (sa.now (Int.toNat 1) == s.now (Int.toNat 1))) = E := hE.symm
            rw [h2] at h
            exact h)
          have HBW := Lib.hid HAT.out.bel
          clear hE hE2 HDA HAT HS1 HS2
          go_wp2_with fail
          refine (SAB.out _ (Below.refl _ _)).mono ?_
          rintro e v1 ⟨rfl, t1⟩
          have T1 := Lib.hid t1
          clear t1 SAB
          go_wp2_with fail
          refine (SXY.out _ T1.out).mono ?_
          rintro e v2 ⟨rfl, t2⟩
          have T2 := Lib.hid (bt T1.out t2)
          clear t2 T1
          go_wp2_with fail
          refine (SBA.out _ T2.out).mono ?_
          rintro e v3 ⟨rfl, t3⟩
          have T3 := Lib.hid (bt T2.out t3)
          clear t3 T2
          go_wp2_with fail
          refine (SXY.out _ T3.out).mono ?_
          rintro e v4 ⟨rfl, t4⟩
          have T4 := Lib.hid (bt T3.out t4)
          clear t4 T3
          go_wp2_with fail
          refine (SAA.out _ T4.out).mono ?_
          rintro e v5 ⟨rfl, t5⟩
          have T5 := Lib.hid (bt T4.out t5)
          clear t5 T4
          go_wp2_with fail
          refine (SAN.out _ T5.out).mono ?_
          rintro e v6 ⟨rfl, rfl⟩
          go_wp2_with fail
          refine (SNA.out _ T5.out).mono ?_
          rintro e v7 ⟨rfl, rfl⟩
          go_wp2_with fail
          go_ret
          exact ⟨ret_bool (by simp), bt HBW.out T5.out⟩

set_option maxRecDepth 100000 in
theorem diskSame_lifted (os : Os) (started : os.Started) (H : Type) (enc : TypeId × Value → H) (F : Stop.Interp) :
    ReturnsInHanded {} Try.checked os 4 .any ((Rows.OpenSpec.upto Rows.diskSameSpec).pre6 enc Try.prog Try.f4 Rows.diskSameUptoRow.domain false) (((Rows.OpenSpec.upto Rows.diskSameSpec).at F).post enc Try.prog Try.f4 false true false false) := by
  refine returnsInHanded_of_cond_sized (C := Try.checked) (s := Rows.OpenSpec.upto Rows.diskSameSpec) (k := Rows.uptoSmall) rfl own started (by kernel_rfl) Try.func4
    (OpenSpec.witness (enc := enc) (C := Try.checked) (s := Rows.OpenSpec.upto Rows.diskSameSpec) (k := Rows.uptoSmall) rfl false ⟨#[], #[.slice none 0 0, .slice none 0 0], []⟩ 8 (by kernel_rfl) (by kernel_rfl) (by kernel_rfl)
      (x := ([.nil, .nil], [], [])) (by kernel_rfl) rfl (by kernel_rfl)) ?_
  intro W base args ds gs before hval0 hW _ hk0 hsz _
  have hk : Rows.uptoBulkAll (ds ++ gs) ≤ 1048576 := of_decide_eq_true hk0
  have hval : ∀ (j : Nat) t v, Try.f4.params[j]? = some t → args[j]? = some v → Value.okWide Try.prog W .any base t v := hval0
  have hW' := hW
  obtain ⟨p, q, hA0, hV, rfl, hfz, hnd⟩ := hW
  have hA : DataW.TrodAll enc Try.prog W 0 (fun _ => true) true Try.f4.params.toList args.toList ds p := hA0
  rw [Try.params4] at hA hval
  obtain ⟨v0, vs0, d0, ds0, p0, q0, hargs, rfl, rfl, h0, r0⟩ := trodAll_cons hA
  obtain ⟨v1, vs1, d1, ds1, p1, q1, rfl, rfl, rfl, h1, r1⟩ := trodAll_cons r0
  obtain ⟨rfl, rfl, rfl⟩ := trodAll_nil r1
  obtain rfl : args = #[v0, v1] := by cases args; simp_all
  obtain ⟨rfl, rfl⟩ := trodVars_none hV
  simp only [List.append_nil] at hW' hk
  simp only [Rows.uptoBulkAll] at hk
  have hlt0 : ∀ x ∈ p0, x.block < W.heap.size := fun x hx => hW'.lt x (by simp [hx])
  have hlt1 : ∀ x ∈ p1, x.block < W.heap.size := fun x hx => hW'.lt x (by simp [hx])
  have hreach : reachBytes ≤ 140737488351232 := by decide
  obtain ⟨A0, cap0, o1, rfl, hR0, rd0, hd0⟩ := open_ops (hval 0 38 v0 rfl rfl) h0
  have b0 : bulkO o1 ≤ Rows.uptoBulk d0 := (ops_bulk hd0).elim (fun h => by omega) fun h => by rw [h]; exact Nat.zero_le _
  obtain ⟨A1, cap1, o2, rfl, hR1, rd1, hd1⟩ := open_ops (hval 1 38 v1 rfl rfl) h1
  have b1 : bulkO o2 ≤ Rows.uptoBulk d1 := (ops_bulk hd1).elim (fun h => by omega) fun h => by rw [h]; exact Nat.zero_le _
  clear hA0 hval0
  refine (diskSame_walk A0 A1 cap0 cap1 o1 o2 W hR0 rd0 hR1 rd1 (by omega) (by omega)).mono fun e W' ⟨he, hg⟩ => ?_
  subst he
  have hpost : Rows.diskSameSpec.post enc Try.prog Try.f4 false true false false W _ _ W' := post_of_below (pa := p0 ++ (p1 ++ [])) (pv := []) hW' (fun _ _ _ => (trodAll_cons_mk (shut_bool Try.underlying4 _) trodAll_mk0)) (fun sp hsp => (trodAll_cons_mk (WideElems.Trod_stays laidOut (by kernel_rfl) (of_decide_eq_true (by kernel_rfl)) h0 (fun x hx => hg.same (hlt0 x hx)) (fun x hx => hsp x (by simp [hx]))) (trodAll_cons_mk (WideElems.Trod_stays laidOut (by kernel_rfl) (of_decide_eq_true (by kernel_rfl)) h1 (fun x hx => hg.same (hlt1 x hx)) (fun x hx => hsp x (by simp [hx]))) trodAll_mk0))) (fun _ _ => rfl) (by simp) hg (ok_one (by kernel_rfl) rfl (okWide_bool_mk Try.underlying4 _))
  exact ⟨_, rfl, hpost⟩

theorem diskSame_holds : Rows.DiskSameUptoSaid :=
  OpenClaim.holds_of_cond 4 Try.f4 rfl rfl rfl rfl rfl rfl rfl ⟨rfl, rfl, rfl, rfl, rfl⟩ rfl rfl rfl rfl rfl (by kernel_rfl) Try.func4 (by kernel_rfl)
    (of_decide_eq_true (by kernel_rfl)) (by unfold Func.isWrapper; first | (rw [if_pos (by decide +kernel)]; kernel_rfl) | (rw [if_neg (by decide +kernel)]; exact ⟨rfl, rfl⟩))
    (fun os started H enc _ F => diskSame_lifted os started H enc F)
end Go.Proofs.Ytdbbghmldaekhaa
