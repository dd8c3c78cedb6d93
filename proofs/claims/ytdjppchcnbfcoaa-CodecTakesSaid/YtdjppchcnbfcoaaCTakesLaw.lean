/-
  CodecTakes: what is read of any bytes, asked for any pieces, or why it is not there. No condition beyond the form's own.
-/
import Derived.Test.YtdjppchcnbfcoaaCOneFormLaw
import Derived.Test.YtdjppchcnbfcoaaCRefR
import Derived.Deep.RegionHeld3
namespace Go.Proofs.Ytdjppchcnbfcoaa
open Go.ChangeShapes Go.WideShapes Go.ChangeAt Go.RowKit Go.Deep
set_option linter.unusedVariables false

theorem alloc_at (w : World) (o : Obj) : (w.alloc o).heap[w.heap.size]? = some o := by
  unfold World.alloc
  simp only
  exact Array.getElem?_push_size
theorem bdrewN {B : Nat} {w W : World} (h : Below B w W) (n : Nat) : Below B w (W.drewN n) := h.trans ⟨rfl, rfl, rfl, Nat.le_refl _, fun _ _ => rfl⟩
theorem rgr_cell {w : World} {g o : Nat} (v : Value) : RGr w (w.setCell ⟨g, o, none⟩ v) g := ⟨rfl, rfl, rfl, by simp [World.setCell], fun k hk hg => Below.heap_setCell _ _ _ _ hg⟩
theorem box3_set1 {w : World} {g : Nat} {a0 a1 a2 b : Value} {t : TypeId} (h : w.heap[g]? = some (.cells #[a0, a1, a2] t (0, 0))) : (w.setCell ⟨g, 1, none⟩ b).heap[g]? = some (.cells #[a0, b, a2] t (0, 0)) := by
  simp only [World.setCell, Array.getElem?_modify, if_pos, h, Option.map_some]
  rfl
theorem box3_set2 {w : World} {g : Nat} {a0 a1 a2 b : Value} {t : TypeId} (h : w.heap[g]? = some (.cells #[a0, a1, a2] t (0, 0))) : (w.setCell ⟨g, 2, none⟩ b).heap[g]? = some (.cells #[a0, a1, b] t (0, 0)) := by
  simp only [World.setCell, Array.getElem?_modify, if_pos, h, Option.map_some]
  rfl
theorem RdS.apart {w w' : World} {g q d : Nat} {l : List UInt8} (h : RdS w g q l) (hr : RGr w w' d) (h1 : g ≠ d) (h2 : q ≠ d) : RdS w' g q l := by
  obtain ⟨A, cap, e1, e2, e3, hn, e4⟩ := h
  have hg : g < w.heap.size := (Array.getElem?_eq_some_iff.1 e1).1
  refine ⟨A, cap, (hr.block g hg h1).trans e1, fun h0 => ?_, e3, hn, fun a e => ⟨(e4 a e).1, (e4 a e).2.1, Nat.lt_of_lt_of_le (e4 a e).2.2 hr.size⟩⟩
  obtain ⟨q', off, e, hl, hc⟩ := e2 h0
  have hqq := (e4 _ e).1
  obtain rfl : q' = q := by simpa using hqq
  refine ⟨q', off, e, Nat.lt_of_lt_of_le hl hr.size, fun i hi => ?_⟩
  rw [World.cell?_of_block (w := w) (a := ⟨q', off + i, none⟩) (hr.block q' hl h2)]
  exact hc i hi
theorem RefS.apart {w w' : World} {g q d : Nat} {l : List UInt8} (h : RefS w g q l) (hr : RGr w w' d) (h1 : g ≠ d) (h2 : 0 < l.length → q ≠ d) : RefS w' g q l := by
  obtain ⟨A, cap, e1, e2, e3, hn, e4⟩ := h
  have hg : g < w.heap.size := (Array.getElem?_eq_some_iff.1 e1).1
  refine ⟨A, cap, (hr.block g hg h1).trans e1, fun h0 => ?_, e3, hn, fun h0 a e => ⟨(e4 h0 a e).1, (e4 h0 a e).2.1, Nat.lt_of_lt_of_le (e4 h0 a e).2.2 hr.size⟩⟩
  obtain ⟨q', off, e, hl, hc⟩ := e2 h0
  have hqq := (e4 h0 _ e).1
  obtain rfl : q' = q := by simpa using hqq
  refine ⟨q', off, e, Nat.lt_of_lt_of_le hl hr.size, fun i hi => ?_⟩
  rw [World.cell?_of_block (w := w) (a := ⟨q', off + i, none⟩) (hr.block q' hl (h2 h0))]
  exact hc i hi
theorem refs_new {w : World} {A : Option Addr} {c q : Nat} {l : List UInt8} (h : BRd w A l) (hc : l.length ≤ c) (hn : A = none → c = 0) (hq : 0 < l.length → ∃ off, A = some ⟨q, off, none⟩) : RefS (w.alloc (.cells #[.slice A l.length c] 39)) w.heap.size q l := by
  refine ⟨A, c, alloc_at _ _, h.alloc _, hc, hn, fun h0 a e => ?_⟩
  obtain ⟨off, ha⟩ := hq h0
  obtain ⟨g, off', e2, hg, _⟩ := h h0
  rw [ha] at e e2
  obtain rfl := Option.some.inj e
  obtain ⟨rfl, rfl⟩ : q = g ∧ off = off' := by simpa using e2
  exact ⟨rfl, by omega, by simp; omega⟩

set_option maxHeartbeats 12800000 in
set_option maxRecDepth 100000 in
theorem codecTakes_walk (A0 : Option Addr) (c0 : Nat) (b : List UInt8) (A : Option Addr) (c : Nat) (ps : List PR) (w : World) (hR0 : BRd w A0 b) (hbc : b.length ≤ c0) (hbn : A0 = none → c0 = 0) (hbl : b.length ≤ 140737488351232) (hR : PRd w A ps) (ok : ∀ a ∈ ps, a.Ok) (hl : ps.length * 32 ≤ 140737488351232) :
    Calls Try.prog 4 #[.slice A0 b.length c0, .slice A ps.length c] w fun e w' => e = .returned (.bool true) ∧ Below w.heap.size w w' := by
  have HR0 := Lib.hid (fun (W : World) (h : Below w.heap.size w W) => hR0.below h)
  have HR := Lib.hid (fun (W : World) (h : Below w.heap.size w W) => hR.below h)
  have HOK := Lib.hid ok
  have HNR := Lib.hid (newReader_any A0 c0 b w hR0 (by omega))
  have HBC := Lib.hid hbc
  have HBN := Lib.hid hbn
  obtain ⟨qd, hqd, hqdl⟩ : ∃ qd, (0 < b.length → ∃ off, A0 = some ⟨qd, off, none⟩) ∧ (0 < b.length → qd < w.heap.size) := by
    rcases Nat.eq_zero_or_pos b.length with h0 | h0
    · exact ⟨0, fun h => by omega, fun h => by omega⟩
    · obtain ⟨g, off, e, hg, _⟩ := hR0 h0
      exact ⟨g, fun _ => ⟨off, e⟩, fun _ => hg⟩
  have HQD := Lib.hid hqd
  have HQDL := Lib.hid hqdl
  clear hR0 hR ok hbn hqd hqdl
  go_enter Try.func4, Try.ntmps4
  go_wp2_with fail
  refine HNR.out.mono ?_
  rintro e w1 ⟨gr, q, rfl, hgr, hqr, hqs, hrs, hb1⟩
  have HGL : Hid (gr < w1.heap.size) := by
    obtain ⟨A9, c9, h9, _⟩ := hrs
    exact (Array.getElem?_eq_some_iff.1 h9).1
  have HQL := Lib.hid hqs
  have HGR := Lib.hid hgr
  have HQR := Lib.hid hqr
  have R1 := Lib.hid hrs
  have B1 := Lib.hid hb1
  have HB1 := Lib.hid hb1.size
  clear hgr hqr hqs hrs hb1 HNR
  go_wp2_with fail
  refine (begun_any _).mono ?_
  rintro e w2 ⟨rfl, h2⟩
  have R2 := Lib.hid (R1.out.below h2)
  have B2 := Lib.hid (bt B1.out h2)
  have HS2 := Lib.hid h2.size
  have D3 := Lib.hid (refs_new (HR0.out _ B2.out) HBC.out HBN.out HQD.out)
  have R3 := Lib.hid (R2.out.below (alloc_below w2 (.cells #[.slice A0 b.length c0] 39)))
  have B3 := Lib.hid (bt B2.out (alloc_below w2 (.cells #[.slice A0 b.length c0] 39)))
  have HS3 : Hid (w2.heap.size < (w2.alloc (.cells #[.slice A0 b.length c0] 39)).heap.size) := by show _ < _; simp
  clear h2 R1 R2 B1
  obtain ⟨gd, hgd⟩ : ∃ gd, gd = w2.heap.size := ⟨_, rfl⟩
  rw [← hgd] at D3
  have HGD1 : Hid (gr < gd) := by have := HGL.out; have := HS2.out; show _ < _; omega
  have HGD2 : Hid (q < gd) := by have := HQL.out; have := HS2.out; show _ < _; omega
  have HGD3 : Hid (w.heap.size ≤ gd) := by have := HB1.out; have := HS2.out; show _ ≤ _; omega
  have HGD4 : Hid (gd < (w2.alloc (.cells #[.slice A0 b.length c0] 39)).heap.size) := by show _ < _; simp; omega
  go_wp2_with fail
  simp only [← hgd]
  clear hgd
  generalize w2.alloc (.cells #[.slice A0 b.length c0] 39) = w3 at *
  clear B2 HS2 HS3
  go_loopw [28] (fun idx wr => ∃ (i : Nat) (R : List UInt8), i ≤ ps.length ∧ idx = .int .i64 i ∧ R.length ≤ b.length ∧ RdS wr gr q R ∧ RefS wr gd qd R ∧ gd < wr.heap.size ∧ Below w.heap.size w wr) (fun idx _ => ps.length - (intOf idx).toNat)
  case atStart => exact ⟨0, b, by omega, rfl, Nat.le_refl _, R3.out, D3.out, HGD4.out, B3.out⟩
  case round =>
    obtain ⟨i, R, hi, rfl, hRb, hr, hd, hsz, hb⟩ := hrel
    have HRD := Lib.hid hr
    have HRF := Lib.hid hd
    have HB := Lib.hid hb
    have HSZ := Lib.hid hsz
    have hRl : R.length ≤ 140737488355328 := by omega
    clear hr hd hb
    by_cases hip : i < ps.length
    · obtain ⟨g, off, rfl, hgl, hc⟩ := HR.out _ HB.out (by omega)
      obtain ⟨d0, d1, d2⟩ := hc i hip
      have HPO := Lib.hid (HOK.out _ (List.getElem_mem hip))
      have x0 : (0 : Int) ≤ (i : Int) := by omega
      have x1 : (i : Int) < (ps.length : Int) := by omega
      have x2 : 0 < ps.length := by omega
      clear hc
      generalize ps[i] = pp at *
      have HFR := Lib.hid (fun W h1 h2 => from_any pp HPO.out W gr q R h1 (by omega) h2)
      unfold FromPost at HFR
      have hval : pp.val = .agg #[.int .u8 pp.k, .int .i64 pp.n, .string ⟨pp.s.toArray⟩] := rfl
      rw [hval] at HFR
      clear hval
      have hal := alloc_below wr (.cells #[.int .u8 (pp.k : Int), .int .i64 pp.n, .string ⟨pp.s.toArray⟩] 28)
      have Ra := Lib.hid (HRD.out.below hal)
      have Da := Lib.hid (HRF.out.below hal)
      have Ba := Lib.hid (bt HB.out hal)
      have HQa : Hid (q < (wr.alloc (.cells #[.int .u8 (pp.k : Int), .int .i64 pp.n, .string ⟨pp.s.toArray⟩] 28)).heap.size) := by show _ < _; have := HGD2.out; simp; omega
      have HSa : Hid (gd < (wr.alloc (.cells #[.int .u8 (pp.k : Int), .int .i64 pp.n, .string ⟨pp.s.toArray⟩] 28)).heap.size) := by show _ < _; simp; omega
      have X8 : Hid ((wr.alloc (.cells #[.int .u8 (pp.k : Int), .int .i64 pp.n, .string ⟨pp.s.toArray⟩] 28)).heap[wr.heap.size]? = some (.cells #[.int .u8 (pp.k : Int), .int .i64 pp.n, .string ⟨pp.s.toArray⟩] 28)) := alloc_at _ _
      clear hal
      rcases hrp : rdP pp.k R with ⟨n', s', t, er⟩
      have HRP := Lib.hid hrp
      clear hrp
      go_wp2_with fail
      refine (HFR.out _ Ra.out HQa.out).mono ?_
      rintro e w4 ⟨rfl, hr4, hg4⟩
      rw [HRP.out]
      rw [HRP.out] at hr4
      have D4 := Lib.hid (Da.out.apart hg4 (by have := HGD1.out; omega) (fun h0 => by have := HQDL.out (by omega); have := HGR.out; omega))
      have R4 := Lib.hid hr4
      have B4 := Lib.hid (below_tr Ba.out (hg4.below HGR.out Ba.out.size))
      have HS4 := Lib.hid (Nat.lt_of_lt_of_le HSa.out hg4.size)
      have X84 : Hid (w4.heap[wr.heap.size]? = some (.cells #[.int .u8 (pp.k : Int), .int .i64 pp.n, .string ⟨pp.s.toArray⟩] 28)) := (hg4.block _ (by simp) (by have := HGD1.out; omega)).trans X8.out
      have HL4 : Hid (wr.heap.size < w4.heap.size) := by have := hg4.size; show _ < _; simp at this; omega
      obtain ⟨⟨y0, y1, y2⟩, f0, f1, f2⟩ := cells3 X84.out
      have hL4 := HL4.out
      clear hr4 hg4 X8
      have hk0 : (0 : Int) ≤ (pp.k : Int) := by omega
      have hal9 := alloc_below w4 (.cells #[.int .u8 (pp.k : Int), .int .i64 n', .string ⟨s'.toArray⟩] 28)
      have hal11 := alloc_below (w4.alloc (.cells #[.int .u8 (pp.k : Int), .int .i64 n', .string ⟨s'.toArray⟩] 28)) (.cells #[.int .u8 (pp.k : Int), .int .i64 0, .string ⟨#[]⟩] 28)
      have D6 := Lib.hid ((D4.out.below hal9).below hal11)
      have R6 := Lib.hid ((R4.out.below hal9).below hal11)
      have B6 := Lib.hid (bt (bt B4.out hal9) hal11)
      have hs9 : (w4.alloc (.cells #[.int .u8 (pp.k : Int), .int .i64 n', .string ⟨s'.toArray⟩] 28)).heap.size = w4.heap.size + 1 := by simp
      have X96 : Hid ((((w4.alloc (.cells #[.int .u8 (pp.k : Int), .int .i64 n', .string ⟨s'.toArray⟩] 28)).alloc (.cells #[.int .u8 (pp.k : Int), .int .i64 0, .string ⟨#[]⟩] 28))).heap[w4.heap.size]? = some (.cells #[.int .u8 (pp.k : Int), .int .i64 n', .string ⟨s'.toArray⟩] 28)) := (hal11.block _ (by simp)).trans (alloc_at _ _)
      have X116 : Hid ((((w4.alloc (.cells #[.int .u8 (pp.k : Int), .int .i64 n', .string ⟨s'.toArray⟩] 28)).alloc (.cells #[.int .u8 (pp.k : Int), .int .i64 0, .string ⟨#[]⟩] 28))).heap[w4.heap.size + 1]? = some (.cells #[.int .u8 (pp.k : Int), .int .i64 0, .string ⟨#[]⟩] 28)) := by
        have h := alloc_at (w4.alloc (.cells #[.int .u8 (pp.k : Int), .int .i64 n', .string ⟨s'.toArray⟩] 28)) (.cells #[.int .u8 (pp.k : Int), .int .i64 0, .string ⟨#[]⟩] 28)
        rw [hs9] at h
        exact h
      have HZ6 : Hid ((((w4.alloc (.cells #[.int .u8 (pp.k : Int), .int .i64 n', .string ⟨s'.toArray⟩] 28)).alloc (.cells #[.int .u8 (pp.k : Int), .int .i64 0, .string ⟨#[]⟩] 28))).heap.size = w4.heap.size + 2) := by show _ = _; simp
      clear hal9 hal11 hs9
      rcases (by omega : pp.k % 4 = 0 ∨ pp.k % 4 = 3 ∨ (pp.k % 4 = 1 ∨ pp.k % 4 = 2)) with h4 | h4 | h4
      · have e4 : (pp.k : Int) % 4 = 0 := by omega
        have hpp := HRP.out
        unfold rdP at hpp
        rw [if_pos h4] at hpp
        simp only [Prod.mk.injEq] at hpp
        obtain ⟨q1, q2, q3, q4⟩ := hpp
        have HC := refRInt_any ((w4.alloc (.cells #[.int .u8 (pp.k : Int), .int .i64 n', .string ⟨s'.toArray⟩] 28)).alloc (.cells #[.int .u8 (pp.k : Int), .int .i64 0, .string ⟨#[]⟩] 28)) gd qd R D6.out hRl
        rw [q1, q3, q4] at HC
        have HC := Lib.hid HC
        clear q1 q3 q4 h4
        subst q2
        have HEQ : ∀ W, (Op.equalIn 10000 28 (.agg #[.int .u8 (pp.k : Int), .int .i64 n', .string ⟨#[]⟩]) (.agg #[.int .u8 (pp.k : Int), .int .i64 n', .string ⟨#[]⟩])).run Try.prog W = .ok true W := fun W => (eqPP pp.k n' pp.k n' [] [] W).trans (by simp)
        have HEQ := Lib.hid HEQ
        go_wp2_with fail
        refine HC.out.mono ?_
        rintro e w7 ⟨rfl, hd7, hg7⟩
        have X97 : Hid (w7.heap[w4.heap.size]? = some _) := (hg7.block _ (by rw [HZ6.out]; omega) (by have := HS4.out; omega)).trans X96.out
        have X117 : Hid (w7.heap[w4.heap.size + 1]? = some _) := (hg7.block _ (by rw [HZ6.out]; omega) (by have := HS4.out; omega)).trans X116.out
        have D7 := Lib.hid hd7
        have R7 := Lib.hid (R6.out.apart hg7 (by have := HGD1.out; omega) (by have := HGD2.out; omega))
        have B7 := Lib.hid (below_tr B6.out (hg7.below HGD3.out B6.out.size))
        have HL7 : Hid (w4.heap.size + 1 < w7.heap.size) := by have := hg7.size; rw [HZ6.out] at this; show _ < _; omega
        have hL7 := HL7.out
        clear hd7 hg7
        obtain ⟨⟨p0, p1, p2⟩, f90, f91, f92⟩ := cells3 X97.out
        obtain ⟨⟨r0, r1, r2⟩, f110, f111, f112⟩ := cells3 X117.out
        go_upto_region 22 with (fail)
        have hst := rgr_cell (w := w7) (g := w4.heap.size + 1) (o := 1) (.int .i64 n')
        have X98 : Hid ((w7.setCell ⟨w4.heap.size + 1, 1, none⟩ (.int .i64 n')).heap[w4.heap.size]? = some _) := (hst.block _ (by omega) (by omega)).trans X97.out
        have X118 : Hid ((w7.setCell ⟨w4.heap.size + 1, 1, none⟩ (.int .i64 n')).heap[w4.heap.size + 1]? = some _) := box3_set1 X117.out
        have D8 := Lib.hid (D7.out.apart hst (by have := HS4.out; omega) (fun h0 => by have := HQDL.out (by rw [List.length_drop] at h0; omega); have := HGD3.out; have := HS4.out; omega))
        have R8 := Lib.hid (R7.out.apart hst (by have := HGD1.out; have := HS4.out; omega) (by have := HGD2.out; have := HS4.out; omega))
        have B8 := Lib.hid (below_tr B7.out (hst.below (by have := HGD3.out; have := HS4.out; omega) B7.out.size))
        have HS8 : Hid (gd < (w7.setCell ⟨w4.heap.size + 1, 1, none⟩ (.int .i64 n')).heap.size) := by have := hst.size; have := HS4.out; show _ < _; omega
        clear hst
        generalize w7.setCell ⟨w4.heap.size + 1, 1, none⟩ (.int .i64 n') = w8 at *
        have hR2 : (R.drop t).length ≤ b.length := by rw [List.length_drop]; omega
        clear p0 p1 p2 r0 r1 r2 f90 f91 f92 f110 f111 f112 X97 X117 D7 R7 B7 HL7 hL7 X96 X116 D6 R6 B6 HZ6 HC y0 y1 y2 f0 f1 f2 X84 d0 d1 d2
        generalize R.drop t = R2 at *
        obtain ⟨⟨p0, p1, p2⟩, -, -, -⟩ := cells3 X98.out
        obtain ⟨⟨r0, r1, r2⟩, -, -, -⟩ := cells3 X118.out
        obtain ⟨A9, cap9, e1, e2, e3, hn9, e4'⟩ := D8.out
        obtain ⟨k0, k1⟩ := box1 e1
        clear e1 e2 e3 hn9 e4'
        have heq := HEQ.out
        have her : (er != er) = false := by simp
        have hnn : ((R2.length : Int) != (R2.length : Int)) = false := by simp
        have HLD := Lib.hid (left_any w8.drew gr q R2 (R8.out.below (bdrewN (Below.refl _ _) 1)))
        go_region_held3 (fun w9 => (w9.cell? ⟨w4.heap.size, 0, none⟩ = some (.int .u8 (pp.k : Int)) ∧ w9.cell? ⟨w4.heap.size, 1, none⟩ = some (.int .i64 n') ∧ w9.cell? ⟨w4.heap.size, 2, none⟩ = some (.string ⟨#[]⟩)) ∧ (w9.cell? ⟨w4.heap.size + 1, 0, none⟩ = some (.int .u8 (pp.k : Int)) ∧ w9.cell? ⟨w4.heap.size + 1, 1, none⟩ = some (.int .i64 n') ∧ w9.cell? ⟨w4.heap.size + 1, 2, none⟩ = some (.string ⟨#[]⟩)) ∧ w9.cell? ⟨gd, 0, none⟩ = some (.slice A9 R2.length cap9)) (first | exact ⟨⟨p0, p1, p2⟩, ⟨r0, r1, r2⟩, k0⟩ | go_keep) (first | (go_at_call 24; refine HLD.out.mono ?_; rintro e w' ⟨rfl, rfl⟩))
        have R9 := Lib.hid (R8.out.below (bdrewN (Below.refl _ _) 1))
        have D9 := Lib.hid (D8.out.below (bdrewN (Below.refl _ _) 1))
        have B9 := Lib.hid (bdrewN B8.out 1)
        have HS9 : Hid (gd < (w8.drewN 1).heap.size) := HS8.out
        go_wp2_with fail
        go_roundw
        case rel => exact ⟨i + 1, R2, by omega, by go_num, hR2, R9.out, D9.out, HS9.out, B9.out⟩
        case measure => simp [intOf]; omega
      · have e4 : (pp.k : Int) % 4 = 3 := by omega
        have hpp := HRP.out
        unfold rdP at hpp
        rw [if_neg (by omega), if_pos h4] at hpp
        simp only [Prod.mk.injEq] at hpp
        obtain ⟨q1, q2, q3, q4⟩ := hpp
        have HC := refRFlag_any ((w4.alloc (.cells #[.int .u8 (pp.k : Int), .int .i64 n', .string ⟨s'.toArray⟩] 28)).alloc (.cells #[.int .u8 (pp.k : Int), .int .i64 0, .string ⟨#[]⟩] 28)) gd qd R D6.out hRl
        rw [q3, q4] at HC
        cases hb : (rdF R).1
        · rw [hb] at HC q1
          have HC := Lib.hid HC
          simp only [Bool.false_eq_true, if_false] at q1
          clear q3 q4 h4 hb
          subst q2 q1
          have HEQ : ∀ W, (Op.equalIn 10000 28 (.agg #[.int .u8 (pp.k : Int), .int .i64 (0 : Int), .string ⟨#[]⟩]) (.agg #[.int .u8 (pp.k : Int), .int .i64 (0 : Int), .string ⟨#[]⟩])).run Try.prog W = .ok true W := fun W => (eqPP pp.k (0 : Int) pp.k (0 : Int) [] [] W).trans (by simp)
          have HEQ := Lib.hid HEQ
          go_wp2_with fail
          refine HC.out.mono ?_
          rintro e w7 ⟨rfl, hd7, hg7⟩
          have X97 : Hid (w7.heap[w4.heap.size]? = some _) := (hg7.block _ (by rw [HZ6.out]; omega) (by have := HS4.out; omega)).trans X96.out
          have X117 : Hid (w7.heap[w4.heap.size + 1]? = some _) := (hg7.block _ (by rw [HZ6.out]; omega) (by have := HS4.out; omega)).trans X116.out
          have D7 := Lib.hid hd7
          have R7 := Lib.hid (R6.out.apart hg7 (by have := HGD1.out; omega) (by have := HGD2.out; omega))
          have B7 := Lib.hid (below_tr B6.out (hg7.below HGD3.out B6.out.size))
          have HL7 : Hid (w4.heap.size + 1 < w7.heap.size) := by have := hg7.size; rw [HZ6.out] at this; show _ < _; omega
          have hL7 := HL7.out
          clear hd7 hg7
          obtain ⟨⟨p0, p1, p2⟩, f90, f91, f92⟩ := cells3 X97.out
          obtain ⟨⟨r0, r1, r2⟩, f110, f111, f112⟩ := cells3 X117.out
          go_upto_region 22 with (fail)
          have X98 := X97
          have X118 := X117
          have D8 := D7
          have R8 := R7
          have B8 := B7
          have HS8 : Hid (gd < w7.heap.size) := by have := HS4.out; show _ < _; omega
          generalize w7 = w8 at *
          have hR2 : (R.drop t).length ≤ b.length := by rw [List.length_drop]; omega
          clear p0 p1 p2 r0 r1 r2 f90 f91 f92 f110 f111 f112 X97 X117 D7 R7 B7 HL7 hL7 X96 X116 D6 R6 B6 HZ6 HC y0 y1 y2 f0 f1 f2 X84 d0 d1 d2
          generalize R.drop t = R2 at *
          obtain ⟨⟨p0, p1, p2⟩, -, -, -⟩ := cells3 X98.out
          obtain ⟨⟨r0, r1, r2⟩, -, -, -⟩ := cells3 X118.out
          obtain ⟨A9, cap9, e1, e2, e3, hn9, e4'⟩ := D8.out
          obtain ⟨k0, k1⟩ := box1 e1
          clear e1 e2 e3 hn9 e4'
          have heq := HEQ.out
          have her : (er != er) = false := by simp
          have hnn : ((R2.length : Int) != (R2.length : Int)) = false := by simp
          have HLD := Lib.hid (left_any w8.drew gr q R2 (R8.out.below (bdrewN (Below.refl _ _) 1)))
          go_region_held3 (fun w9 => (w9.cell? ⟨w4.heap.size, 0, none⟩ = some (.int .u8 (pp.k : Int)) ∧ w9.cell? ⟨w4.heap.size, 1, none⟩ = some (.int .i64 (0 : Int)) ∧ w9.cell? ⟨w4.heap.size, 2, none⟩ = some (.string ⟨#[]⟩)) ∧ (w9.cell? ⟨w4.heap.size + 1, 0, none⟩ = some (.int .u8 (pp.k : Int)) ∧ w9.cell? ⟨w4.heap.size + 1, 1, none⟩ = some (.int .i64 (0 : Int)) ∧ w9.cell? ⟨w4.heap.size + 1, 2, none⟩ = some (.string ⟨#[]⟩)) ∧ w9.cell? ⟨gd, 0, none⟩ = some (.slice A9 R2.length cap9)) (first | exact ⟨⟨p0, p1, p2⟩, ⟨r0, r1, r2⟩, k0⟩ | go_keep) (first | (go_at_call 24; refine HLD.out.mono ?_; rintro e w' ⟨rfl, rfl⟩))
          have R9 := Lib.hid (R8.out.below (bdrewN (Below.refl _ _) 1))
          have D9 := Lib.hid (D8.out.below (bdrewN (Below.refl _ _) 1))
          have B9 := Lib.hid (bdrewN B8.out 1)
          have HS9 : Hid (gd < (w8.drewN 1).heap.size) := HS8.out
          go_wp2_with fail
          go_roundw
          case rel => exact ⟨i + 1, R2, by omega, by go_num, hR2, R9.out, D9.out, HS9.out, B9.out⟩
          case measure => simp [intOf]; omega
        · rw [hb] at HC q1
          have HC := Lib.hid HC
          simp only [if_true] at q1
          clear q3 q4 h4 hb
          subst q2 q1
          have HEQ : ∀ W, (Op.equalIn 10000 28 (.agg #[.int .u8 (pp.k : Int), .int .i64 (1 : Int), .string ⟨#[]⟩]) (.agg #[.int .u8 (pp.k : Int), .int .i64 (1 : Int), .string ⟨#[]⟩])).run Try.prog W = .ok true W := fun W => (eqPP pp.k (1 : Int) pp.k (1 : Int) [] [] W).trans (by simp)
          have HEQ := Lib.hid HEQ
          go_wp2_with fail
          refine HC.out.mono ?_
          rintro e w7 ⟨rfl, hd7, hg7⟩
          have X97 : Hid (w7.heap[w4.heap.size]? = some _) := (hg7.block _ (by rw [HZ6.out]; omega) (by have := HS4.out; omega)).trans X96.out
          have X117 : Hid (w7.heap[w4.heap.size + 1]? = some _) := (hg7.block _ (by rw [HZ6.out]; omega) (by have := HS4.out; omega)).trans X116.out
          have D7 := Lib.hid hd7
          have R7 := Lib.hid (R6.out.apart hg7 (by have := HGD1.out; omega) (by have := HGD2.out; omega))
          have B7 := Lib.hid (below_tr B6.out (hg7.below HGD3.out B6.out.size))
          have HL7 : Hid (w4.heap.size + 1 < w7.heap.size) := by have := hg7.size; rw [HZ6.out] at this; show _ < _; omega
          have hL7 := HL7.out
          clear hd7 hg7
          obtain ⟨⟨p0, p1, p2⟩, f90, f91, f92⟩ := cells3 X97.out
          obtain ⟨⟨r0, r1, r2⟩, f110, f111, f112⟩ := cells3 X117.out
          go_upto_region 22 with (fail)
          have hst := rgr_cell (w := w7) (g := w4.heap.size + 1) (o := 1) (.int .i64 1)
          have X98 : Hid ((w7.setCell ⟨w4.heap.size + 1, 1, none⟩ (.int .i64 1)).heap[w4.heap.size]? = some _) := (hst.block _ (by omega) (by omega)).trans X97.out
          have X118 : Hid ((w7.setCell ⟨w4.heap.size + 1, 1, none⟩ (.int .i64 1)).heap[w4.heap.size + 1]? = some _) := box3_set1 X117.out
          have D8 := Lib.hid (D7.out.apart hst (by have := HS4.out; omega) (fun h0 => by have := HQDL.out (by rw [List.length_drop] at h0; omega); have := HGD3.out; have := HS4.out; omega))
          have R8 := Lib.hid (R7.out.apart hst (by have := HGD1.out; have := HS4.out; omega) (by have := HGD2.out; have := HS4.out; omega))
          have B8 := Lib.hid (below_tr B7.out (hst.below (by have := HGD3.out; have := HS4.out; omega) B7.out.size))
          have HS8 : Hid (gd < (w7.setCell ⟨w4.heap.size + 1, 1, none⟩ (.int .i64 1)).heap.size) := by have := hst.size; have := HS4.out; show _ < _; omega
          clear hst
          generalize w7.setCell ⟨w4.heap.size + 1, 1, none⟩ (.int .i64 1) = w8 at *
          have hR2 : (R.drop t).length ≤ b.length := by rw [List.length_drop]; omega
          clear p0 p1 p2 r0 r1 r2 f90 f91 f92 f110 f111 f112 X97 X117 D7 R7 B7 HL7 hL7 X96 X116 D6 R6 B6 HZ6 HC y0 y1 y2 f0 f1 f2 X84 d0 d1 d2
          generalize R.drop t = R2 at *
          obtain ⟨⟨p0, p1, p2⟩, -, -, -⟩ := cells3 X98.out
          obtain ⟨⟨r0, r1, r2⟩, -, -, -⟩ := cells3 X118.out
          obtain ⟨A9, cap9, e1, e2, e3, hn9, e4'⟩ := D8.out
          obtain ⟨k0, k1⟩ := box1 e1
          clear e1 e2 e3 hn9 e4'
          have heq := HEQ.out
          have her : (er != er) = false := by simp
          have hnn : ((R2.length : Int) != (R2.length : Int)) = false := by simp
          have HLD := Lib.hid (left_any w8.drew gr q R2 (R8.out.below (bdrewN (Below.refl _ _) 1)))
          go_region_held3 (fun w9 => (w9.cell? ⟨w4.heap.size, 0, none⟩ = some (.int .u8 (pp.k : Int)) ∧ w9.cell? ⟨w4.heap.size, 1, none⟩ = some (.int .i64 (1 : Int)) ∧ w9.cell? ⟨w4.heap.size, 2, none⟩ = some (.string ⟨#[]⟩)) ∧ (w9.cell? ⟨w4.heap.size + 1, 0, none⟩ = some (.int .u8 (pp.k : Int)) ∧ w9.cell? ⟨w4.heap.size + 1, 1, none⟩ = some (.int .i64 (1 : Int)) ∧ w9.cell? ⟨w4.heap.size + 1, 2, none⟩ = some (.string ⟨#[]⟩)) ∧ w9.cell? ⟨gd, 0, none⟩ = some (.slice A9 R2.length cap9)) (first | exact ⟨⟨p0, p1, p2⟩, ⟨r0, r1, r2⟩, k0⟩ | go_keep) (first | (go_at_call 24; refine HLD.out.mono ?_; rintro e w' ⟨rfl, rfl⟩))
          have R9 := Lib.hid (R8.out.below (bdrewN (Below.refl _ _) 1))
          have D9 := Lib.hid (D8.out.below (bdrewN (Below.refl _ _) 1))
          have B9 := Lib.hid (bdrewN B8.out 1)
          have HS9 : Hid (gd < (w8.drewN 1).heap.size) := HS8.out
          go_wp2_with fail
          go_roundw
          case rel => exact ⟨i + 1, R2, by omega, by go_num, hR2, R9.out, D9.out, HS9.out, B9.out⟩
          case measure => simp [intOf]; omega
      · have e40 : ¬ ((pp.k : Int) % 4 = 0) := by omega
        have e43 : ¬ ((pp.k : Int) % 4 = 3) := by omega
        have hpp := HRP.out
        unfold rdP at hpp
        rw [if_neg (by omega), if_neg (by omega)] at hpp
        simp only [Prod.mk.injEq] at hpp
        obtain ⟨q1, q2, q3, q4⟩ := hpp
        have HC := refRBytes_any ((w4.alloc (.cells #[.int .u8 (pp.k : Int), .int .i64 n', .string ⟨s'.toArray⟩] 28)).alloc (.cells #[.int .u8 (pp.k : Int), .int .i64 0, .string ⟨#[]⟩] 28)) gd qd R D6.out hRl
        rw [q2, q3, q4] at HC
        have HC := Lib.hid HC
        clear q2 q3 q4 h4
        subst q1
        have HEQ : ∀ W, (Op.equalIn 10000 28 (.agg #[.int .u8 (pp.k : Int), .int .i64 (0 : Int), .string ⟨s'.toArray⟩]) (.agg #[.int .u8 (pp.k : Int), .int .i64 (0 : Int), .string ⟨s'.toArray⟩])).run Try.prog W = .ok true W := fun W => (eqPP pp.k (0 : Int) pp.k (0 : Int) s' s' W).trans (by simp)
        have HEQ := Lib.hid HEQ
        go_wp2_with fail
        refine HC.out.mono ?_
        rintro e w7 ⟨v7, rfl, hown7, hd7, hg7⟩
        have hcv := conv_own hown7
        clear hown7
        have X97 : Hid (w7.heap[w4.heap.size]? = some _) := (hg7.block _ (by rw [HZ6.out]; omega) (by have := HS4.out; omega)).trans X96.out
        have X117 : Hid (w7.heap[w4.heap.size + 1]? = some _) := (hg7.block _ (by rw [HZ6.out]; omega) (by have := HS4.out; omega)).trans X116.out
        have D7 := Lib.hid hd7
        have R7 := Lib.hid (R6.out.apart hg7 (by have := HGD1.out; omega) (by have := HGD2.out; omega))
        have B7 := Lib.hid (below_tr B6.out (hg7.below HGD3.out B6.out.size))
        have HL7 : Hid (w4.heap.size + 1 < w7.heap.size) := by have := hg7.size; rw [HZ6.out] at this; show _ < _; omega
        have hL7 := HL7.out
        clear hd7 hg7
        obtain ⟨⟨p0, p1, p2⟩, f90, f91, f92⟩ := cells3 X97.out
        obtain ⟨⟨r0, r1, r2⟩, f110, f111, f112⟩ := cells3 X117.out
        go_upto_region 22 with (fail)
        have hst := rgr_cell (w := w7) (g := w4.heap.size + 1) (o := 2) (.string ⟨s'.toArray⟩)
        have X98 : Hid ((w7.setCell ⟨w4.heap.size + 1, 2, none⟩ (.string ⟨s'.toArray⟩)).heap[w4.heap.size]? = some _) := (hst.block _ (by omega) (by omega)).trans X97.out
        have X118 : Hid ((w7.setCell ⟨w4.heap.size + 1, 2, none⟩ (.string ⟨s'.toArray⟩)).heap[w4.heap.size + 1]? = some _) := box3_set2 X117.out
        have D8 := Lib.hid (D7.out.apart hst (by have := HS4.out; omega) (fun h0 => by have := HQDL.out (by rw [List.length_drop] at h0; omega); have := HGD3.out; have := HS4.out; omega))
        have R8 := Lib.hid (R7.out.apart hst (by have := HGD1.out; have := HS4.out; omega) (by have := HGD2.out; have := HS4.out; omega))
        have B8 := Lib.hid (below_tr B7.out (hst.below (by have := HGD3.out; have := HS4.out; omega) B7.out.size))
        have HS8 : Hid (gd < (w7.setCell ⟨w4.heap.size + 1, 2, none⟩ (.string ⟨s'.toArray⟩)).heap.size) := by have := hst.size; have := HS4.out; show _ < _; omega
        clear hst
        generalize w7.setCell ⟨w4.heap.size + 1, 2, none⟩ (.string ⟨s'.toArray⟩) = w8 at *
        have hR2 : (R.drop t).length ≤ b.length := by rw [List.length_drop]; omega
        clear p0 p1 p2 r0 r1 r2 f90 f91 f92 f110 f111 f112 X97 X117 D7 R7 B7 HL7 hL7 X96 X116 D6 R6 B6 HZ6 HC y0 y1 y2 f0 f1 f2 X84 d0 d1 d2
        generalize R.drop t = R2 at *
        obtain ⟨⟨p0, p1, p2⟩, -, -, -⟩ := cells3 X98.out
        obtain ⟨⟨r0, r1, r2⟩, -, -, -⟩ := cells3 X118.out
        obtain ⟨A9, cap9, e1, e2, e3, hn9, e4'⟩ := D8.out
        obtain ⟨k0, k1⟩ := box1 e1
        clear e1 e2 e3 hn9 e4'
        have heq := HEQ.out
        have her : (er != er) = false := by simp
        have hnn : ((R2.length : Int) != (R2.length : Int)) = false := by simp
        have HLD := Lib.hid (left_any w8.drew gr q R2 (R8.out.below (bdrewN (Below.refl _ _) 1)))
        go_region_held3 (fun w9 => (w9.cell? ⟨w4.heap.size, 0, none⟩ = some (.int .u8 (pp.k : Int)) ∧ w9.cell? ⟨w4.heap.size, 1, none⟩ = some (.int .i64 (0 : Int)) ∧ w9.cell? ⟨w4.heap.size, 2, none⟩ = some (.string ⟨s'.toArray⟩)) ∧ (w9.cell? ⟨w4.heap.size + 1, 0, none⟩ = some (.int .u8 (pp.k : Int)) ∧ w9.cell? ⟨w4.heap.size + 1, 1, none⟩ = some (.int .i64 (0 : Int)) ∧ w9.cell? ⟨w4.heap.size + 1, 2, none⟩ = some (.string ⟨s'.toArray⟩)) ∧ w9.cell? ⟨gd, 0, none⟩ = some (.slice A9 R2.length cap9)) (first | exact ⟨⟨p0, p1, p2⟩, ⟨r0, r1, r2⟩, k0⟩ | go_keep) (first | (go_at_call 24; refine HLD.out.mono ?_; rintro e w' ⟨rfl, rfl⟩))
        have R9 := Lib.hid (R8.out.below (bdrewN (Below.refl _ _) 1))
        have D9 := Lib.hid (D8.out.below (bdrewN (Below.refl _ _) 1))
        have B9 := Lib.hid (bdrewN B8.out 1)
        have HS9 : Hid (gd < (w8.drewN 1).heap.size) := HS8.out
        go_wp2_with fail
        go_roundw
        case rel => exact ⟨i + 1, R2, by omega, by go_num, hR2, R9.out, D9.out, HS9.out, B9.out⟩
        case measure => simp [intOf]; omega
    · obtain rfl : i = ps.length := by omega
      have hikI : ¬ ((ps.length : Int) < (ps.length : Int)) := by omega
      have HE := Lib.hid (end_any wr gr q R HRD.out)
      obtain ⟨A9, cap9, e1, e2, e3, hn9, e4⟩ := HRF.out
      obtain ⟨k0, k1⟩ := box1 e1
      clear e1 e2 e3 hn9 e4
      rcases Nat.eq_zero_or_pos R.length with h0 | h0
      · rw [if_pos h0] at HE
        have hz : ¬ ((0 : Int) < (R.length : Int)) := by omega
        go_wp2_with fail
        refine HE.out.mono ?_
        rintro e w' ⟨rfl, rfl⟩
        go_wp2_with fail
        go_ret
        exact ⟨rfl, HB.out⟩
      · rw [if_neg (by omega)] at HE
        have hz : (0 : Int) < (R.length : Int) := by omega
        go_wp2_with fail
        refine HE.out.mono ?_
        rintro e w' ⟨rfl, rfl⟩
        go_wp2_with fail
        go_ret
        exact ⟨rfl, HB.out⟩

set_option maxRecDepth 100000 in
theorem codecTakes_lifted (os : Os) (started : os.Started) (H : Type) (enc : TypeId × Value → H) :
    ReturnsInHanded {} Try.checked os 4 .any (Rows.codecTakesSpec.pre6 enc Try.prog Try.f4 Rows.codecTakesRow.domain false) (Rows.codecTakesSpec.post enc Try.prog Try.f4 false true false false) := by
  refine returnsInHanded_of_change_sized (C := Try.checked) own started (by kernel_rfl) Try.func4
    (ChangeSpec.witness6 (enc := enc) (C := Try.checked) false ⟨#[], #[.slice none 0 0, .slice none 0 0], []⟩ 8 (by kernel_rfl) (by kernel_rfl) (by kernel_rfl) (by kernel_rfl)) ?_
  intro W base args ds gs before hval0 hW _ hsz _
  have hval : ∀ (j : Nat) t v, Try.f4.params[j]? = some t → args[j]? = some v → Value.okWide Try.prog W .any base t v := hval0
  have hW' := hW
  obtain ⟨p, q, hA0, hV, rfl, hfz, hnd⟩ := hW
  have hA : DataW.TrodAll enc Try.prog W 0 (fun _ => true) true Try.f4.params.toList args.toList ds p := hA0
  rw [Try.params4] at hA hval
  obtain ⟨v0, vs0, d0, ds0, p0, q0, hargs, rfl, rfl, h0, r0⟩ := trodAll_cons hA
  obtain ⟨v1, vs1, d1, ds1, p1, q1, rfl, rfl, rfl, h1, r1⟩ := trodAll_cons r0
  obtain ⟨rfl, rfl, rfl⟩ := trodAll_nil r1
  obtain rfl : args = #[v0, v1] := by cases args; simp_all
  obtain ⟨rfl, rfl⟩ := trodVars_none hV
  simp only [List.append_nil] at hW'
  have hlt0 : ∀ x ∈ p0, x.block < W.heap.size := fun x hx => hW'.lt x (by simp [hx])
  have hlt1 : ∀ x ∈ p1, x.block < W.heap.size := fun x hx => hW'.lt x (by simp [hx])
  have hreach : reachBytes ≤ 140737488351232 := by decide
  obtain ⟨A0, cap0, b, rfl, hR0, hc0, hn0, hd0⟩ := open_bytes (hval 0 26 v0 rfl rfl) h0
  have b0 : b.length * 1 ≤ reachBytes := by
    rcases hd0 with h0 | ⟨el, sp, e, he⟩
    · rw [h0]; simp
    · have hs : (el.length + sp.length) * Try.prog.bytesOf 5 ≤ reachBytes := sized_slice hsz (j := 0) (t := 26) (e := 5) rfl (by rw [e]; rfl) Try.underlying26
      rw [show Try.prog.bytesOf 5 = 1 by kernel_rfl] at hs
      omega
  obtain ⟨A1, cap1, ps, rfl, hR1, kn1, hd1⟩ := open_pieces (hval 1 22 v1 rfl rfl) h1
  have b1 : ps.length * 32 ≤ reachBytes := by
    rcases hd1 with h0 | ⟨D, sp, e, he⟩
    · rw [h0]; simp
    · have hs : (((List.range ps.length).map D).length + sp.length) * Try.prog.bytesOf 28 ≤ reachBytes := sized_slice hsz (j := 1) (t := 22) (e := 28) rfl (by rw [e]; rfl) Try.underlying22
      rw [show Try.prog.bytesOf 28 = 32 by kernel_rfl, List.length_map, List.length_range] at hs
      omega
  have ok1 : ∀ a ∈ ps, a.Ok := fun a ha => ⟨(kn1 a ha).1, (kn1 a ha).2, by
    rcases hd1 with h0 | ⟨D, sp, e, he⟩
    · rw [h0] at ha; cases ha
    · obtain ⟨i, hi, rfl⟩ := List.getElem_of_mem ha
      have hm : ps[i].s.length ∈ d1.weights Try.prog 22 := by
        rw [e]
        unfold DataW.weights
        rw [Try.underlying22]
        simp only [List.mem_cons, List.mem_append]
        exact .inr (.inl (weightsAll_mem (List.mem_map.2 ⟨i, List.mem_range.2 hi, rfl⟩) (he i hi).weight))
      have := List.all_eq_true.1 hsz _ (DataW.weights_mem_each (j := 1) (t := 22) rfl rfl _ hm)
      have : ps[i].s.length ≤ reachBytes := by simpa using this
      have hr : reachBytes ≤ 140737488351232 := by decide
      omega⟩
  clear hA0 hval0
  refine (codecTakes_walk A0 cap0 b A1 cap1 ps W hR0 hc0 hn0 (by omega) hR1 ok1 (by omega)).mono fun e W' ⟨he, hg⟩ => ?_
  subst he
  have hpost : Rows.codecTakesSpec.post enc Try.prog Try.f4 false true false false W _ _ W' := post_of_below (pa := p0 ++ (p1 ++ [])) (pv := []) hW' (fun _ _ _ => (trodAll_cons_mk (shut_bool Try.underlying4 _) trodAll_mk0)) (fun sp hsp => (trodAll_cons_mk (WideElems.Trod_stays laidOut (by kernel_rfl) (of_decide_eq_true (by kernel_rfl)) h0 (fun x hx => hg.same (hlt0 x hx)) (fun x hx => hsp x (by simp [hx]))) (trodAll_cons_mk (WideElems.Trod_stays laidOut (by kernel_rfl) (of_decide_eq_true (by kernel_rfl)) h1 (fun x hx => hg.same (hlt1 x hx)) (fun x hx => hsp x (by simp [hx]))) trodAll_mk0))) (fun _ _ => rfl) (by simp) hg (ok_one (by kernel_rfl) rfl (okWide_bool_mk Try.underlying4 _))
  exact ⟨_, rfl, hpost⟩

theorem codecTakes_holds : Rows.CodecTakesSaid :=
  OpenClaim.holds_of_wide 4 Try.f4 rfl rfl rfl rfl rfl rfl rfl ⟨rfl, rfl, rfl, rfl, rfl⟩ rfl rfl rfl rfl rfl (by kernel_rfl) Try.func4 (by kernel_rfl)
    (of_decide_eq_true (by kernel_rfl)) (by unfold Func.isWrapper; first | (rw [if_pos (by decide +kernel)]; kernel_rfl) | (rw [if_neg (by decide +kernel)]; exact ⟨rfl, rfl⟩))
    (fun os started H enc _ => codecTakes_lifted os started H enc)
end Go.Proofs.Ytdjppchcnbfcoaa
