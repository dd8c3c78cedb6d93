/-
  The law's equal: a disk has the files that the document's has.
-/
import Derived.Test.YtdbbghmldaekhaaEStep3
namespace Go.Proofs.Ytdbbghmldaekhaa
open Go.ChangeShapes Go.WideShapes Go.ChangeAt Go.RowKit
set_option linter.unusedVariables false

theorem read_whole {s : St} (hs : s.Ok) (f : Int) (hf : f = 0 ∨ f = 1) (hd : s.down = false) : s.read f 0 4194304 = (s.now f.toNat, 0) := by
  have hm : s.may f = 0 := by unfold St.may; rw [hd]; rw [if_neg (by simp), if_pos hf]
  unfold St.read
  rw [if_neg (by omega), if_neg (by omega)]
  show (List.take 4194304 (List.drop 0 (s.now f.toNat)), (0 : Int)) = _
  have h := hs.now f.toNat
  unfold maxFile at h
  rw [List.drop_zero, List.take_of_length_le h]
/-- What Now answers at a pair. -/
def NowPost (L : List UInt8) (w : World) (e : Ending) (w' : World) : Prop := ∃ a n k, e = .returned (.slice a n k) ∧ n = L.length ∧ BRd w' a L ∧ Below w.heap.size w w'
theorem Duo.nowS {w0 w : World} {gd gr : Nat} {s t : St} {Z : Nat → Prop} (f : Int) (hf : f = 0 ∨ f = 1) (h : Duo w0 w gd gr s t Z) (hlim : t.pcs.length ≤ 8000000000000) : Calls Try.prog 66 #[.pointer (some ⟨gr, 0, none⟩), .int .i64 f] w (NowPost (t.now f.toNat) w) := by
  obtain ⟨a, kk, pc, qs, ka, kc, ks, R, hr⟩ := h.ref
  have hq : t.pcs.length = qs.length := by rw [hr.names, List.length_map]
  rcases hf with rfl | rfl
  · refine (now_0 w _ gr a kk pc qs ka kc ks R t hr (by omega)).mono ?_
    rintro e w' ⟨a, n, k, h1, h2, -, h3, -, h4⟩
    exact ⟨a, n, k, h1, h2, h3, h4⟩
  · refine (now_1 w _ gr a kk pc qs ka kc ks R t hr (by omega)).mono ?_
    rintro e w' ⟨a, n, k, h1, h2, -, h3, -, h4⟩
    exact ⟨a, n, k, h1, h2, h3, h4⟩
set_option maxHeartbeats 6400000 in
set_option maxRecDepth 100000 in
theorem equal_duo {w0 w : World} {gd gr : Nat} {s : St} {Z : Nat → Prop} (h : Duo w0 w gd gr s s Z) (hlim : s.pcs.length ≤ 1000000000000) : Calls Try.prog 23 #[.pointer (some ⟨gd, 0, none⟩), .pointer (some ⟨gr, 0, none⟩)] w fun e w' => e = .returned (.bool true) ∧ Below w.heap.size w w' := by
  have D1 := Lib.hid (fun (W : World) (hW : Below w.heap.size w W) => by obtain ⟨_, _, d⟩ := (h.below hW).disk; exact down_any gd d)
  have D2 := Lib.hid (fun (W : World) (hW : Below w.heap.size w W) => by obtain ⟨_, _, _, _, _, _, _, _, d⟩ := (h.below hW).ref; exact rdown_any W _ gr _ _ _ _ _ _ _ _ _ d)
  have D3 := Lib.hid (fun (W : World) (hW : Below w.heap.size w W) => by obtain ⟨_, _, d⟩ := (h.below hW).disk; exact calls_any gd d)
  have D4 := Lib.hid (fun (W : World) (hW : Below w.heap.size w W) => by obtain ⟨_, _, _, _, _, _, _, _, d⟩ := (h.below hW).ref; exact rcalls_any W _ gr _ _ _ _ _ _ _ _ _ d)
  have D5 := Lib.hid (fun (W : World) (hW : Below w.heap.size w W) => by obtain ⟨_, _, d⟩ := (h.below hW).disk; exact pending_any gd d)
  have RD := Lib.hid (fun (W : World) (hW : Below w.heap.size w W) (f : Int) => (h.below hW).readD f 0 4194304)
  have NW := Lib.hid (fun (W : World) (hW : Below w.heap.size w W) (f : Int) (hf : f = 0 ∨ f = 1) => (h.below hW).nowS f hf (by omega))
  obtain ⟨a, kk, pc, qs, ka, kc, ks, R, hr⟩ := h.ref
  have hq : s.pcs.length = qs.length := by rw [hr.names, List.length_map]
  obtain ⟨⟨-, -, c2, -, -, -, -⟩, -⟩ := box7 hr.box
  obtain ⟨pa, pk, hpc⟩ := row_sliceV hr.core.row
  rw [hpc, ← hq] at c2
  have hgl := hr.core.glt
  have RW := Lib.hid (fun (f : Int) (hf : f = 0 ∨ f = 1) (hd : s.down = false) => read_whole hr.ok f hf hd)
  have hlimI : (s.pcs.length : Int) ≤ 1000000000000 := by omega
  clear h hr hq hpc hlim
  generalize s.pcs.length = N at *
  generalize s.calls = C at *
  have hpd : Below w.heap.size w w.drew := (Below.refl _ _).drew
  go_enter Try.func23, Try.ntmps23
  go_wp2_with fail
  have c2' : w.drew.cell? ⟨gr, 2, none⟩ = some (.slice pa N pk) := c2
  go_region_held3 (fun w' => w'.cell? ⟨gr, 2, none⟩ = some (.slice pa N pk)) (first | assumption | go_keep)
    (first
      | (go_at_call 67; with_reducible refine (D1.out _ hpd).mono ?_; rintro e v1 ⟨rfl, rfl⟩)
      | (go_at_call 68; with_reducible refine (D2.out _ hpd).mono ?_; rintro e v1 ⟨rfl, rfl⟩)
      | (go_at_call 69; with_reducible refine (D3.out _ hpd).mono ?_; rintro e v1 ⟨rfl, rfl⟩)
      | (go_at_call 70; with_reducible refine (D4.out _ hpd).mono ?_; rintro e v1 ⟨rfl, rfl⟩)
      | (go_at_call 15; with_reducible refine (D5.out _ hpd).mono ?_; rintro e v1 ⟨rfl, rfl⟩))
  go_wp2_with fail
  clear D1 D3 D4 D5 c2 c2' hpd
  go_loopw [30] (fun idx wr => ∃ n : Nat, n ≤ 2 ∧ idx = .int .i64 (n : Int) ∧ Below w.heap.size w wr) (fun idx _ => 2 - (intOf idx).toNat)
  case atStart => exact ⟨0, by omega, rfl, (Below.refl _ _).drew⟩
  case round =>
    obtain ⟨n, hn, rfl, hb⟩ := hrel
    have HB := Lib.hid hb
    clear hb
    rcases (by omega : n = 0 ∨ n = 1 ∨ n = 2) with rfl | rfl | rfl
    · clear hn
      have RD0 := Lib.hid (RD.out wr HB.out 0)
      cases hdn : s.down with
      | true =>
        rw [hdn] at D2
        generalize s.read 0 0 4194304 = x at *
        obtain ⟨L, x2⟩ := x
        clear RW
        go_wp2_with fail
        refine RD0.out.mono ?_
        rintro e w1 ⟨a1, n1, k1, rfl, rfl, hr1, hb1⟩
        have HB1 := Lib.hid (bt HB.out hb1)
        clear hr1 hb1
        go_wp2_with fail
        refine (D2.out _ HB1.out).mono ?_
        rintro e w' ⟨rfl, rfl⟩
        go_wp2_with fail
        exact ⟨⟨1, by omega, rfl, HB1.out⟩, by simp [intOf]⟩
      | false =>
        have hrw := RW.out 0 (by omega) hdn
        rw [hrw] at RD0
        rw [hdn] at D2
        have NW0 := Lib.hid (fun W hW => NW.out W hW 0 (by omega))
        rw [show (0 : Int).toNat = 0 from rfl] at RD0 NW0
        generalize s.now 0 = L at *
        clear hrw RW
        go_wp2_with fail
        refine RD0.out.mono ?_
        rintro e w1 ⟨a1, n1, k1, rfl, rfl, hr1, hb1⟩
        have HB1 := Lib.hid (bt HB.out hb1)
        have R1 := Lib.hid hr1
        clear hr1 hb1
        go_wp2_with fail
        refine (D2.out _ HB1.out).mono ?_
        rintro e w' ⟨rfl, rfl⟩
        go_wp2_with fail
        refine (NW0.out _ HB1.out).mono ?_
        rintro e w2 ⟨a2, n2, k2, rfl, rfl, hr2, hb2⟩
        have HB2 := Lib.hid (bt HB1.out hb2)
        have HE := Lib.hid (equal_at (w := w2) (W := w2) (c1 := k1) (c2 := k2) (R1.out.below hb2) hr2 rfl rfl (Below.refl _ _))
        rw [beq_self_eq_true] at HE
        clear hr2 hb2 R1
        go_wp2_with fail
        refine HE.out.mono ?_
        rintro e w' ⟨rfl, rfl⟩
        go_wp2_with fail
        exact ⟨⟨1, by omega, rfl, HB2.out⟩, by simp [intOf]⟩
    · clear hn
      have RD0 := Lib.hid (RD.out wr HB.out 1)
      cases hdn : s.down with
      | true =>
        rw [hdn] at D2
        generalize s.read 1 0 4194304 = x at *
        obtain ⟨L, x2⟩ := x
        clear RW
        go_wp2_with fail
        refine RD0.out.mono ?_
        rintro e w1 ⟨a1, n1, k1, rfl, rfl, hr1, hb1⟩
        have HB1 := Lib.hid (bt HB.out hb1)
        clear hr1 hb1
        go_wp2_with fail
        refine (D2.out _ HB1.out).mono ?_
        rintro e w' ⟨rfl, rfl⟩
        go_wp2_with fail
        exact ⟨⟨2, by omega, rfl, HB1.out⟩, by simp [intOf]⟩
      | false =>
        have hrw := RW.out 1 (by omega) hdn
        rw [hrw] at RD0
        rw [hdn] at D2
        have NW0 := Lib.hid (fun W hW => NW.out W hW 1 (by omega))
        rw [show (1 : Int).toNat = 1 from rfl] at RD0 NW0
        generalize s.now 1 = L at *
        clear hrw RW
        go_wp2_with fail
        refine RD0.out.mono ?_
        rintro e w1 ⟨a1, n1, k1, rfl, rfl, hr1, hb1⟩
        have HB1 := Lib.hid (bt HB.out hb1)
        have R1 := Lib.hid hr1
        clear hr1 hb1
        go_wp2_with fail
        refine (D2.out _ HB1.out).mono ?_
        rintro e w' ⟨rfl, rfl⟩
        go_wp2_with fail
        refine (NW0.out _ HB1.out).mono ?_
        rintro e w2 ⟨a2, n2, k2, rfl, rfl, hr2, hb2⟩
        have HB2 := Lib.hid (bt HB1.out hb2)
        have HE := Lib.hid (equal_at (w := w2) (W := w2) (c1 := k1) (c2 := k2) (R1.out.below hb2) hr2 rfl rfl (Below.refl _ _))
        rw [beq_self_eq_true] at HE
        clear hr2 hb2 R1
        go_wp2_with fail
        refine HE.out.mono ?_
        rintro e w' ⟨rfl, rfl⟩
        go_wp2_with fail
        exact ⟨⟨2, by omega, rfl, HB2.out⟩, by simp [intOf]⟩
    · go_wp2_with fail
      go_ret
      exact ⟨rfl, HB.out⟩
end Go.Proofs.Ytdbbghmldaekhaa
