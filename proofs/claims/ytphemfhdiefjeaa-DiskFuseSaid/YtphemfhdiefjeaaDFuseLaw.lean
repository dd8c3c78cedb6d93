/-
  The law DiskFuse.
-/
import Derived.Test.YtphemfhdiefjeaaDFuseM
import Derived.Test.YtphemfhdiefjeaaDOwnLaw
import Derived.Test.YtphemfhdiefjeaaDSureLaw
namespace Go.Proofs.Ytphemfhdiefjeaa
open Go.ChangeShapes Go.WideShapes Go.ChangeAt Go.RowKit
set_option linter.unusedVariables false

theorem Pair.box {w0 w : World} {d c : Nat} {s t : St} {X : Nat → Prop} (h : Pair w0 w d c s t X) (o : Obj) : Pair w0 (w.alloc o) d c s t (fun k => k = w.heap.size) := by
  obtain ⟨v, pc, qs, kp, v', pc', qs', kp', h1, h2, h3, h4, h5, h6⟩ := h.with (alloc_below w o)
  exact ⟨v, pc, qs, kp, v', pc', qs', kp', h1, h2, fun k hk => ⟨(h3 k hk).1, fun e => (h3 k hk).2.1 ⟨by omega, by subst e; simp⟩, (h3 k hk).2.2⟩, fun k hk => ⟨(h4 k hk).1, fun e => (h4 k hk).2.1 ⟨by omega, by subst e; simp⟩, (h4 k hk).2.2⟩, fun k e => h5 k ⟨by omega, by subst e; simp⟩, h6⟩
theorem Pair.free {w0 w : World} {d c : Nat} {s t : St} {X : Nat → Prop} (h : Pair w0 w d c s t X) : Pair w0 w d c s t (fun _ => False) := by
  obtain ⟨v, pc, qs, kp, v', pc', qs', kp', h1, h2, h3, h4, h5, h6⟩ := h
  exact ⟨v, pc, qs, kp, v', pc', qs', kp', h1, h2, fun k hk => ⟨(h3 k hk).1, id, (h3 k hk).2.2⟩, fun k hk => ⟨(h4 k hk).1, id, (h4 k hk).2.2⟩, fun _ h => h.elim, h6⟩
theorem cellb {w w' : World} {b : Nat} (h : w'.heap[b]? = w.heap[b]?) (i : Nat) : w'.cell? ⟨b, i, none⟩ = w.cell? ⟨b, i, none⟩ := by
  unfold World.cell?
  rw [h]

set_option maxHeartbeats 12800000 in
set_option maxRecDepth 100000 in
theorem diskFuse_walk (A1 K : Option Addr) (c1 kc : Nat) (o1 : List OpV) (n : Int) (ks : List Bool) (w : World) (h1 : OpsRd w A1 o1) (r1 : ∀ o ∈ o1, o.Reads w) (hb : ∀ o ∈ o1, o.b.length ≤ 140737488351232) (hl1 : (o1.length : Int) ≤ 140737488351232) (hn : 0 ≤ n ∧ n ≤ 255) (hK : KRd w K ks) (hK0 : K = none → ks.length = 0) (hl2 : (ks.length : Int) ≤ 140737488351232) :
    Calls Try.prog 7 #[.slice A1 o1.length c1, .int .u8 n, .slice K ks.length kc] w fun e w' => e = .returned (.bool true) ∧ Below w.heap.size w w' := by
  have H1 := Lib.hid h1
  have R1 := Lib.hid r1
  have HBO := Lib.hid hb
  have HK := Lib.hid hK
  have HK0 := Lib.hid hK0
  have HKA : Hid (0 < ks.length → ∀ a, K = some a → a.block < w.heap.size) := fun h0 a ha => by
    obtain ⟨gk, ok, e, hg, _⟩ := HK.out h0
    rw [e] at ha
    obtain rfl := Option.some.inj ha
    exact hg
  obtain ⟨k, hk⟩ : ∃ k : Nat, n % 6 + 1 = (k : Int) := ⟨(n % 6 + 1).toNat, by omega⟩
  have hk1 : 1 ≤ k := by omega
  have hk6 : k ≤ 6 := by omega
  have hm : n % 6 = (k : Int) - 1 := by omega
  have htm : n.tmod 6 = (k : Int) - 1 := by rw [Int.tmod_eq_emod_of_nonneg hn.1]; exact hm
  have hkk : (k : Int) - 1 + 1 = (k : Int) := by omega
  clear h1 r1 hb hK hK0 hk hm
  go_enter Try.func7, Try.ntmps7
  go_wp2_with fail
  refine (new_pair w).mono ?_
  rintro e w1 ⟨d, rfl, hb1, hnext⟩
  have HNX := Lib.hid hnext
  have HB1 := Lib.hid hb1
  clear hnext hb1
  go_wp2_with fail
  refine (HNX.out w w1 (Below.refl _ _) (Below.refl _ _)).mono ?_
  rintro e w2 ⟨c, rfl, hb2, hp2⟩
  have P2 := Lib.hid hp2
  clear hp2 hb2 HNX
  go_wp2_with fail
  refine (begun_any _).mono ?_
  rintro e w3 ⟨rfl, hb3⟩
  have P3 := Lib.hid (P2.out.below hb3)
  clear hb3 P2
  have HSF := Lib.hid (setFuseP (k : Int) K kc ks.length ks P3.out (by omega) (HK.out.below (P3.out.bel)) HK0.out rfl HKA.out (by omega))
  have hlit : St.new.lit (k : Int) ks = ({ St.new with fuse := k, keep := ks }, 0) := by
    unfold St.lit
    rw [if_neg (by omega), if_neg (by omega)]
    rfl
  rw [hlit] at HSF
  clear hlit
  go_wp2_with fail
  refine HSF.out.mono ?_
  rintro e w4 ⟨rfl, hp4, -⟩
  have P4 := Lib.hid hp4
  have T4 := Lib.hid (Twin.new ks hk1 hk6)
  clear hp4 HSF P3
  go_wp2_with fail
  go_loopw [38] (fun idx wr => ∃ (j : Nat) (s t : St) (r : Nat), j ≤ o1.length ∧ idx = .int .i64 (j : Int) ∧ Pair w wr d c s t (fun _ => False) ∧ Twin s t k r ks) (fun idx _ => o1.length - (intOf idx).toNat)
  case atStart => exact ⟨0, _, _, _, by omega, rfl, P4.out, T4.out⟩
  case round =>
    clear P4 T4
    obtain ⟨j, s, t, r, hj, rfl, hp, ht⟩ := hrel
    have P := Lib.hid hp
    have T := Lib.hid ht
    clear hp ht
    by_cases hjn : j < o1.length
    · obtain ⟨ga, off, rfl, hga, k0, k1, k2, k3, k4, k5⟩ := (H1.out.below P.out.bel).cells j hjn
      have HR := Lib.hid (R1.out o1[j] (List.getElem_mem _))
      have HL := Lib.hid (HBO.out o1[j] (List.getElem_mem _))
      generalize o1[j] = o at *
      have PA := Lib.hid (fun ob => P.out.box ob)
      have SM := Lib.hid T.out.small
      by_cases hd2 : o.d = 2
      · rw [hd2] at k0
        have HS0 := Lib.hid (fun (W : World) (hW : Pair w W d c s t (fun k => k = wr.heap.size)) => syncP o.f hW (by have := SM.out; omega))
        have HS1 := Lib.hid (fun (W : World) (hW : Pair w W d c (s.sync o.f).1 t (fun k => k = wr.heap.size)) => syncP o.f hW.swap (by have := SM.out; omega))
        clear hd2
        rcases T.out.sync o.f with ⟨y1, y2, r', y3⟩ | ⟨y1, y2, y3⟩
        · have Y3 := Lib.hid y3
          rw [← y2] at HS1
          obtain ⟨R, hR⟩ : ∃ R, R = (s.sync o.f).2 := ⟨_, rfl⟩
          rw [← hR] at HS0 HS1 y1
          clear y2 y3 hR
          go_wp2_with fail
          refine (HS0.out _ (PA.out _)).mono ?_
          rintro e w5 ⟨rfl, hp5, hx5⟩
          have P5 := Lib.hid hp5
          obtain ⟨b0, b1, b2, b3, b4, b5⟩ := box6 ((hx5 _ rfl).trans (heap_alloc_new wr _))
          clear hx5 hp5 HS0 PA
          generalize wr.heap.size = bx at *
          go_wp2_with fail
          refine (HS1.out _ P5.out).mono ?_
          rintro e w6 ⟨rfl, hp6, -⟩
          have P6 := Lib.hid hp6.swap.free
          clear hp6 HS1 P5
          go_wp2_with fail
          go_roundw
          case measure => simp only [intOf]; omega
          case rel => exact ⟨j + 1, _, _, r', hjn, rfl, P6.out, Y3.out⟩
        · have UP := Lib.hid T.out.up
          have Y3 := Lib.hid y3
          have HCR : Hid (t.crashed ks = (t.crash ks, 0)) := by show _ = _; unfold St.crashed; rw [if_neg (by rw [UP.out]; simp)]
          rw [y1] at HS0
          clear HS1 y1 y3
          go_wp2_with fail
          refine (HS0.out _ (PA.out _)).mono ?_
          rintro e w5 ⟨rfl, hp5, -⟩
          have P5 := Lib.hid hp5
          obtain ⟨F, R, F', R', i1, i2⟩ := hp5.disks
          have HCL := Lib.hid (calls_any d i1)
          rw [y2] at HCL
          have HCP := Lib.hid (crashP K kc ks.length ks hp5.swap (HK.out.below hp5.bel) rfl HKA.out (by have := SM.out; omega))
          rw [HCR.out] at HCP
          clear i1 i2 hp5 HS0 PA y2 HCR
          generalize wr.heap.size = bx at *
          go_wp2_with fail
          refine HCL.out.mono ?_
          rintro e w' ⟨rfl, rfl⟩
          go_wp2_with fail
          refine HCP.out.mono ?_
          rintro e w6 ⟨rfl, hp6, -⟩
          have HSM := Lib.hid (sameP hp6.swap Y3.out)
          have PB := Lib.hid hp6.bel
          clear hp6 HCP
          go_wp2_with fail
          refine HSM.out.mono ?_
          rintro e w7 ⟨rfl, hb7⟩
          have PB7 := Lib.hid (bt PB.out hb7)
          clear hb7
          go_wp2_with fail
          go_ret
          exact ⟨rfl, PB7.out⟩
      · by_cases hd1 : o.d = 1
        · rw [hd1] at k0
          clear hd1 hd2
          have HM := Lib.hid (T.out.truncate o.f o.k)
          have XD : ∀ (W : World) (g1 g2 : Nat) (s1 t1 : St), s1.pcs.length ≤ 25165824 → Pair w W g1 g2 s1 t1 (fun k => k = wr.heap.size) → Calls Try.prog 22 #[.pointer (some ⟨g1, 0, none⟩), .int .i64 o.f, .int .i64 o.k] W fun e w' => e = .returned (.int .i64 (s1.truncate o.f o.k).2) ∧ Pair w w' g1 g2 (s1.truncate o.f o.k).1 t1 (fun k => k = wr.heap.size) ∧ ∀ k, k = wr.heap.size → w'.heap[k]? = W.heap[k]? := fun W g1 g2 s1 t1 hl hW => truncateP o.f o.k hW (by omega)
          have HD0 := Lib.hid (fun (W : World) (hW : Pair w W d c s t (fun k => k = wr.heap.size)) => XD W d c s t SM.out.2 hW)
          have HD1 := Lib.hid (fun (W : World) (hW : Pair w W d c s (t.truncate o.f o.k).1 (fun k => k = wr.heap.size)) => XD W d c s _ SM.out.2 hW)
          have HC0 := Lib.hid (fun (W : World) (hW : Pair w W d c s t (fun k => k = wr.heap.size)) => (XD W c d t s SM.out.1 hW.swap).mono fun e w' h => (⟨h.1, h.2.1.swap, h.2.2⟩ : e = .returned (.int .i64 (t.truncate o.f o.k).2) ∧ Pair w w' d c s (t.truncate o.f o.k).1 (fun k => k = wr.heap.size) ∧ ∀ k, k = wr.heap.size → w'.heap[k]? = W.heap[k]?))
          have HC1 := Lib.hid (fun (W : World) (hW : Pair w W d c (s.truncate o.f o.k).1 t (fun k => k = wr.heap.size)) => (XD W c d t _ SM.out.1 hW.swap).mono fun e w' h => (⟨h.1, h.2.1.swap, h.2.2⟩ : e = .returned (.int .i64 (t.truncate o.f o.k).2) ∧ Pair w w' d c (s.truncate o.f o.k).1 (t.truncate o.f o.k).1 (fun k => k = wr.heap.size) ∧ ∀ k, k = wr.heap.size → w'.heap[k]? = W.heap[k]?))
          clear XD
          generalize s.truncate o.f o.k = x at *
          generalize t.truncate o.f o.k = y at *
          obtain ⟨x1, x2⟩ := x
          obtain ⟨y1, y2⟩ := y
          simp only at HD0 HD1 HC0 HC1
          have PW := Lib.hid (PA.out (.cells #[.int .i64 1, .int .i64 o.f, .int .i64 o.k, .int .i64 o.n, .slice o.A o.b.length o.ac, .slice o.K o.ks.length o.kc] 31))
          have hbx0 := heap_alloc_new wr (.cells #[.int .i64 1, .int .i64 o.f, .int .i64 o.k, .int .i64 o.n, .slice o.A o.b.length o.ac, .slice o.K o.ks.length o.kc] 31)
          clear PA
          rcases HM.out with ⟨ya, yb, r', yt⟩ | ⟨ya, yb, yc, yu, yl, ye⟩
          · have YT := Lib.hid yt
            obtain rfl : x2 = y2 := yb
            clear yt
            go_wp2_with fail
            generalize wr.alloc (.cells #[.int .i64 1, .int .i64 o.f, .int .i64 o.k, .int .i64 o.n, .slice o.A o.b.length o.ac, .slice o.K o.ks.length o.kc] 31) = W0 at *
            generalize wr.heap.size = bx at *
            have hpd : Pair w W0.drew d c s t (fun k => k = bx) := PW.out.below (Below.refl _ _).drew
            obtain ⟨b0, b1, b2, b3, b4, b5⟩ := box6 hbx0
            clear hbx0 b0 b3 b5 PW k0 k1 k2 k3 k4 k5
            go_region_held3 (fun w' => w'.cell? ⟨bx, 1, none⟩ = some (.int .i64 o.f) ∧ w'.cell? ⟨bx, 2, none⟩ = some (.int .i64 o.k))
              (((try go_split_ands); refine ⟨?_, ?_⟩ <;> first | assumption | (rw [cellb (hx _ rfl)]; assumption) | go_keep))
              (first | (go_at_call 22; with_reducible refine (HD0.out _ hpd).mono ?_; rintro e w1 ⟨rfl, hp, hx⟩) | (go_at_call 22; with_reducible refine (HC0.out _ hpd).mono ?_; rintro e w1 ⟨rfl, hp, hx⟩) | (go_at_call 22; with_reducible refine (HD1.out _ (by assumption)).mono ?_; rintro e w1 ⟨rfl, hp, hx⟩) | (go_at_call 22; with_reducible refine (HC1.out _ (by assumption)).mono ?_; rintro e w1 ⟨rfl, hp, hx⟩))
            all_goals
              have PF := Lib.hid hp.free
              clear hp HD0 HD1 HC0 HC1 hpd
              go_wp2_with fail
              go_roundw
              case measure => simp only [intOf]; omega
              case rel => exact ⟨j + 1, _, _, r', hjn, rfl, PF.out, YT.out⟩
          · obtain rfl : x2 = 6 := ya
            obtain rfl : y2 = 0 := yb
            have Y3 := Lib.hid ye
            have HCR : Hid (y1.crashed ks = (y1.crash ks, 0)) := by show _ = _; unfold St.crashed; rw [if_neg (by rw [show y1.down = false from yu]; simp)]
            have YL := Lib.hid yl
            have YC := Lib.hid yc
            clear ye yu yl yc
            go_wp2_with fail
            generalize wr.alloc (.cells #[.int .i64 1, .int .i64 o.f, .int .i64 o.k, .int .i64 o.n, .slice o.A o.b.length o.ac, .slice o.K o.ks.length o.kc] 31) = W0 at *
            generalize wr.heap.size = bx at *
            have hpd : Pair w W0.drew d c s t (fun k => k = bx) := PW.out.below (Below.refl _ _).drew
            obtain ⟨b0, b1, b2, b3, b4, b5⟩ := box6 hbx0
            clear hbx0 b0 b3 b5 PW k0 k1 k2 k3 k4 k5
            go_region_held3 (fun w' => w'.cell? ⟨bx, 1, none⟩ = some (.int .i64 o.f) ∧ w'.cell? ⟨bx, 2, none⟩ = some (.int .i64 o.k))
              (((try go_split_ands); refine ⟨?_, ?_⟩ <;> first | assumption | (rw [cellb (hx _ rfl)]; assumption) | go_keep))
              (first | (go_at_call 22; with_reducible refine (HD0.out _ hpd).mono ?_; rintro e w1 ⟨rfl, hp, hx⟩) | (go_at_call 22; with_reducible refine (HC0.out _ hpd).mono ?_; rintro e w1 ⟨rfl, hp, hx⟩) | (go_at_call 22; with_reducible refine (HD1.out _ (by assumption)).mono ?_; rintro e w1 ⟨rfl, hp, hx⟩) | (go_at_call 22; with_reducible refine (HC1.out _ (by assumption)).mono ?_; rintro e w1 ⟨rfl, hp, hx⟩))
            all_goals
              have hp5 := hp
              obtain ⟨F, R, F', R', i1, i2⟩ := hp5.disks
              have HCL := Lib.hid (calls_any d i1)
              rw [show x1.calls = _ from YC.out] at HCL
              have HCP := Lib.hid (crashP K kc ks.length ks hp5.swap (HK.out.below hp5.bel) rfl HKA.out (by have h9 : y1.pcs.length ≤ 4000000000000 := YL.out; omega))
              rw [HCR.out] at HCP
              clear i1 i2 hp5 hp HD0 HD1 HC0 HC1 hpd HCR
              go_wp2_with fail
              refine HCL.out.mono ?_
              rintro e w' ⟨rfl, rfl⟩
              go_wp2_with fail
              refine HCP.out.mono ?_
              rintro e w6 ⟨rfl, hp6, -⟩
              have HSM := Lib.hid (sameP hp6.swap Y3.out)
              have PB := Lib.hid hp6.bel
              clear hp6 HCP
              go_wp2_with fail
              refine HSM.out.mono ?_
              rintro e w7 ⟨rfl, hb7⟩
              have PB7 := Lib.hid (bt PB.out hb7)
              clear hb7
              go_wp2_with fail
              go_ret
              exact ⟨rfl, PB7.out⟩
        · have hd1x := hd1
          have HM := Lib.hid (T.out.write o.f o.k o.b)
          have XD : ∀ (W : World) (g1 g2 : Nat) (s1 t1 : St), s1.pcs.length ≤ 25165824 → Pair w W g1 g2 s1 t1 (fun k => k = wr.heap.size) → Calls Try.prog 19 #[.pointer (some ⟨g1, 0, none⟩), .int .i64 o.f, .int .i64 o.k, .slice o.A o.b.length o.ac] W fun e w' => e = .returned (.int .i64 (s1.write o.f o.k o.b).2) ∧ Pair w w' g1 g2 (s1.write o.f o.k o.b).1 t1 (fun k => k = wr.heap.size) ∧ ∀ k, k = wr.heap.size → w'.heap[k]? = W.heap[k]? := fun W g1 g2 s1 t1 hl hW => writeP o.f o.k o.A o.ac o.b.length o.b hW (HR.out.b.below hW.bel) rfl (by have := HL.out; omega) (by omega)
          have HD0 := Lib.hid (fun (W : World) (hW : Pair w W d c s t (fun k => k = wr.heap.size)) => XD W d c s t SM.out.2 hW)
          have HD1 := Lib.hid (fun (W : World) (hW : Pair w W d c s (t.write o.f o.k o.b).1 (fun k => k = wr.heap.size)) => XD W d c s _ SM.out.2 hW)
          have HC0 := Lib.hid (fun (W : World) (hW : Pair w W d c s t (fun k => k = wr.heap.size)) => (XD W c d t s SM.out.1 hW.swap).mono fun e w' h => (⟨h.1, h.2.1.swap, h.2.2⟩ : e = .returned (.int .i64 (t.write o.f o.k o.b).2) ∧ Pair w w' d c s (t.write o.f o.k o.b).1 (fun k => k = wr.heap.size) ∧ ∀ k, k = wr.heap.size → w'.heap[k]? = W.heap[k]?))
          have HC1 := Lib.hid (fun (W : World) (hW : Pair w W d c (s.write o.f o.k o.b).1 t (fun k => k = wr.heap.size)) => (XD W c d t _ SM.out.1 hW.swap).mono fun e w' h => (⟨h.1, h.2.1.swap, h.2.2⟩ : e = .returned (.int .i64 (t.write o.f o.k o.b).2) ∧ Pair w w' d c (s.write o.f o.k o.b).1 (t.write o.f o.k o.b).1 (fun k => k = wr.heap.size) ∧ ∀ k, k = wr.heap.size → w'.heap[k]? = W.heap[k]?))
          clear XD
          generalize s.write o.f o.k o.b = x at *
          generalize t.write o.f o.k o.b = y at *
          obtain ⟨x1, x2⟩ := x
          obtain ⟨y1, y2⟩ := y
          simp only at HD0 HD1 HC0 HC1
          have PW := Lib.hid (PA.out (.cells #[.int .i64 o.d, .int .i64 o.f, .int .i64 o.k, .int .i64 o.n, .slice o.A o.b.length o.ac, .slice o.K o.ks.length o.kc] 31))
          have hbx0 := heap_alloc_new wr (.cells #[.int .i64 o.d, .int .i64 o.f, .int .i64 o.k, .int .i64 o.n, .slice o.A o.b.length o.ac, .slice o.K o.ks.length o.kc] 31)
          clear PA
          rcases HM.out with ⟨ya, yb, r', yt⟩ | ⟨ya, yb, yc, yu, yl, ye⟩
          · have YT := Lib.hid yt
            obtain rfl : x2 = y2 := yb
            clear yt
            go_wp2_with fail
            generalize wr.alloc (.cells #[.int .i64 o.d, .int .i64 o.f, .int .i64 o.k, .int .i64 o.n, .slice o.A o.b.length o.ac, .slice o.K o.ks.length o.kc] 31) = W0 at *
            generalize wr.heap.size = bx at *
            have hpd : Pair w W0.drew d c s t (fun k => k = bx) := PW.out.below (Below.refl _ _).drew
            obtain ⟨b0, b1, b2, b3, b4, b5⟩ := box6 hbx0
            clear hbx0 b0 b3 b5 PW k0 k1 k2 k3 k4 k5
            go_region_held3 (fun w' => w'.cell? ⟨bx, 1, none⟩ = some (.int .i64 o.f) ∧ w'.cell? ⟨bx, 2, none⟩ = some (.int .i64 o.k) ∧ w'.cell? ⟨bx, 4, none⟩ = some (.slice o.A o.b.length o.ac))
              (((try go_split_ands); refine ⟨?_, ?_, ?_⟩ <;> first | assumption | (rw [cellb (hx _ rfl)]; assumption) | go_keep))
              (first | (go_at_call 19; with_reducible refine (HD0.out _ hpd).mono ?_; rintro e w1 ⟨rfl, hp, hx⟩) | (go_at_call 19; with_reducible refine (HC0.out _ hpd).mono ?_; rintro e w1 ⟨rfl, hp, hx⟩) | (go_at_call 19; with_reducible refine (HD1.out _ (by assumption)).mono ?_; rintro e w1 ⟨rfl, hp, hx⟩) | (go_at_call 19; with_reducible refine (HC1.out _ (by assumption)).mono ?_; rintro e w1 ⟨rfl, hp, hx⟩))
            all_goals
              have PF := Lib.hid hp.free
              clear hp HD0 HD1 HC0 HC1 hpd
              go_wp2_with fail
              go_roundw
              case measure => simp only [intOf]; omega
              case rel => exact ⟨j + 1, _, _, r', hjn, rfl, PF.out, YT.out⟩
          · obtain rfl : x2 = 6 := ya
            obtain rfl : y2 = 0 := yb
            have Y3 := Lib.hid ye
            have HCR : Hid (y1.crashed ks = (y1.crash ks, 0)) := by show _ = _; unfold St.crashed; rw [if_neg (by rw [show y1.down = false from yu]; simp)]
            have YL := Lib.hid yl
            have YC := Lib.hid yc
            clear ye yu yl yc
            go_wp2_with fail
            generalize wr.alloc (.cells #[.int .i64 o.d, .int .i64 o.f, .int .i64 o.k, .int .i64 o.n, .slice o.A o.b.length o.ac, .slice o.K o.ks.length o.kc] 31) = W0 at *
            generalize wr.heap.size = bx at *
            have hpd : Pair w W0.drew d c s t (fun k => k = bx) := PW.out.below (Below.refl _ _).drew
            obtain ⟨b0, b1, b2, b3, b4, b5⟩ := box6 hbx0
            clear hbx0 b0 b3 b5 PW k0 k1 k2 k3 k4 k5
            go_region_held3 (fun w' => w'.cell? ⟨bx, 1, none⟩ = some (.int .i64 o.f) ∧ w'.cell? ⟨bx, 2, none⟩ = some (.int .i64 o.k) ∧ w'.cell? ⟨bx, 4, none⟩ = some (.slice o.A o.b.length o.ac))
              (((try go_split_ands); refine ⟨?_, ?_, ?_⟩ <;> first | assumption | (rw [cellb (hx _ rfl)]; assumption) | go_keep))
              (first | (go_at_call 19; with_reducible refine (HD0.out _ hpd).mono ?_; rintro e w1 ⟨rfl, hp, hx⟩) | (go_at_call 19; with_reducible refine (HC0.out _ hpd).mono ?_; rintro e w1 ⟨rfl, hp, hx⟩) | (go_at_call 19; with_reducible refine (HD1.out _ (by assumption)).mono ?_; rintro e w1 ⟨rfl, hp, hx⟩) | (go_at_call 19; with_reducible refine (HC1.out _ (by assumption)).mono ?_; rintro e w1 ⟨rfl, hp, hx⟩))
            all_goals
              have hp5 := hp
              obtain ⟨F, R, F', R', i1, i2⟩ := hp5.disks
              have HCL := Lib.hid (calls_any d i1)
              rw [show x1.calls = _ from YC.out] at HCL
              have HCP := Lib.hid (crashP K kc ks.length ks hp5.swap (HK.out.below hp5.bel) rfl HKA.out (by have h9 : y1.pcs.length ≤ 4000000000000 := YL.out; omega))
              rw [HCR.out] at HCP
              clear i1 i2 hp5 hp HD0 HD1 HC0 HC1 hpd HCR
              go_wp2_with fail
              refine HCL.out.mono ?_
              rintro e w' ⟨rfl, rfl⟩
              go_wp2_with fail
              refine HCP.out.mono ?_
              rintro e w6 ⟨rfl, hp6, -⟩
              have HSM := Lib.hid (sameP hp6.swap Y3.out)
              have PB := Lib.hid hp6.bel
              clear hp6 HCP
              go_wp2_with fail
              refine HSM.out.mono ?_
              rintro e w7 ⟨rfl, hb7⟩
              have PB7 := Lib.hid (bt PB.out hb7)
              clear hb7
              go_wp2_with fail
              go_ret
              exact ⟨rfl, PB7.out⟩
    · have T1 := Lib.hid T.out.down
      have T2 := T.out.less
      obtain ⟨F, R, F', R', i1, i2⟩ := P.out.disks
      have HDN := Lib.hid (down_any d i1)
      have HCL := Lib.hid (calls_any d i1)
      rw [T1.out] at HDN
      have PB := Lib.hid P.out.bel
      generalize s.calls = cs at *
      clear i1 i2
      obtain rfl : j = o1.length := by omega
      go_wp2_with fail
      refine HDN.out.mono ?_
      rintro e w' ⟨rfl, rfl⟩
      go_wp2_with fail
      refine HCL.out.mono ?_
      rintro e w' ⟨rfl, rfl⟩
      go_wp2_with fail
      go_ret
      exact ⟨rfl, PB.out⟩

set_option maxRecDepth 100000 in
theorem diskFuse_lifted (os : Os) (started : os.Started) (H : Type) (enc : TypeId × Value → H) :
    ReturnsInHanded {} Try.checked os 7 .any (Rows.diskFuseSpec.pre6 enc Try.prog Try.f7 Rows.diskFuseRow.domain false) (Rows.diskFuseSpec.post enc Try.prog Try.f7 false true false false) := by
  refine returnsInHanded_of_change_sized (C := Try.checked) own started (by kernel_rfl) Try.func7
    (ChangeSpec.witness6 (enc := enc) (C := Try.checked) false ⟨#[], #[.slice none 0 0, .int .u8 0, .slice none 0 0], []⟩ 8 (by kernel_rfl) (by kernel_rfl) (by kernel_rfl) (by kernel_rfl)) ?_
  intro W base args ds gs before hval0 hW _ hsz _
  have hval : ∀ (j : Nat) t v, Try.f7.params[j]? = some t → args[j]? = some v → Value.okWide Try.prog W .any base t v := hval0
  have hW' := hW
  obtain ⟨p, q, hA0, hV, rfl, hfz, hnd⟩ := hW
  have hA : DataW.TrodAll enc Try.prog W 0 (fun _ => true) true Try.f7.params.toList args.toList ds p := hA0
  rw [Try.params7] at hA hval
  obtain ⟨v0, vs0, d0, ds0, p0, q0, hargs, rfl, rfl, h0, r0⟩ := trodAll_cons hA
  obtain ⟨v1, vs1, d1, ds1, p1, q1, rfl, rfl, rfl, h1, r1⟩ := trodAll_cons r0
  obtain ⟨v2, vs2, d2, ds2, p2, q2, rfl, rfl, rfl, h2, r2⟩ := trodAll_cons r1
  obtain ⟨rfl, rfl, rfl⟩ := trodAll_nil r2
  obtain rfl : args = #[v0, v1, v2] := by cases args; simp_all
  obtain ⟨rfl, rfl⟩ := trodVars_none hV
  simp only [List.append_nil] at hW'
  have hlt0 : ∀ x ∈ p0, x.block < W.heap.size := fun x hx => hW'.lt x (by simp [hx])
  have hlt1 : ∀ x ∈ p1, x.block < W.heap.size := fun x hx => hW'.lt x (by simp [hx])
  have hlt2 : ∀ x ∈ p2, x.block < W.heap.size := fun x hx => hW'.lt x (by simp [hx])
  have hreach : reachBytes ≤ 140737488351232 := by decide
  obtain ⟨A0, cap0, o1, rfl, hR0, rd0, hd0⟩ := open_ops (hval 0 22 v0 rfl rfl) h0
  have b0 : o1.length * 80 ≤ reachBytes := by
    rcases hd0 with h0 | ⟨D, sp, e, he⟩
    · rw [h0]; simp
    · have hs : (((List.range o1.length).map D).length + sp.length) * Try.prog.bytesOf 31 ≤ reachBytes := sized_slice hsz (j := 0) (t := 22) (e := 31) rfl (by rw [e]; rfl) Try.underlying22
      rw [show Try.prog.bytesOf 31 = 80 by kernel_rfl, List.length_map, List.length_range] at hs
      omega
  have ok0 : ∀ o ∈ o1, o.b.length ≤ reachBytes := fun o ho => by
    rcases hd0 with h0 | ⟨D, sp, e, he⟩
    · rw [h0] at ho; cases ho
    · obtain ⟨i, hi, rfl⟩ := List.getElem_of_mem ho
      rcases (he i hi).weightB with h0 | ⟨n, hn, hle⟩
      · rw [h0]; exact Nat.zero_le _
      · have hm : n ∈ d0.weights Try.prog 22 := by
          rw [e]
          unfold DataW.weights
          rw [Try.underlying22]
          simp only [List.mem_cons, List.mem_append]
          exact .inr (.inl (weightsAll_mem (List.mem_map.2 ⟨i, List.mem_range.2 hi, rfl⟩) hn))
        have := List.all_eq_true.1 hsz _ (DataW.weights_mem_each (j := 0) (t := 22) rfl rfl _ hm)
        have : n ≤ reachBytes := by simpa using this
        omega
  obtain ⟨n, rfl, -, -, w1⟩ := open_int Try.underlying5 (hval 1 5 v1 rfl rfl) h1
  have i1 : 0 ≤ n ∧ n ≤ 255 := by simpa [Lit.wf, IntKind.min, IntKind.max, IntKind.signed, IntKind.bits] using w1
  obtain ⟨A2, cap2, ks, rfl, hR2, hc2, hn2, hd2⟩ := open_bools_ (hval 2 29 v2 rfl rfl) h2
  have b2 : ks.length ≤ reachBytes := by
    rcases hd2 with h0 | ⟨el, sp, e, he⟩
    · rw [h0]; simp
    · have hs : (el.length + sp.length) * Try.prog.bytesOf 4 ≤ reachBytes := sized_slice hsz (j := 2) (t := 29) (e := 4) rfl (by rw [e]; rfl) Try.underlying29
      rw [show Try.prog.bytesOf 4 = 1 by kernel_rfl] at hs
      omega
  clear hA0 hval0
  refine (diskFuse_walk A0 A2 cap0 cap2 o1 n ks W hR0 rd0 (fun o ho => by have := ok0 o ho; omega) (by omega) i1 hR2 (fun e => by have := hn2 e; omega) (by omega)).mono fun e W' ⟨he, hg⟩ => ?_
  subst he
  have hpost : Rows.diskFuseSpec.post enc Try.prog Try.f7 false true false false W _ _ W' := post_of_below (pa := p0 ++ (p1 ++ (p2 ++ []))) (pv := []) hW' (fun _ _ _ => (trodAll_cons_mk (shut_bool Try.underlying4 _) trodAll_mk0)) (fun sp hsp => (trodAll_cons_mk (WideElems.Trod_stays laidOut (by kernel_rfl) (of_decide_eq_true (by kernel_rfl)) h0 (fun x hx => hg.same (hlt0 x hx)) (fun x hx => hsp x (by simp [hx]))) (trodAll_cons_mk (WideElems.Trod_stays laidOut (by kernel_rfl) (of_decide_eq_true (by kernel_rfl)) h1 (fun x hx => hg.same (hlt1 x hx)) (fun x hx => hsp x (by simp [hx]))) (trodAll_cons_mk (WideElems.Trod_stays laidOut (by kernel_rfl) (of_decide_eq_true (by kernel_rfl)) h2 (fun x hx => hg.same (hlt2 x hx)) (fun x hx => hsp x (by simp [hx]))) trodAll_mk0)))) (fun _ _ => rfl) (by simp) hg (ok_one (by kernel_rfl) rfl (okWide_bool_mk Try.underlying4 _))
  exact ⟨_, rfl, hpost⟩

theorem diskFuse_holds : Rows.DiskFuseSaid :=
  OpenClaim.holds_of_wide 7 Try.f7 rfl rfl rfl rfl rfl rfl rfl ⟨rfl, rfl, rfl, rfl, rfl⟩ rfl rfl rfl rfl rfl (by kernel_rfl) Try.func7 (by kernel_rfl)
    (of_decide_eq_true (by kernel_rfl)) (by unfold Func.isWrapper; first | (rw [if_pos (by decide +kernel)]; kernel_rfl) | (rw [if_neg (by decide +kernel)]; exact ⟨rfl, rfl⟩))
    (fun os started H enc _ => diskFuse_lifted os started H enc)
end Go.Proofs.Ytphemfhdiefjeaa
