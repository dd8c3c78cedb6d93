/-
  DiskWhole: behind a crash each part of one write that lies within a sector is there whole, or not at all. No condition beyond the form's own.
-/
import Derived.Test.YtdbbghmldaekhaaDRep
import Derived.Test.YtdbbghmldaekhaaDWholeM
import Derived.Test.YtdbbghmldaekhaaDOwnLaw
import Derived.Test.YtdbbghmldaekhaaDSureLaw
import Derived.Deep.OwnRows
namespace Go.Proofs.Ytdbbghmldaekhaa
open Go.ChangeShapes Go.WideShapes Go.ChangeAt Go.RowKit Go.Deep
set_option linter.unusedVariables false

theorem whole_states (from_ n : Nat) (ks : List Bool) (hf : from_ ≤ 1999) (h1 : 1 ≤ n) (hn : n ≤ 3000) :
    ∃ s1 s2 s3 : St, St.new.write 0 0 (List.replicate 6000 1) = (s1, 0) ∧ s1.pcs.length ≤ 6000 ∧ s1.sync 0 = (s2, 0) ∧ s2.pcs.length ≤ 6000 ∧ s2.write 0 (from_ : Int) (List.replicate n 2) = (s3, 0) ∧ s3.pcs.length = (from_ + n - 1) / 512 - from_ / 512 + 1 ∧ s3.crashed ks = (s3.crash ks, 0) ∧
      ((s3.crash ks).restart.now 0).length = 6000 ∧ ∀ i, i < 6000 → ((s3.crash ks).restart.now 0).getD i 0 = if from_ ≤ i ∧ i < from_ + n ∧ ks.getD (i / 512 - from_ / 512) false = true then 2 else 1 := by
  obtain ⟨B1, hB1⟩ : ∃ B1 : List UInt8, B1 = List.replicate 6000 1 := ⟨_, rfl⟩
  have hl1 : B1.length = 6000 := by rw [hB1]; exact List.length_replicate
  have hg1 : ∀ i, i < 6000 → B1.getD i 0 = 1 := fun i hi => by rw [hB1, List.getD_eq_getElem?_getD, List.getElem?_replicate, if_pos hi]; rfl
  rw [← hB1]
  clear hB1
  have hl2 : (List.replicate n (2 : UInt8)).length = n := List.length_replicate
  obtain ⟨s1, hs1⟩ : ∃ s1 : St, s1 = { St.new with pcs := St.new.pcs ++ parts 0 0 B1, calls := next64 St.new.calls, fuse := 0 } := ⟨_, rfl⟩
  have w1 : St.new.write 0 0 B1 = (s1, 0) := by rw [hs1]; exact write_plain (s := St.new) 0 0 B1 (.inl rfl) rfl rfl (by omega)
  have hp := parts_le 0 0 B1
  have hp1 : s1.pcs = parts 0 0 B1 := by rw [hs1]; rfl
  have hn1 : s1.now 0 = B1 := by
    obtain ⟨f1, f2⟩ := foldF_parts 0 6000 0 B1 [] (by omega)
    have e : s1.now 0 = foldF 0 (parts 0 0 B1) [] := by rw [hs1]; rfl
    rw [e]
    refine eq_of_getD (by rw [f1, hl1]; rfl) fun i hi => ?_
    rw [f1, hl1] at hi
    rw [f2 i, hl1, Nat.sub_zero]
    have hi' : i < 6000 := by simpa using hi
    rw [if_pos ⟨Nat.zero_le _, by omega⟩]
  obtain ⟨s2, hs2⟩ : ∃ s2 : St, s2 = (s1.settle 0).count.1 := ⟨_, rfl⟩
  have c2 : (s1.settle 0).count = (s2, 0) := by
    rw [hs2]
    have hf0 : (s1.settle 0).fuse = 0 := by rw [hs1]; rfl
    unfold St.count
    rw [if_neg (by omega)]
  have w2 : s1.sync 0 = (s2, 0) := by
    unfold St.sync
    have hm : s1.may 0 = 0 := by rw [hs1]; rfl
    have hf : ¬ s1.fuse = 1 := by rw [hs1]; simp
    rw [if_neg (by rw [hm]; simp), if_neg hf]
    exact c2
  have e2 : s2 = { s1.settle 0 with calls := next64 (s1.settle 0).calls, fuse := (s1.settle 0).fuse - 1 } := by
    have hf0 : (s1.settle 0).fuse = 0 := by rw [hs1]; rfl
    rw [hs2]
    unfold St.count
    rw [if_neg (by omega)]
  have p2 : s2.pcs = [] := by
    rw [e2]
    show others 0 s1.pcs = []
    rw [hp1]
    exact List.filter_eq_nil_iff.2 fun p hp => by rw [(parts_file 0 0 _ p hp).1]; simp
  have d2 : s2.down = false := by rw [e2, hs1]; rfl
  have u2 : s2.fuse = 0 := by rw [e2, hs1]; rfl
  have n2 : s2.sure 0 = B1 := by rw [e2]; exact hn1
  have w3 := write_plain (s := s2) 0 from_ (List.replicate n 2) (.inl rfl) d2 u2 (by omega)
  obtain ⟨k1, k2⟩ := fold_kept 0 n from_ (List.replicate n 2) B1 ks (by omega) (by omega)
  refine ⟨s1, s2, _, w1, by rw [hp1]; omega, w2, by rw [p2]; simp, w3, ?_, ?_, ?_, ?_⟩
  · show (s2.pcs ++ _).length = _
    rw [p2, List.nil_append, parts_count 0 n from_ _ (by omega) (by omega), hl2]
  · unfold St.crashed
    rw [if_neg (by show ¬ s2.down = true; rw [d2]; simp)]
  · show (foldF 0 (kept ks (s2.pcs ++ _)) (s2.sure 0)).length = _
    rw [p2, n2, List.nil_append, k1, hl1]
  · intro i hi
    show (foldF 0 (kept ks (s2.pcs ++ _)) (s2.sure 0)).getD i 0 = _
    rw [p2, n2, List.nil_append, k2 i, hl2]
    split
    · next h => rw [List.getD_eq_getElem?_getD, List.getElem?_replicate, if_pos (by omega)]; rfl
    · exact hg1 i hi
set_option maxHeartbeats 12800000 in
set_option maxRecDepth 100000 in
theorem diskWhole_walk (a b : Int) (K : Option Addr) (kc : Nat) (ks : List Bool) (w : World) (ha : 0 ≤ a ∧ a ≤ 65535) (hb : 0 ≤ b ∧ b ≤ 65535) (hK : KRd w K ks) (hl2 : (ks.length : Int) ≤ 140737488351232) :
    Calls Try.prog 3 #[.int .u16 a, .int .u16 b, .slice K ks.length kc] w fun e w' => e = .returned (.bool true) ∧ Below w.heap.size w w' := by
  have HK := Lib.hid hK
  have HKA : Hid (0 < ks.length → ∀ a, K = some a → a.block < w.heap.size) := fun h0 a ha => by
    obtain ⟨gk, ok, e, hg, _⟩ := HK.out h0
    rw [e] at ha
    obtain rfl := Option.some.inj ha
    exact hg
  obtain ⟨fr, hfr⟩ : ∃ fr : Nat, a.tmod 2000 = (fr : Int) := ⟨(a.tmod 2000).toNat, by rw [Int.tmod_eq_emod_of_nonneg ha.1]; omega⟩
  obtain ⟨m, hm⟩ : ∃ m : Nat, b.tmod 3000 = (m : Int) := ⟨(b.tmod 3000).toNat, by rw [Int.tmod_eq_emod_of_nonneg hb.1]; omega⟩
  have hf1 : fr ≤ 1999 := by rw [Int.tmod_eq_emod_of_nonneg ha.1] at hfr; omega
  have hm1 : m ≤ 2999 := by rw [Int.tmod_eq_emod_of_nonneg hb.1] at hm; omega
  obtain ⟨n, hn⟩ : ∃ n, n = m + 1 := ⟨_, rfl⟩
  obtain ⟨s1, s2, s3, z1, z2, z3, z4, z5, z6, z7, z8, z9⟩ := whole_states fr n ks hf1 (by omega) (by omega)
  have HN := Lib.hid (new_at w w (Below.refl _ _))
  obtain ⟨pn, hpn⟩ : ∃ pn : Nat, pn = s3.pcs.length := ⟨_, rfl⟩
  obtain ⟨q1, hq1⟩ : ∃ q1 : Nat, ((fr : Int) + (n : Int) - 1).tdiv 512 = (q1 : Int) := ⟨(fr + n - 1) / 512, by rw [Int.tdiv_eq_ediv_of_nonneg (by omega)]; omega⟩
  obtain ⟨q2, hq2⟩ : ∃ q2 : Nat, (fr : Int).tdiv 512 = (q2 : Int) := ⟨fr / 512, by rw [Int.tdiv_eq_ediv_of_nonneg (by omega)]; omega⟩
  have hq1' : q1 = (fr + n - 1) / 512 := by rw [Int.tdiv_eq_ediv_of_nonneg (by omega)] at hq1; omega
  have hq2' : q2 = fr / 512 := by rw [Int.tdiv_eq_ediv_of_nonneg (by omega)] at hq2; omega
  have hqle : q2 ≤ q1 := by omega
  have hpq : (q1 : Int) - (q2 : Int) + 1 = (pn : Int) := by rw [hpn, z6, ← hq1', ← hq2']; omega
  have hq1b : (q1 : Int) ≤ 10 := by omega
  have hq2b : (q2 : Int) ≤ 4 := by omega
  have HQ2 := Lib.hid hq2'
  have Z2 := Lib.hid z2
  have Z4 := Lib.hid z4
  have Z6 := Lib.hid z6
  have Z7 := Lib.hid z7
  have Z8 := Lib.hid z8
  rw [← hq2'] at z9
  have Z9 := Lib.hid z9
  have HPN := Lib.hid hpn
  have HW1 := Lib.hid (fun (W : World) (g : Nat) (A : Option Addr) (h : At w W g St.new) (hA : BRd W A (List.replicate 6000 1)) => write_at (w0 := w) 0 0 A 6000 6000 (List.replicate 6000 1) h hA (by simp) (by simp) (by simp [St.new]))
  rw [z1] at HW1
  have HS2 := Lib.hid (fun (W : World) (g : Nat) (h : At w W g s1) => sync_at (w0 := w) 0 h (by omega))
  rw [z3] at HS2
  have HW3 := Lib.hid (fun (W : World) (g : Nat) (A : Option Addr) (h : At w W g s2) (hA : BRd W A (List.replicate n 2)) => write_at (w0 := w) 0 (fr : Int) A n n (List.replicate n 2) h hA (by simp) (by simp; omega) (by omega))
  rw [z5] at HW3
  have HR1 := Lib.hid (fun (W : World) (q : Nat) (hc : W.cell? ⟨q, 0, none⟩ = some (.int .u8 1)) (hq : q < W.heap.size) => (repeat_any q 0 1 6000 1 W hc hq (by omega) (by omega) : Calls Try.prog 13 #[.slice (some ⟨q, 0, none⟩) 1 1, .int .i64 6000] W _))
  have HR2 := Lib.hid (fun (W : World) (q : Nat) (hc : W.cell? ⟨q, 0, none⟩ = some (.int .u8 2)) (hq : q < W.heap.size) => (repeat_any q 0 1 n 2 W hc hq (by omega) (by omega)))
  obtain ⟨ha0, ha1⟩ := ha
  obtain ⟨hb0, hb1⟩ := hb
  have hmn : (m : Int) + 1 = (n : Int) := by omega
  have hm3 : (m : Int) ≤ 2999 := by omega
  have hm0 : (0 : Int) ≤ (m : Int) := by omega
  have hn3 : (n : Int) ≤ 3000 := by omega
  have hn0 : (1 : Int) ≤ (n : Int) := by omega
  have hf3 : (fr : Int) ≤ 1999 := by omega
  have hf0 : (0 : Int) ≤ (fr : Int) := by omega
  clear z1 z2 z3 z4 z5 z6 z7 z8 z9 hK hq1' hq2' hpn hn hf1 hm1
  go_enter Try.func3, Try.ntmps3
  go_wp2_with fail
  refine HN.out.mono ?_
  rintro e w1 ⟨g, rfl, h1⟩
  have D1 := Lib.hid h1
  clear h1
  go_wp2_with fail
  refine (begun_any _).mono ?_
  rintro e w2 ⟨rfl, h2⟩
  have D2 := Lib.hid (D1.out.below h2)
  clear h2
  go_wp2_with fail
  refine (HR1.out (w2.alloc (.cells #[.int .u8 1] 5)) w2.heap.size (by rw [World.cell?_alloc_at _ _ _ _ rfl]; rfl) (by simp)).mono ?_
  rintro e w3 ⟨q1, rfl, hr3, hb3⟩
  have D3 := Lib.hid (D2.out.below (bt (alloc_below w2 _) hb3))
  have HX3 := Lib.hid (HW1.out _ g _ D3.out hr3)
  clear hr3 hb3
  go_wp2_with fail
  refine HX3.out.mono ?_
  rintro e w4 ⟨rfl, h4⟩
  have HX4 := Lib.hid (HS2.out _ g h4)
  clear h4 HX3
  go_wp2_with fail
  refine HX4.out.mono ?_
  rintro e w5 ⟨rfl, h5⟩
  have D5 := Lib.hid h5
  clear h5 HX4
  go_wp2_with fail
  refine (HR2.out (w5.alloc (.cells #[.int .u8 2] 5)) w5.heap.size (by rw [World.cell?_alloc_at _ _ _ _ rfl]; rfl) (by simp)).mono ?_
  rintro e w6 ⟨q3, rfl, hr6, hb6⟩
  have D6 := Lib.hid (D5.out.below (bt (alloc_below w5 _) hb6))
  have HX6 := Lib.hid (HW3.out _ g _ D6.out hr6)
  clear hr6 hb6
  go_wp2_with fail
  refine HX6.out.mono ?_
  rintro e w7 ⟨rfl, h7⟩
  have D7 := Lib.hid h7
  obtain ⟨F7, R7, h7'⟩ := h7.disk
  have HP7 := Lib.hid (pending_any g h7')
  rw [← HPN.out] at HP7
  have hpnb : (pn : Int) ≤ 20 := by omega
  clear h7 h7' HX6
  go_wp2_with fail
  refine HP7.out.mono ?_
  rintro e w' ⟨rfl, rfl⟩
  have HC7 := Lib.hid (crash_at (w0 := w) K kc ks.length ks D7.out (HK.out.fr (F := fun _ => False) (.of_below D7.out.bel) fun _ _ _ h => h.elim) rfl HKA.out (by rw [← HPN.out]; omega))
  rw [Z7.out] at HC7
  go_wp2_with fail
  refine HC7.out.mono ?_
  rintro e w8 ⟨rfl, h8⟩
  have HR8 := Lib.hid (restart_at (w0 := w) h8)
  clear h8 HC7
  go_wp2_with fail
  refine HR8.out.mono ?_
  rintro e w9 ⟨rfl, h9⟩
  obtain ⟨s5, hs5⟩ : ∃ s5, s5 = (s3.crash ks).restart := ⟨_, rfl⟩
  rw [← hs5] at h9 Z8 Z9
  have hm5 : s5.may 0 = 0 := by rw [hs5]; rfl
  have hr5 : s5.read 0 0 6000 = (s5.now 0, 0) := by
    unfold St.read
    rw [if_neg (by omega), if_neg (by omega)]
    show (List.take 6000 (List.drop 0 (s5.now 0)), (0 : Int)) = _
    rw [List.drop_zero, List.take_of_length_le (by rw [Z8.out]; exact Nat.le_refl _)]
  have HR9 := Lib.hid (read_at (w0 := w) 0 0 6000 h9)
  rw [hr5] at HR9
  have D9 := Lib.hid h9
  clear h9 HR8 hs5 hm5 hr5
  generalize s5.now 0 = L at *
  go_wp2_with fail
  refine HR9.out.mono ?_
  rintro e w10 ⟨v10, rfl, ho10, hb10⟩
  obtain ⟨a10, k10, rfl, -, -⟩ := ho10.slice
  have HO := Lib.hid ho10.brd
  have HB := Lib.hid (below_tr D9.out.bel (hb10.mono D9.out.bel.size))
  rw [Z8.out]
  clear ho10 hb10 HR9
  go_wp2_with fail
  go_loopw [86] (fun idx wr => ∃ (i : Nat), i ≤ 6000 ∧ idx = .int .i64 (i : Int) ∧ wr = w10) (fun idx _ => 6000 - (intOf idx).toNat)
  case atStart => exact ⟨0, by omega, rfl, rfl⟩
  case round =>
    obtain ⟨i, hi, rfl, rfl⟩ := hrel
    by_cases hi6 : i < 6000
    · obtain ⟨bg, bo, rfl, hbg, hbc⟩ := HO.out (by rw [Z8.out]; omega)
      have hci := hbc i (by rw [Z8.out]; exact hi6)
      have hv : L[i]'(by rw [Z8.out]; exact hi6) = L.getD i 0 := by rw [List.getD_eq_getElem?_getD, List.getElem?_eq_getElem]; rfl
      rw [hv, Z9.out i hi6] at hci
      obtain ⟨qi, hqi⟩ : ∃ qi : Nat, (i : Int).tdiv 512 = (qi : Int) := ⟨i / 512, by rw [Int.tdiv_eq_ediv_of_nonneg (by omega)]; omega⟩
      have hqi' : qi = i / 512 := by rw [Int.tdiv_eq_ediv_of_nonneg (by omega)] at hqi; omega
      have hqib : (qi : Int) ≤ 11 := by omega
      rw [← hqi'] at hci
      have hiI : (i : Int) < 6000 := by omega
      have hq2n := HQ2.out
      clear hbc hv
      by_cases hA : fr ≤ i
      · have hqq : q2 ≤ qi := by omega
        obtain ⟨k, hk⟩ : ∃ k, k = qi - q2 := ⟨_, rfl⟩
        have hkI : (qi : Int) - (q2 : Int) = (k : Int) := by omega
        have hk0 : (0 : Int) ≤ (k : Int) := by omega
        have hkb : (k : Int) ≤ 11 := by omega
        have hAI : (fr : Int) ≤ (i : Int) := by omega
        rw [← hk] at hci
        by_cases hB : i < fr + n
        · have hBI : (i : Int) < (fr : Int) + (n : Int) := by omega
          by_cases hC : k < ks.length
          · have hCI : (k : Int) < (ks.length : Int) := by omega
            have hKR := HK.out.fr (F := fun _ => False) (.of_below HB.out) fun _ _ _ h => h.elim
            obtain ⟨kb, ko, rfl, hkb1, hkc⟩ := hKR (by omega)
            have hck := hkc k hC
            have hkg : ks.getD k false = ks[k] := by rw [List.getD_eq_getElem?_getD, List.getElem?_eq_getElem hC]; rfl
            rw [hkg] at hci
            clear hkc hkg hKR hqi' hk hqq hq2n HKA
            cases hkk : ks[k] with
            | true =>
              rw [hkk] at hck hci
              rw [if_pos ⟨hA, hB, rfl⟩] at hci
              go_wp2_with fail
              exact ⟨⟨i + 1, hi6, rfl, trivial⟩, by simp only [intOf]; omega⟩
            | false =>
              rw [hkk] at hck hci
              rw [if_neg (by simp)] at hci
              go_wp2_with fail
              exact ⟨⟨i + 1, hi6, rfl, trivial⟩, by simp only [intOf]; omega⟩
          · rw [if_neg (by rw [List.getD_eq_getElem?_getD, List.getElem?_eq_none (by omega)]; simp)] at hci
            have hCI : ¬ (k : Int) < (ks.length : Int) := by omega
            clear hqi' hk hqq hq2n
            go_wp2_with fail
            exact ⟨⟨i + 1, hi6, rfl, trivial⟩, by simp only [intOf]; omega⟩
        · rw [if_neg (fun h => hB h.2.1)] at hci
          have hBI : ¬ (i : Int) < (fr : Int) + (n : Int) := by omega
          clear hqi' hk hqq hq2n
          go_wp2_with fail
          exact ⟨⟨i + 1, hi6, rfl, trivial⟩, by simp only [intOf]; omega⟩
      · rw [if_neg (fun h => hA h.1)] at hci
        have hAI : ¬ (fr : Int) ≤ (i : Int) := by omega
        have hq0 : (0 : Int) ≤ (qi : Int) := by omega
        clear hqi' hq2n
        go_wp2_with fail
        exact ⟨⟨i + 1, hi6, rfl, trivial⟩, by simp only [intOf]; omega⟩
    · obtain rfl : i = 6000 := by omega
      go_wp2_with fail
      go_ret
      exact ⟨rfl, HB.out⟩

set_option maxRecDepth 100000 in
theorem diskWhole_lifted (os : Os) (started : os.Started) (H : Type) (enc : TypeId × Value → H) :
    ReturnsInHanded {} Try.checked os 3 .any (Rows.diskWholeSpec.pre6 enc Try.prog Try.f3 Rows.diskWholeRow.domain false) (Rows.diskWholeSpec.post enc Try.prog Try.f3 false true false false) := by
  refine returnsInHanded_of_change_sized (C := Try.checked) own started (by kernel_rfl) Try.func3
    (ChangeSpec.witness6 (enc := enc) (C := Try.checked) false ⟨#[], #[.int .u16 0, .int .u16 0, .slice none 0 0], []⟩ 8 (by kernel_rfl) (by kernel_rfl) (by kernel_rfl) (by kernel_rfl)) ?_
  intro W base args ds gs before hval0 hW _ hsz _
  have hval : ∀ (j : Nat) t v, Try.f3.params[j]? = some t → args[j]? = some v → Value.okWide Try.prog W .any base t v := hval0
  have hW' := hW
  obtain ⟨p, q, hA0, hV, rfl, hfz, hnd⟩ := hW
  have hA : DataW.TrodAll enc Try.prog W 0 (fun _ => true) true Try.f3.params.toList args.toList ds p := hA0
  rw [Try.params3] at hA hval
  obtain ⟨v0, vs0, d0, ds0, p0, q0, hargs, rfl, rfl, h0, r0⟩ := trodAll_cons hA
  obtain ⟨v1, vs1, d1, ds1, p1, q1, rfl, rfl, rfl, h1, r1⟩ := trodAll_cons r0
  obtain ⟨v2, vs2, d2, ds2, p2, q2, rfl, rfl, rfl, h2, r2⟩ := trodAll_cons r1
  obtain ⟨rfl, rfl, rfl⟩ := trodAll_nil r2
  obtain rfl : args = #[v0, v1, v2] := by cases args; simp_all
  obtain ⟨rfl, rfl⟩ := trodVars_none hV
  simp only [List.append_nil] at hW'
  have hlt0 : ∀ x ∈ p0, x.block < W.heap.size := fun x hx => hW'.lt x (by simp [hx])
  have hlt1 : ∀ x ∈ p1, x.block < W.heap.size := fun x hx => hW'.lt x (by simp [hx])
  have hlt2 : ∀ x ∈ p2, x.block < W.heap.size := fun x hx => hW'.lt x (by simp [hx])
  have hreach : reachBytes ≤ 140737488351232 := by decide
  obtain ⟨a, rfl, -, -, w0⟩ := open_int Try.underlying22 (hval 0 22 v0 rfl rfl) h0
  have i0 : 0 ≤ a ∧ a ≤ 65535 := by simpa [Lit.wf, IntKind.min, IntKind.max, IntKind.signed, IntKind.bits] using w0
  obtain ⟨b, rfl, -, -, w1⟩ := open_int Try.underlying22 (hval 1 22 v1 rfl rfl) h1
  have i1 : 0 ≤ b ∧ b ≤ 65535 := by simpa [Lit.wf, IntKind.min, IntKind.max, IntKind.signed, IntKind.bits] using w1
  obtain ⟨A2, cap2, ks, rfl, hR2, hc2, hn2, hd2⟩ := open_bools_ (hval 2 23 v2 rfl rfl) h2
  have b2 : ks.length ≤ reachBytes := by
    rcases hd2 with h0 | ⟨el, sp, e, he⟩
    · rw [h0]; simp
    · have hs : (el.length + sp.length) * Try.prog.bytesOf 4 ≤ reachBytes := sized_slice hsz (j := 2) (t := 23) (e := 4) rfl (by rw [e]; rfl) Try.underlying23
      rw [show Try.prog.bytesOf 4 = 1 by kernel_rfl] at hs
      omega
  clear hA0 hval0
  refine (diskWhole_walk a b A2 cap2 ks W i0 i1 hR2 (by omega)).mono fun e W' ⟨he, hg⟩ => ?_
  subst he
  have hpost : Rows.diskWholeSpec.post enc Try.prog Try.f3 false true false false W _ _ W' := post_of_below (pa := p0 ++ (p1 ++ (p2 ++ []))) (pv := []) hW' (fun _ _ _ => (trodAll_cons_mk (shut_bool Try.underlying4 _) trodAll_mk0)) (fun sp hsp => (trodAll_cons_mk (WideElems.Trod_stays laidOut (by kernel_rfl) (of_decide_eq_true (by kernel_rfl)) h0 (fun x hx => hg.same (hlt0 x hx)) (fun x hx => hsp x (by simp [hx]))) (trodAll_cons_mk (WideElems.Trod_stays laidOut (by kernel_rfl) (of_decide_eq_true (by kernel_rfl)) h1 (fun x hx => hg.same (hlt1 x hx)) (fun x hx => hsp x (by simp [hx]))) (trodAll_cons_mk (WideElems.Trod_stays laidOut (by kernel_rfl) (of_decide_eq_true (by kernel_rfl)) h2 (fun x hx => hg.same (hlt2 x hx)) (fun x hx => hsp x (by simp [hx]))) trodAll_mk0)))) (fun _ _ => rfl) (by simp) hg (ok_one (by kernel_rfl) rfl (okWide_bool_mk Try.underlying4 _))
  exact ⟨_, rfl, hpost⟩

theorem diskWhole_holds : Rows.DiskWholeSaid :=
  OpenClaim.holds_of_wide 3 Try.f3 rfl rfl rfl rfl rfl rfl rfl ⟨rfl, rfl, rfl, rfl, rfl⟩ rfl rfl rfl rfl rfl (by kernel_rfl) Try.func3 (by kernel_rfl)
    (of_decide_eq_true (by kernel_rfl)) (by unfold Func.isWrapper; first | (rw [if_pos (by decide +kernel)]; kernel_rfl) | (rw [if_neg (by decide +kernel)]; exact ⟨rfl, rfl⟩))
    (fun os started H enc _ => diskWhole_lifted os started H enc)
end Go.Proofs.Ytdbbghmldaekhaa
