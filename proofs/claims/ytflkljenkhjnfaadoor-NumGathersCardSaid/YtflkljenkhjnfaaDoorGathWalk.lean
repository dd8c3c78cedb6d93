/-
  The walk of NumGathers.
-/
import Derived.Test.YtflkljenkhjnfaaDoorGath2
import Derived.Test.YtflkljenkhjnfaaDoorWideWalk
namespace Go.Proofs.YtflkljenkhjnfaaDoor
open Go.ChangeShapes Go.WideShapes Go.ChangeAt Go.RowKit
open Cal
set_option linter.unusedVariables false

/-- The sum of the wide numbers of a built slice of two. -/
theorem addBuilt (S n : Int) (hS : Fit128 S) (hn : Fit128 n) (w : World) (g : Nat) (hg : g < w.heap.size)
    (c0 : w.cell? ⟨g, 0, none⟩ = some (.int .i64 (hiOf S))) (c1 : w.cell? ⟨g, 1, none⟩ = some (.int .u64 (loOf S))) (c2 : w.cell? ⟨g, 2, none⟩ = some (.int .i64 (hiOf n))) (c3 : w.cell? ⟨g, 3, none⟩ = some (.int .u64 (loOf n))) :
    Calls Tryd.prog 52 #[.slice (some ⟨g, 0, none⟩) 2 2] w fun e w' => e = .returned (.agg #[.int .i64 (hiOf (S + n)), .int .u64 (loOf (S + n))]) ∧ Below w.heap.size w w' := by
  have h := wideAdd_agg (some ⟨g, 0, none⟩) 2 [(hiOf S, loOf S), (hiOf n, loOf n)] w (fun _ => ⟨g, 0, rfl, hg, fun i hi => by
    match i, hi with
    | 0, _ => exact ⟨by simpa using c0, by simpa using c1⟩
    | 1, _ => exact ⟨by simpa using c2, by simpa using c3⟩⟩) (fun p hp => by
      simp at hp
      rcases hp with rfl | rfl
      · exact okW_of hS
      · exact okW_of hn) (by simp)
  rw [add_two hS hn] at h
  exact h
theorem chain3 {wr w2 w3 : World} {o : Obj} (h2 : Below wr.drew.heap.size wr.drew w2) (h3 : Below (w2.alloc o).heap.size (w2.alloc o) w3) : Below wr.heap.size wr w3 :=
  have h0 : Below wr.heap.size wr w2 := rel3 h2 (Below.refl _ _)
  have h1 : Below wr.heap.size wr (w2.alloc o) := h0.alloc h0.size o
  h1.trans (h3.mono h1.size)
set_option maxHeartbeats 3200000 in
set_option maxRecDepth 20000 in
theorem numGathers_walk (A : Option Addr) (cap : Nat) (zs : List Int) (w : World) (hR : IRd w A zs) (hB : ∀ z ∈ zs, In64 z) (hl : zs.length ≤ 17592186044416) (hM : MLaid w) (hP : PowLaid w) :
    Calls Tryd.prog 12 #[.slice A zs.length cap] w fun e w' => e = .returned (.bool true) ∧ Below w.heap.size w w' := by
  have hEq := eqW
  go_enter Tryd.func12, Tryd.ntmps12
  go_wp2_with fail
  refine (begun_any _ hM hP).mono ?_
  rintro e w1 ⟨rfl, hb1⟩
  have hR1 := hR.below hb1
  clear hR hM hP
  go_wp2
  go_loopw [5, 6, 21] (fun u5 u6 i wr => ∃ k : Nat, k ≤ zs.length ∧ i = .int .i64 k ∧ GSt w1 wr (zs.take k).sum (zs.drop (zs.length - k)).sum) (fun _ _ i _ => zs.length - (intOf i).toNat)
  case atStart => exact ⟨0, Nat.zero_le _, rfl, by simpa using GSt.start w1⟩
  case round =>
    obtain ⟨k, hk, rfl, hG⟩ := hrel
    by_cases hlt : k < zs.length
    · obtain ⟨b, off, rfl, hb, hZ⟩ := hR1 (by omega)
      have k0 : (0 : Int) ≤ (k : Int) := by omega
      have k1 : (k : Int) < (zs.length : Int) := by omega
      have n1 := hB zs[k] (List.getElem_mem hlt)
      have fS := sum_fit (zs.take k) (fun z hz => hB z (List.mem_of_mem_take hz)) (by rw [List.length_take]; omega)
      have fT := sum_fit (zs.drop (zs.length - k)) (fun z hz => hB z (List.mem_of_mem_drop hz)) (by rw [List.length_drop]; omega)
      have fn := fit_64 n1
      have m1 := hB (zs[zs.length - 1 - k]'(by omega)) (List.getElem_mem _)
      have fm := fit_64 m1
      have hsum := Lib.hid (sum_take zs k hlt)
      have hsum2 := Lib.hid (sum_last zs k hlt)
      have hz1 : wr.cell? ⟨b, off + k, none⟩ = some (.int .i64 zs[k]) := (hG.1.cell (p := ⟨b, off + k, none⟩) hb).trans (hZ k hlt)
      have hz2 : w1.cell? ⟨b, off + (zs.length - 1 - k), none⟩ = some (.int .i64 (zs[zs.length - 1 - k]'(by omega))) := hZ (zs.length - 1 - k) (by omega)
      generalize (zs[zs.length - 1 - k]'(by omega)) = m at *
      obtain ⟨j, hj⟩ : ∃ j : Nat, j = zs.length - 1 - k := ⟨_, rfl⟩
      rw [← hj] at hz2
      have j0 : (0 : Int) ≤ (j : Int) := by omega
      have j1 : (j : Int) < (zs.length : Int) := by omega
      have j2 : (zs.length : Int) - 1 - (k : Int) = (j : Int) := by omega
      have wq1 : IntKind.i64.wrap ((zs.length : Int) - 1) = (zs.length : Int) - 1 := by rw [IntKind.wrap_i64]; omega
      have wq2 : IntKind.i64.wrap ((zs.length : Int) - 1 - (k : Int)) = (j : Int) := by rw [IntKind.wrap_i64]; omega
      have wq3 : IntKind.i64.wrap (j : Int) = (j : Int) := by rw [IntKind.wrap_i64]; omega
      have j3 : j < zs.length := by omega
      clear hj
      generalize zs[k] = n at *
      generalize (zs.take k).sum = S at *
      generalize (zs.drop (zs.length - k)).sum = T at *
      have hG' := Lib.hid hG
      have hsz := hG.2.1
      have c0 := hG.2.2.1
      have c1 := hG.2.2.2.1
      have f0 := hG.2.2.2.2.2.2.1
      have f1 := hG.2.2.2.2.2.2.2.1
      have hR1' := Lib.hid hR1
      clear hG hR1 hZ
      go_wp2
      go_region_with (first
        | (go_at_call 48; refine (wideOf_agg n _ n1).mono ?_; rintro e w2 ⟨rfl, hb2⟩; have A0 := ((bcell (rel3 hb2 (Below.refl _ _))).1 w1.heap.size 0 (by omega)).trans c0; have A1 := ((bcell (rel3 hb2 (Below.refl _ _))).1 w1.heap.size 1 (by omega)).trans c1)
        | (go_at_call 52; refine (addBuilt S n fS fn _ _ (by simp) (by simp) (by simp) (by simp) (by simp)).mono ?_; rintro e w3 ⟨rfl, hb3⟩; have hb4 := chain3 hb2 hb3; clear hb3 hb2 A0 A1;
            have C0 := ((bcell hb4).1 w1.heap.size 0 (by omega)).trans c0; have C1 := ((bcell hb4).1 w1.heap.size 1 (by omega)).trans c1;
            have F0 := ((bcell hb4).2 w1.heap.size 0 (by omega)).trans f0; have F1 := ((bcell hb4).2 w1.heap.size 1 (by omega)).trans f1))
      all_goals
        have hG2 := (hG'.out.far hb4).set0 (S + n)
        generalize hw5 : (World.setCell _ _ _) = w5 at hG2 ⊢
        clear hw5 c0 c1 f0 f1 C0 C1 F0 F1 hb4 hz1 hsz hG'
        have hz3 : w5.cell? ⟨b, off + j, none⟩ = some (.int .i64 m) := (hG2.1.cell (p := ⟨b, off + j, none⟩) hb).trans hz2
        have hG' := Lib.hid hG2
        have hsz := hG2.2.1
        have c0 := hG2.2.2.2.2.1
        have c1 := hG2.2.2.2.2.2.1
        have f0 := hG2.2.2.2.2.2.2.2.2.1
        have f1 := hG2.2.2.2.2.2.2.2.2.2
        clear hG2 hz2
        go_wp2
        go_region_with (first
        | (go_at_call 48; refine (wideOf_agg m _ m1).mono ?_; rintro e w2 ⟨rfl, hb2⟩; have A0 := ((bcell (rel3 hb2 (Below.refl _ _))).1 (w1.heap.size + 1) 0 (by omega)).trans c0; have A1 := ((bcell (rel3 hb2 (Below.refl _ _))).1 (w1.heap.size + 1) 1 (by omega)).trans c1)
        | (go_at_call 52; refine (addBuilt m T fm fT _ _ (by simp) (by simp) (by simp) (by simp) (by simp)).mono ?_; rintro e w3 ⟨rfl, hb3⟩; have hb4 := chain3 hb2 hb3; clear hb3 hb2 A0 A1;
            have C0 := ((bcell hb4).1 (w1.heap.size + 1) 0 (by omega)).trans c0; have C1 := ((bcell hb4).1 (w1.heap.size + 1) 1 (by omega)).trans c1;
            have F0 := ((bcell hb4).2 (w1.heap.size + 1) 0 (by omega)).trans f0; have F1 := ((bcell hb4).2 (w1.heap.size + 1) 1 (by omega)).trans f1))
      all_goals
        have hG3 := (hG'.out.far hb4).set1 (m + T)
        generalize hw5 : (World.setCell _ _ _) = w6 at hG3 ⊢
        clear hw5 c0 c1 f0 f1 C0 C1 F0 F1 hb4 hz3 hsz hG'
        go_wp2
        refine ⟨⟨k + 1, by omega, by simp, by rw [hsum.out, hsum2.out]; exact hG3⟩, ?_⟩
        simp [intOf]; omega
    · obtain rfl : k = zs.length := by omega
      rename World => WA
      have hG0 : GSt w1 WA zs.sum zs.sum := by simpa using hG
      clear hG
      have hGh := Lib.hid hG0
      have c0 := hG0.2.2.1
      have c1 := hG0.2.2.2.1
      have d0 := hG0.2.2.2.2.1
      have d1 := hG0.2.2.2.2.2.1
      have hRr := Lib.hid (hR1.below hG0.1)
      have hfit := sum_fit zs hB (by omega)
      clear hG0
      generalize hTot : zs.sum = Tot at *
      have hTot' := Lib.hid hTot
      clear hTot
      obtain ⟨i0, hi, hz0, hz1, hz2⟩ := info_parts (show (Tryd.prog.info? 2).map (fun i => (i.zero, i.size, i.bytes)) = some (some (.int .i64 0), 1, 8) by kernel_rfl)
      go_wp2
      clear c0 c1 d0 d1
      go_loopw [7, 8, 10, 49] (fun v7 v8 u10 i wr2 => ∃ k : Nat, k ≤ zs.length ∧ i = .int .i64 k ∧ Rows2 WA wr2 v7 v8 (negs zs k) (poss zs k)) (fun _ _ _ i _ => zs.length - (intOf i).toNat)
      case atStart => exact ⟨0, Nat.zero_le _, rfl, Rows2.nil _⟩
      case round =>
        obtain ⟨k, hk, rfl, hW⟩ := hrel
        by_cases hlt : k < zs.length
        · have hpl := parts_len zs k
          obtain ⟨b, off, rfl, hb, hZ⟩ := hRr.out (by omega)
          have hcz : wr.cell? ⟨b, off + k, none⟩ = some (.int .i64 zs[k]) := (hW.1.cell (p := ⟨b, off + k, none⟩) hb).trans (hZ k hlt)
          have k0 : (0 : Int) ≤ (k : Int) := by omega
          have k1 : (k : Int) < (zs.length : Int) := by omega
          have hsz := hW.1.size
          have hRr' := Lib.hid hRr
          clear hRr hZ
          by_cases hn : zs[k] < 0
          · have hh := negs_hit hlt hn
            have H1 := Lib.hid hh.1
            have H2 := Lib.hid hh.2
            clear hh
            generalize zs[k] = n at *
            go_wp2_with (at_builtin; go_loud (refine wpList_append_lies _ rfl _ _ 56 rfl WA.heap.size 2 i0 (.int .i64 0) 1 8 Tryd.underlying56 hi hz0 hz1 hz2 rfl (by decide) _ _ _ rfl (hW.2.1.alloc _) ⟨wr.heap.size, 0, none⟩ 1 1 [.int .i64 n] rfl rfl (fun j u hj => by match j, hj with | 0, hj => (simp at hj; subst hj; simp [Addr.add])) (fun u hu => by simp at hu; subst hu; rfl) (by decide) (by unfold maxLen; omega) (by omega) (by simp; omega) _ rfl ?_))
            intro g c w3 hown' hgrow hat hlt'
            have R := hW.left hown' hgrow (hat.imp id fun e => e.trans (by simp))
            rw [← H1.out, ← H2.out] at R
            clear hown' hgrow hat hW
            go_wp2
            go_roundw
            case rel => exact ⟨k + 1, by omega, by simp, R⟩
            case measure => simp [intOf]; omega
          · have hh := poss_hit hlt hn
            have H1 := Lib.hid hh.1
            have H2 := Lib.hid hh.2
            clear hh
            generalize zs[k] = n at *
            go_wp2_with (at_builtin; go_loud (refine wpList_append_lies _ rfl _ _ 56 rfl WA.heap.size 2 i0 (.int .i64 0) 1 8 Tryd.underlying56 hi hz0 hz1 hz2 rfl (by decide) _ _ _ rfl (hW.2.2.1.alloc _) ⟨wr.heap.size, 0, none⟩ 1 1 [.int .i64 n] rfl rfl (fun j u hj => by match j, hj with | 0, hj => (simp at hj; subst hj; simp [Addr.add])) (fun u hu => by simp at hu; subst hu; rfl) (by decide) (by unfold maxLen; omega) (by omega) (by simp; omega) _ rfl ?_))
            intro g c w3 hown' hgrow hat hlt'
            have R := (hW.swap.left hown' hgrow (hat.imp id fun e => e.trans (by simp))).swap
            rw [← H1.out, ← H2.out] at R
            clear hown' hgrow hat hW
            go_wp2
            go_roundw
            case rel => exact ⟨k + 1, by omega, by simp, R⟩
            case measure => simp [intOf]; omega
        · obtain rfl : k = zs.length := by omega
          rename World => WB
          have hGB := hGh.out.far hW.1
          have hBel := Lib.hid (hb1.trans (hGB.1.mono hb1.size))
          have c0 := hGB.2.2.1
          have c1 := hGB.2.2.2.1
          have hmN : ∀ z ∈ negs zs zs.length, In64 z ∧ z < 0 := fun z hz => ⟨hB z (negs_mem hz).1, (negs_mem hz).2⟩
          have hmP : ∀ z ∈ poss zs zs.length, In64 z ∧ 0 ≤ z := fun z hz => ⟨hB z (poss_mem hz).1, (poss_mem hz).2⟩
          have hps := (parts_sum zs).trans hTot'.out
          have hpb := parts_both zs
          obtain ⟨A7, c7, rfl, hI7, hl7⟩ := row_read hW.2.1
          obtain ⟨A8, c8, rfl, hI8, hl8⟩ := row_read hW.2.2.1
          have HN := narrow_any (hiOf Tot) (loOf Tot) WB (okW_of hfit).1 (okW_of hfit).2.1 (okW_of hfit).2.2
          rw [num128_of hfit] at HN
          have HN := Lib.hid HN
          clear hW hGB
          generalize negs zs zs.length = N0 at *
          generalize poss zs zs.length = P0 at *
          go_wp2
          go_loop [7, 8, 11] (fun v7 v8 u11 => ∃ N P s A7 c7 A8 c8, v7 = .slice A7 N.length c7 ∧ v8 = .slice A8 P.length c8 ∧ u11 = .int .i64 s ∧ IRd WB A7 N ∧ N.length ≤ c7 ∧ IRd WB A8 P ∧ P.length ≤ c8 ∧ (∀ z ∈ N, In64 z ∧ z < 0) ∧ (∀ z ∈ P, In64 z ∧ 0 ≤ z) ∧ In64 s ∧ s + (N.sum + P.sum) = Tot ∧ N.length + P.length ≤ 17592186044416) (fun v7 v8 _ => sliceLen v7 + sliceLen v8)
          case atStart => exact ⟨N0, P0, 0, A7, c7, A8, c8, rfl, rfl, rfl, hI7, hl7, hI8, hl8, hmN, hmP, by decide, by rw [hps]; omega, by omega⟩
          case round =>
            clear hI7 hl7 hI8 hl8 hmN hmP hps hpb
            obtain ⟨N, P, s, A7, c7, A8, c8, rfl, rfl, rfl, h7, l7, h8, l8, hN, hP, hs, hsum, hlen⟩ := hrel
            rcases N with _ | ⟨a, N⟩ <;> rcases P with _ | ⟨a2, P⟩
            · skip
              have hst : s = Tot := by simpa using hsum
              subst hst
              have HN := HN.out
              rw [okOr_in hs, errOr_in hs] at HN
              go_wp2_with fail
              refine HN.mono ?_
              rintro e w' ⟨rfl, hbn⟩
              go_wp2
              go_ret
              exact ⟨rfl, hBel.out.trans (hbn.mono hBel.out.size)⟩
            · skip
              obtain ⟨bP, oP, rfl, hbP, hcP⟩ := h8 (by simp)
              have ca : WB.cell? ⟨bP, oP, none⟩ = some (.int .i64 a2) := hcP 0 (by simp)
              have hT := Lib.hid (IRd.tail2 hbP hcP l8)
              obtain ⟨ha1, ha2⟩ := hP a2 (by simp)
              have HA := add_any s a2 WB hs ha1
              have e0 : (0 : Int) < (P.length : Int) + 1 := by omega
              have e1 : IntKind.i64.wrap ((P.length : Int) + 1) = (P.length : Int) + 1 := by rw [IntKind.wrap_i64]; simp at hlen; omega
              by_cases h0 : 0 ≤ s
              · by_cases hin : In64 (s + a2)
                · skip
                  rw [okOr_in hin, errOr_in hin] at HA
                  have hin := Lib.hid hin
                  clear hcP
                  go_wp2_with fail
                  refine HA.mono ?_
                  rintro e w' ⟨rfl, rfl⟩
                  go_wp2
                  go_round
                  case rel => exact ⟨[], P, s + a2, _, _, _, _, rfl, rfl, rfl, h7, l7, hT.out, by simp at l8; omega, hN, fun z hz => hP z (by simp [hz]), hin.out, by rw [← hsum]; simp only [List.sum_cons]; omega, by simp at hlen ⊢; omega⟩
                  case measure => simp [sliceLen]
                · skip
                  have hT2 := far_pos (P := P) hs ha2 (fun z hz => (hP z (by simp [hz])).2) hin
                  have hT3 : ¬ In64 Tot := by rw [← hsum]; simpa using hT2
                  rw [okOr_out hin, errOr_out hin] at HA
                  have HN := HN.out
                  rw [okOr_out hT3, errOr_out hT3] at HN
                  clear hcP
                  go_wp2_with fail
                  refine HA.mono ?_
                  rintro e w' ⟨rfl, rfl⟩
                  go_wp2_with fail
                  all_goals
                    refine HN.mono ?_
                    rintro e w' ⟨rfl, hbn⟩
                    go_wp2
                    go_ret
                    exact ⟨rfl, hBel.out.trans (hbn.mono hBel.out.size)⟩
              · by_cases hin : In64 (s + a2)
                · skip
                  rw [okOr_in hin, errOr_in hin] at HA
                  have hin := Lib.hid hin
                  clear hcP
                  go_wp2_with fail
                  refine HA.mono ?_
                  rintro e w' ⟨rfl, rfl⟩
                  go_wp2
                  go_round
                  case rel => exact ⟨[], P, s + a2, _, _, _, _, rfl, rfl, rfl, h7, l7, hT.out, by simp at l8; omega, hN, fun z hz => hP z (by simp [hz]), hin.out, by rw [← hsum]; simp only [List.sum_cons]; omega, by simp at hlen ⊢; omega⟩
                  case measure => simp [sliceLen]
                · skip
                  have hT2 := far_pos (P := P) hs ha2 (fun z hz => (hP z (by simp [hz])).2) hin
                  have hT3 : ¬ In64 Tot := by rw [← hsum]; simpa using hT2
                  rw [okOr_out hin, errOr_out hin] at HA
                  have HN := HN.out
                  rw [okOr_out hT3, errOr_out hT3] at HN
                  clear hcP
                  go_wp2_with fail
                  refine HA.mono ?_
                  rintro e w' ⟨rfl, rfl⟩
                  go_wp2_with fail
                  all_goals
                    refine HN.mono ?_
                    rintro e w' ⟨rfl, hbn⟩
                    go_wp2
                    go_ret
                    exact ⟨rfl, hBel.out.trans (hbn.mono hBel.out.size)⟩
            · skip
              obtain ⟨bN, oN, rfl, hbN, hcN⟩ := h7 (by simp)
              have ca : WB.cell? ⟨bN, oN, none⟩ = some (.int .i64 a) := hcN 0 (by simp)
              have hT := Lib.hid (IRd.tail2 hbN hcN l7)
              obtain ⟨ha1, ha2⟩ := hN a (by simp)
              have HA := add_any s a WB hs ha1
              have e0 : (0 : Int) < (N.length : Int) + 1 := by omega
              have e1 : IntKind.i64.wrap ((N.length : Int) + 1) = (N.length : Int) + 1 := by rw [IntKind.wrap_i64]; simp at hlen; omega
              by_cases h0 : 0 ≤ s
              · by_cases hin : In64 (s + a)
                · skip
                  rw [okOr_in hin, errOr_in hin] at HA
                  have hin := Lib.hid hin
                  clear hcN
                  go_wp2_with fail
                  refine HA.mono ?_
                  rintro e w' ⟨rfl, rfl⟩
                  go_wp2
                  go_round
                  case rel => exact ⟨N, [], s + a, _, _, _, _, rfl, rfl, rfl, hT.out, by simp at l7; omega, h8, l8, fun z hz => hN z (by simp [hz]), hP, hin.out, by rw [← hsum]; simp only [List.sum_cons]; omega, by simp at hlen ⊢; omega⟩
                  case measure => simp [sliceLen]
                · skip
                  have hT2 := far_neg (N := N) hs ha2 (fun z hz => (hN z (by simp [hz])).2) hin
                  have hT3 : ¬ In64 Tot := by rw [← hsum]; simpa using hT2
                  rw [okOr_out hin, errOr_out hin] at HA
                  have HN := HN.out
                  rw [okOr_out hT3, errOr_out hT3] at HN
                  clear hcN
                  go_wp2_with fail
                  refine HA.mono ?_
                  rintro e w' ⟨rfl, rfl⟩
                  go_wp2_with fail
                  all_goals
                    refine HN.mono ?_
                    rintro e w' ⟨rfl, hbn⟩
                    go_wp2
                    go_ret
                    exact ⟨rfl, hBel.out.trans (hbn.mono hBel.out.size)⟩
              · by_cases hin : In64 (s + a)
                · skip
                  rw [okOr_in hin, errOr_in hin] at HA
                  have hin := Lib.hid hin
                  clear hcN
                  go_wp2_with fail
                  refine HA.mono ?_
                  rintro e w' ⟨rfl, rfl⟩
                  go_wp2
                  go_round
                  case rel => exact ⟨N, [], s + a, _, _, _, _, rfl, rfl, rfl, hT.out, by simp at l7; omega, h8, l8, fun z hz => hN z (by simp [hz]), hP, hin.out, by rw [← hsum]; simp only [List.sum_cons]; omega, by simp at hlen ⊢; omega⟩
                  case measure => simp [sliceLen]
                · skip
                  have hT2 := far_neg (N := N) hs ha2 (fun z hz => (hN z (by simp [hz])).2) hin
                  have hT3 : ¬ In64 Tot := by rw [← hsum]; simpa using hT2
                  rw [okOr_out hin, errOr_out hin] at HA
                  have HN := HN.out
                  rw [okOr_out hT3, errOr_out hT3] at HN
                  clear hcN
                  go_wp2_with fail
                  refine HA.mono ?_
                  rintro e w' ⟨rfl, rfl⟩
                  go_wp2_with fail
                  all_goals
                    refine HN.mono ?_
                    rintro e w' ⟨rfl, hbn⟩
                    go_wp2
                    go_ret
                    exact ⟨rfl, hBel.out.trans (hbn.mono hBel.out.size)⟩
            · skip
              have e0 : (0 : Int) < (N.length : Int) + 1 + ((P.length : Int) + 1) := by omega
              have e2 : (0 : Int) < (N.length : Int) + 1 := by omega
              have e3 : (0 : Int) < (P.length : Int) + 1 := by omega
              have e4 : ¬ (P.length : Int) + 1 = 0 := by omega
              have e1 : IntKind.i64.wrap ((N.length : Int) + 1 + ((P.length : Int) + 1)) = (N.length : Int) + 1 + ((P.length : Int) + 1) := by rw [IntKind.wrap_i64]; simp at hlen; omega
              by_cases h0 : 0 ≤ s
              · skip
                obtain ⟨bN, oN, rfl, hbN, hcN⟩ := h7 (by simp)
                have ca : WB.cell? ⟨bN, oN, none⟩ = some (.int .i64 a) := hcN 0 (by simp)
                have hT := Lib.hid (IRd.tail2 hbN hcN l7)
                obtain ⟨ha1, ha2⟩ := hN a (by simp)
                have HA := add_any s a WB hs ha1
                have hin := turn_neg hs ha1 h0 ha2
                rw [okOr_in hin, errOr_in hin] at HA
                have hin := Lib.hid hin
                clear hcN
                go_wp2_with fail
                refine HA.mono ?_
                rintro e w' ⟨rfl, rfl⟩
                go_wp2
                go_round
                case rel => exact ⟨N, a2 :: P, s + a, _, _, _, _, rfl, rfl, rfl, hT.out, by simp at l7; omega, h8, l8, fun z hz => hN z (by simp [hz]), hP, hin.out, by rw [← hsum]; simp only [List.sum_cons]; omega, by simp at hlen ⊢; omega⟩
                case measure => simp [sliceLen]
              · skip
                obtain ⟨bP, oP, rfl, hbP, hcP⟩ := h8 (by simp)
                have ca : WB.cell? ⟨bP, oP, none⟩ = some (.int .i64 a2) := hcP 0 (by simp)
                have hT := Lib.hid (IRd.tail2 hbP hcP l8)
                obtain ⟨ha1, ha2⟩ := hP a2 (by simp)
                have HA := add_any s a2 WB hs ha1
                have hin := turn_pos hs ha1 (by omega) ha2
                rw [okOr_in hin, errOr_in hin] at HA
                have hin := Lib.hid hin
                clear hcP
                go_wp2_with fail
                refine HA.mono ?_
                rintro e w' ⟨rfl, rfl⟩
                go_wp2
                go_round
                case rel => exact ⟨a :: N, P, s + a2, _, _, _, _, rfl, rfl, rfl, h7, l7, hT.out, by simp at l8; omega, hN, fun z hz => hP z (by simp [hz]), hin.out, by rw [← hsum]; simp only [List.sum_cons]; omega, by simp at hlen ⊢; omega⟩
                case measure => simp [sliceLen]
end Go.Proofs.YtflkljenkhjnfaaDoor
