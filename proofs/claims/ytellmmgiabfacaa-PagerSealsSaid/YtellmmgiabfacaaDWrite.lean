/-
  Of disk: contract of Write.
-/
import Derived.Test.YtellmmgiabfacaaDCount
import Derived.Test.YtellmmgiabfacaaDParts2
import Derived.Test.YtellmmgiabfacaaDSame
namespace Go.Proofs.Ytellmmgiabfacaa
open Go.ChangeShapes Go.WideShapes Go.ChangeAt Go.RowKit
set_option linter.unusedVariables false

theorem Lst.zero {w : World} {B q0 : Nat} {x : Value} {qs : List PV} (h : Lst w B x qs q0) : Lst w 0 x qs q0 := by
  refine ⟨⟨h.row.1, ?_⟩, h.reads⟩
  rcases h.row.2 with h2 | ⟨g, cap, cur, hv, hb, hg, rest⟩
  · exact .inl h2
  · exact .inr ⟨g, cap, cur, hv, Nat.zero_le _, hg, rest⟩
theorem parts_kindN (f : Nat) : ∀ (n k : Nat) (b : List UInt8), ∀ p ∈ partsN f n k b, p.file = f ∧ p.cut = false
  | 0, _, _, p, hp => by simp [partsN] at hp
  | n + 1, k, b, p, hp => by
    unfold partsN at hp
    split at hp
    · simp at hp
    · rcases List.mem_cons.1 hp with rfl | hp
      · exact ⟨rfl, rfl⟩
      · exact parts_kindN f n _ _ p hp
theorem parts_kind (f k : Nat) (b : List UInt8) (p : Pc) (hp : p ∈ parts f k b) : p.file = f ∧ p.cut = false := parts_kindN f b.length k b p hp
/-- What a call leaves that turns a disk. -/
def Turned (w : World) (g : Nat) (v : Nat → Value) (pc : Value) (qs : List PV) (kp : Value) (x : St × Int) (e : Ending) (w' : World) : Prop := e = .returned (.int .i64 x.2) ∧ ∃ v' pc' qs' kp', DSt w' g v' pc' qs' kp' x.1 ∧ Run w w' g v pc qs kp v' pc' qs' kp'

set_option maxHeartbeats 4000000 in
set_option maxRecDepth 100000 in
theorem write_any (g : Nat) (f k : Int) (A : Option Addr) (c : Nat) (b : List UInt8) (w : World) (v : Nat → Value) (pc : Value) (qs : List PV) (kp : Value) (s : St) (hd : DSt w g v pc qs kp s) (hA : BRd w A b) (hb : b.length ≤ 140737488355328) (hlim : qs.length + 4194304 ≤ 8000000000000) :
    Calls Try.prog 36 #[.pointer (some ⟨g, 0, none⟩), .int .i64 f, .int .i64 k, .slice A b.length c] w (Turned w g v pc qs kp (s.write f k b)) := by
  have HC := Lib.hid (reach_any g f hd.disk)
  have HD := Lib.hid hd
  have HA := Lib.hid hA
  have HLM := Lib.hid hlim
  have hbI : (b.length : Int) ≤ 140737488355328 := by omega
  clear hd hA hlim hb
  unfold St.write
  by_cases hm : s.may f = 0
  · rw [if_neg (by omega)]
    rw [hm] at HC
    obtain ⟨hdn, hf⟩ := may_file hm
    have HDN := Lib.hid hdn
    clear hdn
    by_cases hk : k < 0
    · rw [if_pos hk]
      clear hm
      go_enter Try.func36, Try.ntmps36
      go_wp2_with fail
      refine HC.out.mono ?_
      rintro e w' ⟨rfl, rfl⟩
      go_wp2_with fail
      go_ret
      exact ⟨rfl, v, pc, qs, kp, HD.out, Run.refl _ _ _ _ _ _⟩
    · rw [if_neg hk]
      by_cases hfull : 0 < b.length ∧ (4194304 : Int) - b.length < k
      · rw [if_pos hfull]
        have h1 : (0 : Int) < b.length := by omega
        have h2 := hfull.2
        clear hfull hm
        go_enter Try.func36, Try.ntmps36
        go_wp2_with fail
        refine HC.out.mono ?_
        rintro e w' ⟨rfl, rfl⟩
        go_wp2_with fail
        go_ret
        exact ⟨rfl, v, pc, qs, kp, HD.out, Run.refl _ _ _ _ _ _⟩
      · rw [if_neg hfull]
        by_cases h0 : 0 < b.length
        · have h1 : (0 : Int) < b.length := by omega
          have h2 : ¬ (4194304 : Int) - b.length < k := fun h => hfull ⟨h0, h⟩
          clear hfull
          rcases hf with rfl | rfl
          · show Calls _ _ _ _ (Turned w g v pc qs kp (s.add (parts 0 k.toNat b)).count)
            have HCT := Lib.hid (fun W v pc qs kp (h : DSt W g v pc qs kp (s.add (parts 0 k.toNat b))) hl => count_any g W v pc qs kp _ h HDN.out hl)
            obtain ⟨kn, rfl⟩ : ∃ kn : Nat, k = (kn : Int) := ⟨k.toNat, by omega⟩
            have HPA := Lib.hid (patches_any 0 kn A c b w HA.out (by unfold maxFile; omega))
            have HK := Lib.hid (show kn + b.length ≤ maxFile by unfold maxFile; omega)
            have H0 := Lib.hid h0
            clear hm
            go_enter Try.func36, Try.ntmps36
            go_wp2_with fail
            refine HC.out.mono ?_
            rintro e w' ⟨rfl, rfl⟩
            go_wp2_with fail
            refine HPA.out.mono ?_
            rintro e w1 ⟨x, ls, q0, rfl, hL, hmap, hq0, hq0l, hb1⟩
            obtain ⟨ax, kx, rfl, -⟩ := row_slice hL.row
            have HB1 := Lib.hid hb1
            have HMP := Lib.hid hmap
            have hll : ls.length ≤ b.length := by
              have h1 := parts_le 0 kn b
              rw [← hmap, List.length_map] at h1
              exact h1
            have HLL := Lib.hid hll
            have HLS := Lib.hid hL.reads
            have HQ0 := Lib.hid hq0
            have hlt0 := HD.out.core.lt (Array.getElem?_eq_some_iff.1 HD.out.box).1
            have HCH := Lib.hid (change_patch0 g ax ls.length kx q0 ls w1 v pc qs kp s (HD.out.below hb1) hL.zero rfl (fun q hq => ⟨parts_ok 0 (by omega) b.length kn b (Nat.le_refl _) HK.out q.p (by rw [← hmap]; exact List.mem_map_of_mem hq), parts_kind 0 kn b q.p (by rw [← hmap]; exact List.mem_map_of_mem hq)⟩) (fun y hy hd => by
                have h1 := (hL.row.lt y.block (by rw [hy]; rfl)).1
                have h2 := hlt0 _ (.inl hd)
                omega) (fun q hq y hy => ⟨hq0l H0.out, fun hd => by
                have h2 := hlt0 _ (.inl hd)
                omega⟩) (by have := HLM.out; omega))
            clear hb1 hmap hll hL hlt0 hq0l hq0
            go_wp2_with fail
            refine HCH.out.mono ?_
            rintro e w2 ⟨rfl, v2, pc2, hd2, ht2⟩
            have HD2 := Lib.hid hd2
            have HT2 := Lib.hid ht2
            clear hd2 ht2
            go_wp2_with fail
            refine (HCT.out _ _ _ _ _ (by have := HD2.out; rw [HMP.out] at this; exact this) (by have := HLM.out; have := HLL.out; simp; omega)).mono ?_
            rintro e w3 ⟨rfl, v3, pc3, qs3, kp3, hd3, hr3⟩
            have HD3 := Lib.hid hd3
            have HR3 := Lib.hid hr3
            clear hd3 hr3
            go_wp2_with fail
            go_ret
            refine ⟨rfl, v3, pc3, qs3, kp3, HD3.out, ?_⟩
            have hrun : Run w w2 g v pc qs kp v2 pc2 (qs ++ ls) kp := by
              refine ⟨(Turn.below HB1.out).trans HT2.out, fun j hj hd => ?_⟩
              rcases hd with e | e | ⟨q, hq, y, hy, rfl⟩
              · exact .inl (((Turn.below HB1.out).trans HT2.out).new j hj e)
              · exact .inr (.inl e)
              · rcases List.mem_append.1 hq with hq | hq
                · exact .inr (.inr ⟨q, hq, y, hy, rfl⟩)
                · have h1 := (HLS.out q hq).2 y hy
                  have h2 := HQ0.out
                  omega
            exact hrun.trans HR3.out
          · show Calls _ _ _ _ (Turned w g v pc qs kp (s.add (parts 1 k.toNat b)).count)
            have HCT := Lib.hid (fun W v pc qs kp (h : DSt W g v pc qs kp (s.add (parts 1 k.toNat b))) hl => count_any g W v pc qs kp _ h HDN.out hl)
            obtain ⟨kn, rfl⟩ : ∃ kn : Nat, k = (kn : Int) := ⟨k.toNat, by omega⟩
            have HPA := Lib.hid (patches_any 1 kn A c b w HA.out (by unfold maxFile; omega))
            have HK := Lib.hid (show kn + b.length ≤ maxFile by unfold maxFile; omega)
            have H0 := Lib.hid h0
            clear hm
            go_enter Try.func36, Try.ntmps36
            go_wp2_with fail
            refine HC.out.mono ?_
            rintro e w' ⟨rfl, rfl⟩
            go_wp2_with fail
            refine HPA.out.mono ?_
            rintro e w1 ⟨x, ls, q0, rfl, hL, hmap, hq0, hq0l, hb1⟩
            obtain ⟨ax, kx, rfl, -⟩ := row_slice hL.row
            have HB1 := Lib.hid hb1
            have HMP := Lib.hid hmap
            have hll : ls.length ≤ b.length := by
              have h1 := parts_le 1 kn b
              rw [← hmap, List.length_map] at h1
              exact h1
            have HLL := Lib.hid hll
            have HLS := Lib.hid hL.reads
            have HQ0 := Lib.hid hq0
            have hlt0 := HD.out.core.lt (Array.getElem?_eq_some_iff.1 HD.out.box).1
            have HCH := Lib.hid (change_patch1 g ax ls.length kx q0 ls w1 v pc qs kp s (HD.out.below hb1) hL.zero rfl (fun q hq => ⟨parts_ok 1 (by omega) b.length kn b (Nat.le_refl _) HK.out q.p (by rw [← hmap]; exact List.mem_map_of_mem hq), parts_kind 1 kn b q.p (by rw [← hmap]; exact List.mem_map_of_mem hq)⟩) (fun y hy hd => by
                have h1 := (hL.row.lt y.block (by rw [hy]; rfl)).1
                have h2 := hlt0 _ (.inl hd)
                omega) (fun q hq y hy => ⟨hq0l H0.out, fun hd => by
                have h2 := hlt0 _ (.inl hd)
                omega⟩) (by have := HLM.out; omega))
            clear hb1 hmap hll hL hlt0 hq0l hq0
            go_wp2_with fail
            refine HCH.out.mono ?_
            rintro e w2 ⟨rfl, v2, pc2, hd2, ht2⟩
            have HD2 := Lib.hid hd2
            have HT2 := Lib.hid ht2
            clear hd2 ht2
            go_wp2_with fail
            refine (HCT.out _ _ _ _ _ (by have := HD2.out; rw [HMP.out] at this; exact this) (by have := HLM.out; have := HLL.out; simp; omega)).mono ?_
            rintro e w3 ⟨rfl, v3, pc3, qs3, kp3, hd3, hr3⟩
            have HD3 := Lib.hid hd3
            have HR3 := Lib.hid hr3
            clear hd3 hr3
            go_wp2_with fail
            go_ret
            refine ⟨rfl, v3, pc3, qs3, kp3, HD3.out, ?_⟩
            have hrun : Run w w2 g v pc qs kp v2 pc2 (qs ++ ls) kp := by
              refine ⟨(Turn.below HB1.out).trans HT2.out, fun j hj hd => ?_⟩
              rcases hd with e | e | ⟨q, hq, y, hy, rfl⟩
              · exact .inl (((Turn.below HB1.out).trans HT2.out).new j hj e)
              · exact .inr (.inl e)
              · rcases List.mem_append.1 hq with hq | hq
                · exact .inr (.inr ⟨q, hq, y, hy, rfl⟩)
                · have h1 := (HLS.out q hq).2 y hy
                  have h2 := HQ0.out
                  omega
            exact hrun.trans HR3.out
        · clear hfull
          have h1 : ¬ (0 : Int) < b.length := by omega
          rcases hf with rfl | rfl
          · show Calls _ _ _ _ (Turned w g v pc qs kp (s.add (parts 0 k.toNat b)).count)
            have HCT := Lib.hid (fun W v pc qs kp (h : DSt W g v pc qs kp (s.add (parts 0 k.toNat b))) hl => count_any g W v pc qs kp _ h HDN.out hl)
            have HPA := Lib.hid (patches_nil k A c w)
            obtain rfl : b = [] := List.length_eq_zero_iff.1 (by omega)
            have HE := Lib.hid h0
            clear h0 hm
            go_enter Try.func36, Try.ntmps36
            go_wp2_with fail
            refine HC.out.mono ?_
            rintro e w' ⟨rfl, rfl⟩
            go_wp2_with fail
            refine HPA.out.mono ?_
            rintro e w1 ⟨rfl, hb1⟩
            have HB1 := Lib.hid hb1
            have HCH := Lib.hid (change_patch0 g none 0 0 0 [] w1 v pc qs kp s (HD.out.below hb1) ⟨World.ownsRow_nil _ _ _ _, fun q hq => by simp at hq⟩ rfl (fun q hq => by simp at hq) (fun x hx => by cases hx) (fun q hq => by simp at hq) (by have := HLM.out; simp; omega))
            clear hb1
            go_wp2_with fail
            refine HCH.out.mono ?_
            rintro e w2 ⟨rfl, v2, pc2, hd2, ht2⟩
            have HD2 := Lib.hid hd2
            have HT2 := Lib.hid ht2
            clear hd2 ht2
            go_wp2_with fail
            refine (HCT.out _ _ _ _ _ (by simpa [parts_nil] using HD2.out) (by have := HLM.out; simp; omega)).mono ?_
            rintro e w3 ⟨rfl, v3, pc3, qs3, kp3, hd3, hr3⟩
            have HD3 := Lib.hid hd3
            have HR3 := Lib.hid hr3
            clear hd3 hr3
            go_wp2_with fail
            go_ret
            refine ⟨rfl, v3, pc3, qs3, kp3, HD3.out, (Run.below HB1.out).trans ((Run.of_turn HT2.out (fun q hq => .inl (by simpa using hq)) (.inl rfl)).trans (by simpa using HR3.out))⟩
          · show Calls _ _ _ _ (Turned w g v pc qs kp (s.add (parts 1 k.toNat b)).count)
            have HCT := Lib.hid (fun W v pc qs kp (h : DSt W g v pc qs kp (s.add (parts 1 k.toNat b))) hl => count_any g W v pc qs kp _ h HDN.out hl)
            have HPA := Lib.hid (patches_nil k A c w)
            obtain rfl : b = [] := List.length_eq_zero_iff.1 (by omega)
            have HE := Lib.hid h0
            clear h0 hm
            go_enter Try.func36, Try.ntmps36
            go_wp2_with fail
            refine HC.out.mono ?_
            rintro e w' ⟨rfl, rfl⟩
            go_wp2_with fail
            refine HPA.out.mono ?_
            rintro e w1 ⟨rfl, hb1⟩
            have HB1 := Lib.hid hb1
            have HCH := Lib.hid (change_patch1 g none 0 0 0 [] w1 v pc qs kp s (HD.out.below hb1) ⟨World.ownsRow_nil _ _ _ _, fun q hq => by simp at hq⟩ rfl (fun q hq => by simp at hq) (fun x hx => by cases hx) (fun q hq => by simp at hq) (by have := HLM.out; simp; omega))
            clear hb1
            go_wp2_with fail
            refine HCH.out.mono ?_
            rintro e w2 ⟨rfl, v2, pc2, hd2, ht2⟩
            have HD2 := Lib.hid hd2
            have HT2 := Lib.hid ht2
            clear hd2 ht2
            go_wp2_with fail
            refine (HCT.out _ _ _ _ _ (by simpa [parts_nil] using HD2.out) (by have := HLM.out; simp; omega)).mono ?_
            rintro e w3 ⟨rfl, v3, pc3, qs3, kp3, hd3, hr3⟩
            have HD3 := Lib.hid hd3
            have HR3 := Lib.hid hr3
            clear hd3 hr3
            go_wp2_with fail
            go_ret
            refine ⟨rfl, v3, pc3, qs3, kp3, HD3.out, (Run.below HB1.out).trans ((Run.of_turn HT2.out (fun q hq => .inl (by simpa using hq)) (.inl rfl)).trans (by simpa using HR3.out))⟩
  · rw [if_pos hm]
    generalize s.may f = m at *
    go_enter Try.func36, Try.ntmps36
    go_wp2_with fail
    refine HC.out.mono ?_
    rintro e w' ⟨rfl, rfl⟩
    go_wp2_with fail
    go_ret
    exact ⟨rfl, v, pc, qs, kp, HD.out, Run.refl _ _ _ _ _ _⟩
end Go.Proofs.Ytellmmgiabfacaa
