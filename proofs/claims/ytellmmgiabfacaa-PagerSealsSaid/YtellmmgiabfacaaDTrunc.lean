/-
  Of disk: contract of Truncate.
-/
import Derived.Test.YtellmmgiabfacaaDWrite
namespace Go.Proofs.Ytellmmgiabfacaa
open Go.ChangeShapes Go.WideShapes Go.ChangeAt Go.RowKit
set_option linter.unusedVariables false

set_option maxHeartbeats 4000000 in
set_option maxRecDepth 100000 in
theorem truncate_any (g : Nat) (f k : Int) (w : World) (v : Nat → Value) (pc : Value) (qs : List PV) (kp : Value) (s : St) (hd : DSt w g v pc qs kp s) (hlim : qs.length + 4194304 ≤ 8000000000000) :
    Calls Try.prog 125 #[.pointer (some ⟨g, 0, none⟩), .int .i64 f, .int .i64 k] w (Turned w g v pc qs kp (s.truncate f k)) := by
  have HC := Lib.hid (reach_any g f hd.disk)
  have HD := Lib.hid hd
  have HLM := Lib.hid hlim
  obtain ⟨⟨-, -, -, -, -, c5, -, c7, -, -⟩, -⟩ := box10 hd.box
  obtain ⟨a0, n0, k0, e0, l0, -⟩ := now_form hd 0 (by omega)
  obtain ⟨a1, n1, k1, e1, l1, -⟩ := now_form hd 2 (by omega)
  rw [e0] at c5
  rw [e1] at c7
  obtain ⟨m0, hm0⟩ : ∃ m0 : Int, m0 = (n0 : Int) := ⟨_, rfl⟩
  obtain ⟨m1, hm1⟩ : ∃ m1 : Int, m1 = (n1 : Int) := ⟨_, rfl⟩
  have HX0 : Hid (((s.now 0).length : Int) = m0) := by show _ = _; rw [hm0, l0]; rfl
  have HX1 : Hid (((s.now 1).length : Int) = m1) := by show _ = _; rw [hm1, l1]; rfl
  clear hd hlim e0 e1 l0 l1
  unfold St.truncate
  by_cases hm : s.may f = 0
  · rw [if_neg (by omega)]
    rw [hm] at HC
    obtain ⟨hdn, hf⟩ := may_file hm
    have HDN := Lib.hid hdn
    clear hdn
    by_cases hk : k < 0
    · rw [if_pos (.inl hk)]
      clear hm hm0 hm1 c5 c7
      go_enter Try.func125, Try.ntmps125
      go_wp2_with fail
      refine HC.out.mono ?_
      rintro e w' ⟨rfl, rfl⟩
      go_wp2_with fail
      go_ret
      exact ⟨rfl, v, pc, qs, kp, HD.out, Run.refl _ _ _ _ _ _⟩
    · rcases hf with rfl | rfl
      · by_cases hbig : m0 < k
        · rw [if_pos (.inr (by show ((s.now 0).length : Int) < k; rw [HX0.out]; exact hbig))]
          have hbig' : (n0 : Int) < k := by omega
          clear hm hm0 hm1 hbig
          go_enter Try.func125, Try.ntmps125
          go_wp2_with fail
          refine HC.out.mono ?_
          rintro e w' ⟨rfl, rfl⟩
          go_wp2_with fail
          go_ret
          exact ⟨rfl, v, pc, qs, kp, HD.out, Run.refl _ _ _ _ _ _⟩
        · rw [if_neg (fun h => h.elim hk fun h => hbig (by have h : ((s.now 0).length : Int) < k := h; rwa [HX0.out] at h))]
          have hbig' : ¬ (n0 : Int) < k := by omega
          clear hm1
          show Calls _ _ _ _ (Turned w g v pc qs kp (s.add [⟨0, true, k.toNat, []⟩]).count)
          obtain ⟨kn, rfl⟩ : ∃ kn : Nat, k = (kn : Int) := ⟨k.toNat, by omega⟩
          obtain ⟨q, hq⟩ : ∃ q : PV, q = ⟨⟨0, true, kn, []⟩, none, 0⟩ := ⟨_, rfl⟩
          have hqi : q.iface = .iface 195 (.agg #[.int .i64 kn]) := by rw [hq]; rfl
          have hqp : q.p = ⟨0, true, kn, []⟩ := by rw [hq]
          have hqA : q.A = none := by rw [hq]
          have HQP := Lib.hid hqp
          have HQA := Lib.hid hqA
          have hkn : kn ≤ (s.now 0).length := by have := HX0.out; omega
          have hkm : kn ≤ maxFile := Nat.le_trans hkn (HD.out.ok.now 0)
          have HCH := Lib.hid (change_cut0 g (some ⟨w.heap.size, 0, none⟩) 1 1 0 [q] (w.alloc (.cells #[.iface 195 (.agg #[.int .i64 kn])] 173)) v pc qs kp s (HD.out.below (alloc_below _ _)) ⟨⟨by simp, .inr ⟨w.heap.size, 1, _, rfl, Nat.zero_le _, heap_alloc_new w _, Nat.le_refl _, by decide, by simp, by simp [hqi]⟩⟩, fun y hy => by
              simp at hy
              subst hy
              rw [hqA, hqp]
              exact ⟨BRd.nil _ _, fun a ha => by cases ha⟩⟩ rfl (fun y hy => by
              simp at hy
              subst hy
              rw [hqp]
              exact ⟨⟨by show 0 < 2; omega, by simpa using hkm, (fun _ => rfl), fun h => by cases h⟩, rfl, rfl⟩) (fun x hx hd => by
              obtain rfl := Option.some.inj hx
              exact absurd (HD.out.core.lt (Array.getElem?_eq_some_iff.1 HD.out.box).1 _ (.inl hd)) (Nat.lt_irrefl _)) (fun y hy x hx => by
              simp at hy
              subst hy
              rw [hqA] at hx
              cases hx) (by have := HLM.out; omega))
          have HCT := Lib.hid (fun W v pc qs kp (h : DSt W g v pc qs kp (s.add [⟨0, true, kn, []⟩])) hl => count_any g W v pc qs kp _ h HDN.out hl)
          clear hqi hqp hqA hkn hkm hq hm
          go_enter Try.func125, Try.ntmps125
          go_wp2_with fail
          refine HC.out.mono ?_
          rintro e w' ⟨rfl, rfl⟩
          go_wp2_with fail
          refine HCH.out.mono ?_
          rintro e w2 ⟨rfl, v2, pc2, hd2, ht2⟩
          have HD2 := Lib.hid hd2
          have HT2 := Lib.hid ht2
          clear hd2 ht2
          go_wp2_with fail
          refine (HCT.out _ _ _ _ _ (by have := HD2.out; simp only [List.map_cons, List.map_nil, HQP.out] at this; exact this) (by have := HLM.out; simp; omega)).mono ?_
          rintro e w3 ⟨rfl, v3, pc3, qs3, kp3, hd3, hr3⟩
          have HD3 := Lib.hid hd3
          have HR3 := Lib.hid hr3
          clear hd3 hr3
          go_wp2_with fail
          go_ret
          refine ⟨rfl, v3, pc3, qs3, kp3, HD3.out, (Run.below (alloc_below _ _)).trans ((Run.of_turn HT2.out (fun y hy => ?_) (.inl rfl)).trans HR3.out)⟩
          rcases List.mem_append.1 hy with hy | hy
          · exact .inl hy
          · simp at hy
            subst hy
            exact .inr fun a ha => by rw [HQA.out] at ha; cases ha
      · by_cases hbig : m1 < k
        · rw [if_pos (.inr (by show ((s.now 1).length : Int) < k; rw [HX1.out]; exact hbig))]
          have hbig' : (n1 : Int) < k := by omega
          clear hm hm0 hm1 hbig
          go_enter Try.func125, Try.ntmps125
          go_wp2_with fail
          refine HC.out.mono ?_
          rintro e w' ⟨rfl, rfl⟩
          go_wp2_with fail
          go_ret
          exact ⟨rfl, v, pc, qs, kp, HD.out, Run.refl _ _ _ _ _ _⟩
        · rw [if_neg (fun h => h.elim hk fun h => hbig (by have h : ((s.now 1).length : Int) < k := h; rwa [HX1.out] at h))]
          have hbig' : ¬ (n1 : Int) < k := by omega
          clear hm0
          show Calls _ _ _ _ (Turned w g v pc qs kp (s.add [⟨1, true, k.toNat, []⟩]).count)
          obtain ⟨kn, rfl⟩ : ∃ kn : Nat, k = (kn : Int) := ⟨k.toNat, by omega⟩
          obtain ⟨q, hq⟩ : ∃ q : PV, q = ⟨⟨1, true, kn, []⟩, none, 0⟩ := ⟨_, rfl⟩
          have hqi : q.iface = .iface 195 (.agg #[.int .i64 kn]) := by rw [hq]; rfl
          have hqp : q.p = ⟨1, true, kn, []⟩ := by rw [hq]
          have hqA : q.A = none := by rw [hq]
          have HQP := Lib.hid hqp
          have HQA := Lib.hid hqA
          have hkn : kn ≤ (s.now 1).length := by have := HX1.out; omega
          have hkm : kn ≤ maxFile := Nat.le_trans hkn (HD.out.ok.now 1)
          have HCH := Lib.hid (change_cut1 g (some ⟨w.heap.size, 0, none⟩) 1 1 0 [q] (w.alloc (.cells #[.iface 195 (.agg #[.int .i64 kn])] 173)) v pc qs kp s (HD.out.below (alloc_below _ _)) ⟨⟨by simp, .inr ⟨w.heap.size, 1, _, rfl, Nat.zero_le _, heap_alloc_new w _, Nat.le_refl _, by decide, by simp, by simp [hqi]⟩⟩, fun y hy => by
              simp at hy
              subst hy
              rw [hqA, hqp]
              exact ⟨BRd.nil _ _, fun a ha => by cases ha⟩⟩ rfl (fun y hy => by
              simp at hy
              subst hy
              rw [hqp]
              exact ⟨⟨by show 1 < 2; omega, by simpa using hkm, (fun _ => rfl), fun h => by cases h⟩, rfl, rfl⟩) (fun x hx hd => by
              obtain rfl := Option.some.inj hx
              exact absurd (HD.out.core.lt (Array.getElem?_eq_some_iff.1 HD.out.box).1 _ (.inl hd)) (Nat.lt_irrefl _)) (fun y hy x hx => by
              simp at hy
              subst hy
              rw [hqA] at hx
              cases hx) (by have := HLM.out; omega))
          have HCT := Lib.hid (fun W v pc qs kp (h : DSt W g v pc qs kp (s.add [⟨1, true, kn, []⟩])) hl => count_any g W v pc qs kp _ h HDN.out hl)
          clear hqi hqp hqA hkn hkm hq hm
          go_enter Try.func125, Try.ntmps125
          go_wp2_with fail
          refine HC.out.mono ?_
          rintro e w' ⟨rfl, rfl⟩
          go_wp2_with fail
          refine HCH.out.mono ?_
          rintro e w2 ⟨rfl, v2, pc2, hd2, ht2⟩
          have HD2 := Lib.hid hd2
          have HT2 := Lib.hid ht2
          clear hd2 ht2
          go_wp2_with fail
          refine (HCT.out _ _ _ _ _ (by have := HD2.out; simp only [List.map_cons, List.map_nil, HQP.out] at this; exact this) (by have := HLM.out; simp; omega)).mono ?_
          rintro e w3 ⟨rfl, v3, pc3, qs3, kp3, hd3, hr3⟩
          have HD3 := Lib.hid hd3
          have HR3 := Lib.hid hr3
          clear hd3 hr3
          go_wp2_with fail
          go_ret
          refine ⟨rfl, v3, pc3, qs3, kp3, HD3.out, (Run.below (alloc_below _ _)).trans ((Run.of_turn HT2.out (fun y hy => ?_) (.inl rfl)).trans HR3.out)⟩
          rcases List.mem_append.1 hy with hy | hy
          · exact .inl hy
          · simp at hy
            subst hy
            exact .inr fun a ha => by rw [HQA.out] at ha; cases ha
  · rw [if_pos hm]
    clear hm0 hm1 c5 c7
    generalize s.may f = m at *
    go_enter Try.func125, Try.ntmps125
    go_wp2_with fail
    refine HC.out.mono ?_
    rintro e w' ⟨rfl, rfl⟩
    go_wp2_with fail
    go_ret
    exact ⟨rfl, v, pc, qs, kp, HD.out, Run.refl _ _ _ _ _ _⟩
end Go.Proofs.Ytellmmgiabfacaa
