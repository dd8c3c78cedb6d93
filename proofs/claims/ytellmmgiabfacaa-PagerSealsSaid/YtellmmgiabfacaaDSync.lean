/-
  Of disk: contract of Sync.
-/
import Derived.Test.YtellmmgiabfacaaDWrite
namespace Go.Proofs.Ytellmmgiabfacaa
open Go.ChangeShapes Go.WideShapes Go.ChangeAt Go.RowKit
set_option linter.unusedVariables false

set_option maxHeartbeats 4000000 in
set_option maxRecDepth 100000 in
theorem sync_any (g : Nat) (f : Int) (w : World) (v : Nat → Value) (pc : Value) (qs : List PV) (kp : Value) (s : St) (hd : DSt w g v pc qs kp s) (hlim : qs.length ≤ 7000000000000) :
    Calls Try.prog 76 #[.pointer (some ⟨g, 0, none⟩), .int .i64 f] w (Turned w g v pc qs kp (s.sync f)) := by
  have HC := Lib.hid (reach_any g f hd.disk)
  have HBU := Lib.hid (burns_any g hd.disk)
  have HD := Lib.hid hd
  have HLM := Lib.hid hlim
  clear hd hlim
  unfold St.sync
  by_cases hm : s.may f = 0
  · rw [if_neg (by omega)]
    rw [hm] at HC
    obtain ⟨hdn, hf⟩ := may_file hm
    have HDN := Lib.hid hdn
    clear hdn
    by_cases hfu : s.fuse = 1
    · rw [if_pos hfu]
      rw [decide_eq_true hfu] at HBU
      have HCT := Lib.hid (count_any g w v pc qs kp s HD.out HDN.out (by have := HLM.out; omega))
      clear hm hf
      go_enter Try.func76, Try.ntmps76
      go_wp2_with fail
      refine HC.out.mono ?_
      rintro e w' ⟨rfl, rfl⟩
      go_wp2_with fail
      refine HBU.out.mono ?_
      rintro e w' ⟨rfl, rfl⟩
      go_wp2_with fail
      refine HCT.out.mono ?_
      rintro e w3 ⟨rfl, v3, pc3, qs3, kp3, hd3, hr3⟩
      have HD3 := Lib.hid hd3
      have HR3 := Lib.hid hr3
      clear hd3 hr3
      go_wp2_with fail
      go_ret
      exact ⟨rfl, v3, pc3, qs3, kp3, HD3.out, HR3.out⟩
    · rw [if_neg hfu]
      rw [decide_eq_false hfu] at HBU
      rcases hf with rfl | rfl
      · show Calls _ _ _ _ (Turned w g v pc qs kp (s.settle 0).count)
        have HST := Lib.hid (settle_0 g w v pc qs kp s HD.out (by have := HLM.out; omega))
        have HCT := Lib.hid (fun W v pc qs kp (h : DSt W g v pc qs kp (s.settle 0)) hl => count_any g W v pc qs kp _ h HDN.out hl)
        clear hm
        go_enter Try.func76, Try.ntmps76
        go_wp2_with fail
        refine HC.out.mono ?_
        rintro e w' ⟨rfl, rfl⟩
        go_wp2_with fail
        refine HBU.out.mono ?_
        rintro e w' ⟨rfl, rfl⟩
        go_wp2_with fail
        refine HST.out.mono ?_
        rintro e w2 ⟨rfl, v2, pc2, hd2, ht2⟩
        have HD2 := Lib.hid hd2
        have HT2 := Lib.hid ht2
        clear hd2 ht2
        go_wp2_with fail
        refine (HCT.out _ _ _ _ _ HD2.out (by have h1 := List.length_filter_le (fun q : PV => q.p.file != 0) qs; have := HLM.out; omega)).mono ?_
        rintro e w3 ⟨rfl, v3, pc3, qs3, kp3, hd3, hr3⟩
        have HD3 := Lib.hid hd3
        have HR3 := Lib.hid hr3
        clear hd3 hr3
        go_wp2_with fail
        go_ret
        exact ⟨rfl, v3, pc3, qs3, kp3, HD3.out, (Run.of_turn HT2.out (fun q hq => .inl (List.mem_filter.1 hq).1) (.inl rfl)).trans HR3.out⟩
      · show Calls _ _ _ _ (Turned w g v pc qs kp (s.settle 1).count)
        have HST := Lib.hid (settle_1 g w v pc qs kp s HD.out (by have := HLM.out; omega))
        have HCT := Lib.hid (fun W v pc qs kp (h : DSt W g v pc qs kp (s.settle 1)) hl => count_any g W v pc qs kp _ h HDN.out hl)
        clear hm
        go_enter Try.func76, Try.ntmps76
        go_wp2_with fail
        refine HC.out.mono ?_
        rintro e w' ⟨rfl, rfl⟩
        go_wp2_with fail
        refine HBU.out.mono ?_
        rintro e w' ⟨rfl, rfl⟩
        go_wp2_with fail
        refine HST.out.mono ?_
        rintro e w2 ⟨rfl, v2, pc2, hd2, ht2⟩
        have HD2 := Lib.hid hd2
        have HT2 := Lib.hid ht2
        clear hd2 ht2
        go_wp2_with fail
        refine (HCT.out _ _ _ _ _ HD2.out (by have h1 := List.length_filter_le (fun q : PV => q.p.file != 1) qs; have := HLM.out; omega)).mono ?_
        rintro e w3 ⟨rfl, v3, pc3, qs3, kp3, hd3, hr3⟩
        have HD3 := Lib.hid hd3
        have HR3 := Lib.hid hr3
        clear hd3 hr3
        go_wp2_with fail
        go_ret
        exact ⟨rfl, v3, pc3, qs3, kp3, HD3.out, (Run.of_turn HT2.out (fun q hq => .inl (List.mem_filter.1 hq).1) (.inl rfl)).trans HR3.out⟩
  · rw [if_pos hm]
    generalize s.may f = m at *
    go_enter Try.func76, Try.ntmps76
    go_wp2_with fail
    refine HC.out.mono ?_
    rintro e w' ⟨rfl, rfl⟩
    go_wp2_with fail
    go_ret
    exact ⟨rfl, v, pc, qs, kp, HD.out, Run.refl _ _ _ _ _ _⟩
end Go.Proofs.Ytellmmgiabfacaa
