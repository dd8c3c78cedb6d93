/-
  The document's blocks: sealed, Seal.
-/
import Derived.Test.YtellmmgiabfacaaPSeal
import Derived.Test.YtellmmgiabfacaaDZero
namespace Go.Proofs.Ytellmmgiabfacaa
open Go.ChangeShapes Go.WideShapes Go.ChangeAt Go.RowKit Go.Deep
set_option linter.unusedVariables false

/-- Bytes are appended to a slice of the call's own that is not empty. -/
theorem run_app8 (w : World) (ty : TypeId) (B n c m k N : Nat) (a A : Option Addr) (l b : List UInt8) (hown : OwnB w B (.slice a n c) l) (hn : n = l.length) (h0 : 0 < n) (hA : BRd w A b) (hm : m = b.length) (hB : B ≤ w.heap.size) (hN : N = n + m) (hlim : N ≤ 140737488355328) :
    ∃ g c' w', (Builtin.append_ #[23, 23] ty #[.slice a n c, .slice A m k]).run Try.prog w = .ok (.slice (some ⟨g, 0, none⟩) N c') w' ∧ OwnB w' B (.slice (some ⟨g, 0, none⟩) N c') (l ++ b) ∧ Below B w w' := by
  obtain ⟨i, hi, hz, hs, hbb⟩ := info_parts byteInfo
  have ht := Try.underlying23
  subst hn hm hN
  obtain ⟨g, cap, hv, hg, hgs⟩ := World.ownsRow.form hown (by omega)
  obtain ⟨rfl, rfl⟩ : a = some ⟨g, 0, none⟩ ∧ c = cap := by simpa using hv
  have hcap : l.length ≤ c := by
    obtain ⟨a', c', e, h, _⟩ := hown.slice
    simp only [Value.slice.injEq] at e
    omega
  by_cases hb : 0 < b.length
  · obtain ⟨g2, off, rfl, hg2, hc⟩ := hA hb
    obtain ⟨v', w', h1, h2, h3, h4⟩ := run_append_own (P := Try.prog) w B 23 ty 5 i (.int .u8 0) 1 1 ht hi hz hs hbb rfl (by decide) (.slice (some ⟨g, 0, none⟩) l.length c) l.length (Lib.byteCells l) hown ⟨g2, off, none⟩ b.length k (Lib.byteCells b) (by simp [Lib.byteCells]) (fun j u hj => by
      obtain ⟨hj', rfl⟩ := byteCells_get hj
      rw [Go.WideShapes.add_plain, hc j hj']) (fun u hu => by simp [Lib.byteCells] at hu; obtain ⟨c, _, rfl⟩ := hu; rfl) (by unfold maxLen; omega) (by omega) hB
    have e : Lib.byteCells l ++ Lib.byteCells b = Lib.byteCells (l ++ b) := by simp [Lib.byteCells]
    have hO : OwnB w' B v' (l ++ b) := by
      unfold OwnB
      rw [List.length_append, ← e]
      exact h2
    obtain ⟨g', c', rfl, _, _⟩ := World.ownsRow.form hO (by simp; omega)
    rw [List.length_append] at hO h1
    refine ⟨g', c', w', h1, hO, (Below.refl B w).grown h3 hB fun k hk => ?_⟩
    exact (World.ownsRow.lt hown k hk).1
  · obtain rfl : b = [] := List.length_eq_zero_iff.1 (by omega)
    refine ⟨g, c, w, ?_, by rw [List.append_nil]; exact hown, Below.refl _ _⟩
    cases A <;> simp [Builtin.append_, run_underlying ht, sizeOf, typeInfo, hi, Builtin.lenOf, Builtin.firstCells, loadCells, loadCellsFrom, hcap, storeCells]
/-- Zeros are appended to a slice of the call's own that is not empty. -/
theorem run_zer8 (w : World) (ty : TypeId) (B n c k N : Nat) (a : Option Addr) (l : List UInt8) (hown : OwnB w B (.slice a n c) l) (hn : n = l.length) (h0 : 0 < n) (hB : B ≤ w.heap.size) (hN : N = n + k) (hlim : N ≤ 140737488355328) :
    ∃ g c' w', (Builtin.append_ #[23, 3] ty #[.slice a n c, .int .i64 k]).run Try.prog w = .ok (.slice (some ⟨g, 0, none⟩) N c') w' ∧ OwnB w' B (.slice (some ⟨g, 0, none⟩) N c') (l ++ List.replicate k 0) ∧ Below B w w' := by
  obtain ⟨i, hi, hz, hs, hbb⟩ := info_parts byteInfo
  have ht := Try.underlying23
  have htn := Try.underlying3
  subst hn hN
  obtain ⟨g, cap, hv, hg, hgs⟩ := World.ownsRow.form hown (by omega)
  obtain ⟨rfl, rfl⟩ : a = some ⟨g, 0, none⟩ ∧ c = cap := by simpa using hv
  have hcap : l.length ≤ c := by
    obtain ⟨a', c', e, h, _⟩ := hown.slice
    simp only [Value.slice.injEq] at e
    omega
  by_cases hk : 0 < k
  · obtain ⟨v', w', h1, h2, h3⟩ := run_zeros w ty (.slice (some ⟨g, 0, none⟩) l.length c) l (hown.low (Nat.zero_le _)) k hk (by omega)
    obtain ⟨g', c', rfl, _, _⟩ := World.ownsRow.form h2 (by simp; omega)
    have hg' : B ≤ g' := by
      rcases h3.at_ with e | e
      · simp only [Value.ownBlock] at e
        obtain rfl := Option.some.inj e
        exact hg
      · exact Nat.le_trans hB (e g' rfl)
    rw [List.length_append, List.length_replicate] at h2 h1
    exact ⟨g', c', w', h1, own_raise h2 hg', h3.below hown hB⟩
  · obtain rfl : k = 0 := by omega
    refine ⟨g, c, w, ?_, by rw [List.replicate_zero, List.append_nil]; exact hown, Below.refl _ _⟩
    have hzz := zeroCells_one (.int .u8 0) 0 rfl
    have hw0 : IntKind.i64.wrap 0 = 0 := by decide
    simp [hw0, Builtin.append_, run_underlying ht, run_underlying htn, sizeOf, typeInfo, zeroValue, hi, hz, asInt, asIntOf, hzz, hcap, Builtin.lenOf, Builtin.firstCells, loadCells, storeCells]
/-- A call of append whose answer is known. -/
theorem wpList_run2 {w w1 : World} {ops : Array Oper} {rest : List Oper} {o : Oper} {a : Act} {Q : Exit → Act → World → Prop} {t1 t2 ty : TypeId} {vs vx v1 : Value} (hgd : o.guard = none) (s x : Operand)
    (ho : o.op = .call { callee := .builtin .append, args := #[s, x], argTypes := #[t1, t2] }) (hr : (Builtin.append_ #[t1, t2] ty #[vs, vx]).run Try.prog w = .ok v1 w1) (hty : o.type = ty) (hs : a.eval s = vs) (hx : a.eval x = vx)
    (h : wpList Try.prog ops Q rest (a.put o.dst v1) w1) : wpList Try.prog ops Q (o :: rest) a w := by
  subst hty
  refine wpList_plain hgd fun _ hK => ?_
  unfold Oper.wp execOp
  simp only [ho, resolve, invoke, builtin, Sem.run_bind, Sem.run_pure, Result.andThen_ok, List.map_toArray, List.map_cons, List.map_nil, hs, hx, hr]
  exact hK _ _ h
set_option maxHeartbeats 3200000 in
set_option maxRecDepth 100000 in
theorem rsealed_any (B c n N : Nat) (a : Option Addr) (l : List UInt8) (w : World) (hown : OwnB w B (.slice a n c) l) (hn : n = l.length) (h0 : 0 < n) (hB : B ≤ w.heap.size) (hN : N = n + 4) (hl : n ≤ 4194304) :
    Calls Try.prog 55 #[.slice a n c] w fun e w' => ∃ g k, e = .returned (.slice (some ⟨g, 0, none⟩) N k) ∧ OwnB w' B (.slice (some ⟨g, 0, none⟩) N k) (signB l) ∧ Below B w w' := by
  have HS := refSum_any a c l w (by subst hn; exact hown.brd) (by omega)
  rw [← hn, show bits .xor .u32 4294967295 (crcL 4294967295 l) = (crcN32 l : Int) from crcV_nat l] at HS
  have hC := crcN_lt l
  have HLI := Lib.hid (fun W => rlittle_any (crcN32 l) 4 W (by omega) (by omega))
  have HSI : signB l = l ++ leB (crcN32 l) 4 := rfl
  rw [HSI]
  obtain ⟨C, hCC⟩ : ∃ C, C = crcN32 l := ⟨_, rfl⟩
  rw [← hCC] at HS hC HLI ⊢
  have HSU := Lib.hid HS
  have HO := Lib.hid hown
  have HN := Lib.hid hn
  have HNN := Lib.hid hN
  have h0' : (0 : Int) ≤ (C : Int) := by omega
  have hC2 : (C : Int) < 4294967296 := by omega
  clear HS hown hCC HSI hn hN hC
  go_enter Try.func55, Try.ntmps55
  go_wp2_with fail
  refine HSU.out.mono ?_
  rintro e w' ⟨rfl, rfl⟩
  go_wp2_with fail
  refine (HLI.out _).mono ?_
  rintro e w2 ⟨a2, k2, rfl, ho2, -, hb2⟩
  rw [leB_len] at ho2 ⊢
  have hbr2 := OwnB.brd (by rw [leB_len]; exact ho2)
  obtain ⟨g3, c3, w3, hr3, ho3, hb3⟩ := run_app8 w2 23 B n c 4 k2 N a a2 l (leB C 4) (HO.out.below hb2) HN.out h0 hbr2 (leB_len _ _).symm (Nat.le_trans hB hb2.size) HNN.out (by have := HNN.out; omega)
  have HO3 := Lib.hid ho3
  have HB3 := Lib.hid (below_tr (hb2.mono hB) hb3)
  clear ho3 hb3 ho2 hbr2 hb2
  go_wp2_with (at_builtin; refine wpList_run2 rfl _ _ rfl hr3 rfl rfl rfl ?_; clear hr3; refine Hid.out ?_)
  refine Lib.hid ?_
  go_wp2_with fail
  go_ret
  exact ⟨g3, c3, rfl, HO3.out, HB3.out⟩
set_option maxHeartbeats 3200000 in
set_option maxRecDepth 100000 in
theorem rseal_long (A : Option Addr) (c : Nat) (b : List UInt8) (w : World) (h : 4090 < b.length) : Calls Try.prog 13 #[.slice A b.length c] w fun e w' => e = .returned (.tuple #[.slice none 0 0, .int .i64 3]) ∧ w = w' := by
  have hI : (4090 : Int) < (b.length : Int) := by omega
  clear h
  go_enter Try.func13, Try.ntmps13
  go_wp2_with fail
  go_ret2
  exact ⟨rfl, rfl⟩
set_option maxHeartbeats 3200000 in
set_option maxRecDepth 100000 in
theorem rseal_any (A : Option Addr) (c : Nat) (b : List UInt8) (w : World) (hA : BRd w A b) (hb : b.length ≤ 4090) : Calls Try.prog 13 #[.slice A b.length c] w (SealPost b w) := by
  obtain ⟨n, hn⟩ : ∃ n, n = b.length := ⟨_, rfl⟩
  obtain ⟨M, hM⟩ : ∃ M, M = 2 + n := ⟨_, rfl⟩
  obtain ⟨K, hK⟩ : ∃ K, K = 4092 - M := ⟨_, rfl⟩
  have HN := Lib.hid hn
  have HM := Lib.hid hM
  have HK := Lib.hid hK
  have hnI : ¬ (4090 : Int) < (n : Int) := by omega
  have hn0 : (0 : Int) ≤ (n : Int) := by omega
  have hn1 : (n : Int) ≤ 4090 := by omega
  have hMK : (4092 : Int) - (M : Int) = (K : Int) := by omega
  have hMI : (M : Int) ≤ 4092 := by omega
  have hKI : (K : Int) ≤ 4092 := by omega
  have HA := Lib.hid hA
  have HLI := Lib.hid (fun W => rlittle_any n 2 W (by omega) (by omega))
  rw [← hn]
  clear hn hA hb hM hK
  go_enter Try.func13, Try.ntmps13
  go_wp2_with fail
  refine (HLI.out _).mono ?_
  rintro e w2 ⟨a2, k2, rfl, ho2, -, hb2⟩
  rw [leB_len] at ho2 ⊢
  obtain ⟨g3, c3, w3, hr3, ho3, hb3⟩ := run_app8 w2 23 w.heap.size 2 k2 n c M a2 A (leB n 2) b ho2 (leB_len _ _).symm (by omega) (HA.out.below hb2) HN.out hb2.size HM.out (by omega)
  have hl3 : (leB n 2 ++ b).length = M := by rw [List.length_append, leB_len, HM.out, HN.out]
  obtain ⟨g4, c4, w4, hr4, ho4, hb4⟩ := run_zer8 w3 23 w.heap.size M c3 K 4092 (some ⟨g3, 0, none⟩) (leB n 2 ++ b) ho3 hl3.symm (by have := HM.out; omega) (Nat.le_trans hb2.size hb3.size) (by omega) (by omega)
  have e4 : leB n 2 ++ b ++ List.replicate K 0 = blockB b := by
    unfold blockB
    rw [HK.out, HM.out, HN.out]
    congr 2
    omega
  rw [e4] at ho4
  have hsz4 : w.heap.size ≤ w4.heap.size := Nat.le_trans (Nat.le_trans hb2.size hb3.size) hb4.size
  have HSE := Lib.hid (rsealed_any w.heap.size c4 4092 4096 (some ⟨g4, 0, none⟩) (blockB b) w4 ho4 (blockB_len b (by have := HN.out; omega)).symm (by omega) hsz4 rfl (by omega))
  have HB4 := Lib.hid (below_tr hb2 (below_tr hb3 hb4))
  clear ho2 ho3 ho4 hb2 hb3 hb4 e4 hl3
  go_wp2_with (at_builtin; refine wpList_run2 rfl _ _ rfl hr3 rfl rfl rfl ?_; clear hr3; refine Hid.out ?_)
  refine Lib.hid ?_
  go_wp2_with (at_builtin; refine wpList_run2 rfl _ _ rfl hr4 rfl rfl rfl ?_; clear hr4; refine Hid.out ?_)
  refine Lib.hid ?_
  go_wp2_with fail
  refine HSE.out.mono ?_
  rintro e w5 ⟨g5, c5, rfl, ho5, hb5⟩
  have HO5 := Lib.hid ho5
  have HB5 := Lib.hid (below_tr HB4.out hb5)
  clear ho5 hb5 HSE HB4
  go_wp2_with fail
  go_ret2
  exact ⟨_, _, rfl, HO5.out, HB5.out⟩
end Go.Proofs.Ytellmmgiabfacaa
