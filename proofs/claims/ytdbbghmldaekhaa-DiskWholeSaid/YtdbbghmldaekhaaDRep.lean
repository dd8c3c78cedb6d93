/-
  bytes.Repeat of one byte, at most 8192 times.
-/
import Derived.Test.YtdbbghmldaekhaaDMath2
import Derived.Test.YtdbbghmldaekhaaDCrashB
import Derived.Lib.MakeNoZero
import Derived.Lib.SlBuf
import Derived.Shelf.Bits.Mul64
import Derived.Deep.RegionLaw
namespace Go.Proofs.Ytdbbghmldaekhaa
open Go.ChangeShapes Go.WideShapes Go.ChangeAt Go.RowKit
set_option linter.unusedVariables false

def lays212_ren : Go.Shelf.Ren := ⟨fun | 212 => 52 | 263 => 99 | 264 => 100 | n => n, fun | 5 => 5 | 46 => 90 | 51 => 66 | 53 => 109 | 146 => 145 | 148 => 147 | n => n, fun | n => n⟩
theorem lays212 : Go.Proofs.Lays.n212 Try.prog lays212_ren := {
  mixed := by kernel_rfl
  f212 := Try.func52.trans (congrArg some (by kernel_rfl))
  f263 := Try.func99.trans (congrArg some (by kernel_rfl))
  f264 := Try.func100.trans (congrArg some (by kernel_rfl))
  t46 := Try.underlying90
  a46 := Try.isAgg90
  z46 := Try.sizeOf90
  v46 := Try.zeroValue90
  t51 := Try.underlying66
  a51 := Try.isAgg66
  z51 := Try.sizeOf66
  v51 := Try.zeroValue66
  t53 := Try.underlying109
  a53 := Try.isAgg109
  z53 := Try.sizeOf109
  v53 := Try.zeroValue109
  t146 := Try.underlying145
  a146 := Try.isAgg145
  z146 := Try.sizeOf145
  v146 := Try.zeroValue145
  t148 := Try.underlying147
  a148 := Try.isAgg147
  z148 := Try.sizeOf147
  v148 := Try.zeroValue147 }

theorem mul_one (n : Nat) (hn : n ≤ 8192) (w : World) : Calls Try.prog 52 #[.int .u64 1, .int .u64 n] w fun e w' => e = .returned (.tuple #[.int .u64 0, .int .u64 n]) ∧ w = w' := by
  refine (Any.bits_Mul lays212 1 n (by omega) (by omega) w).mono ?_
  rintro e w' ⟨rfl, rfl⟩
  have h1 : 1 * n / 18446744073709551616 = 0 := by omega
  have h2 : 1 * n % 18446744073709551616 = n := by omega
  rw [h1, h2]
  exact ⟨rfl, rfl⟩
/-- 'copy(b[bp:], b[:k])', bp = how much is filled with one and the same byte. -/
theorem copy_self (w0 wr : World) (h N bp k : Nat) (x : UInt8) (ty : TypeId) (hh : w0.heap.size ≤ h) (hb : Lib.Buf w0 wr h N (List.replicate bp x)) (hk : k ≤ bp) (hkN : 0 < N - bp) :
    ∃ wr', (Builtin.copy_ #[29, 29] ty #[Lib.tailV h N bp, .slice (some ⟨h, 0, none⟩) k N]).run Try.prog wr = .ok (.int .i64 ((min k (N - bp) : Nat) : Int)) wr' ∧ Lib.Buf w0 wr' h N (List.replicate (bp + min k (N - bp)) x) := by
  have hs5 : (Try.prog.info? 5).map (·.size) = some 1 := by kernel_rfl
  obtain ⟨m, hm⟩ : ∃ m, m = min k (N - bp) := ⟨_, rfl⟩
  rw [← hm]
  have hne : ¬ N = bp := by omega
  have hlen : (List.replicate m (Value.int .u8 (x.toNat : Int))).length = m := by simp
  have hr := run_copy_cells (P := Try.prog) wr 29 29 ty 5 h bp (N - bp) (N - bp) ⟨h, 0, none⟩ k N (List.replicate m (Value.int .u8 (x.toNat : Int))) Try.underlying29 hs5 (by rw [hlen, hm])
    (fun j u hj => by
      have hjm : j < m := by have := (List.getElem?_eq_some_iff.1 hj).1; rw [hlen] at this; exact this
      rw [List.getElem?_replicate, if_pos hjm] at hj
      obtain rfl := Option.some.inj hj
      rw [Go.WideShapes.add_plain, Nat.zero_add]
      exact hb.holds j x (by rw [List.getElem?_replicate, if_pos (by omega)]))
    (fun j hj => by rw [hlen] at hj; exact hb.there _ (by omega)) (fun j hj => by rw [hlen] at hj; exact hb.free _ (by omega))
    (fun u hu' => by rw [(List.mem_replicate.1 hu').2]; rfl)
  rw [hlen] at hr
  refine ⟨_, by unfold Lib.tailV; rw [if_neg hne]; exact hr, ?_⟩
  have hin := World.cell?_setCells_in h (List.replicate m (Value.int .u8 (x.toNat : Int))) bp wr (fun j hj => by rw [hlen] at hj; exact hb.there _ (by omega))
  have hout := World.cell?_setCells_out h (List.replicate m (Value.int .u8 (x.toNat : Int))) bp wr
  refine ⟨?_, ?_, ?_, ?_, by rw [List.length_replicate]; omega⟩
  · exact Lib.below_setCells h (Nat.le_refl _) _ _ hb.below
  · intro j hj
    by_cases h1 : bp ≤ j ∧ j < bp + m
    · obtain ⟨d, rfl⟩ : ∃ d, j = bp + d := ⟨j - bp, by omega⟩
      rw [hin d (by rw [hlen]; omega)]
      rfl
    · rw [hout ⟨h, j, none⟩ (fun _ _ => by rw [hlen]; show j < _ ∨ _ ≤ j; omega)]
      exact hb.there j hj
  · intro j hj
    rw [World.frozen?_setCells]
    exact hb.free j hj
  · intro j y hy
    rw [List.getElem?_replicate] at hy
    split at hy
    · next hj =>
      obtain rfl := Option.some.inj hy
      by_cases h1 : j < bp
      · rw [hout ⟨h, j, none⟩ (fun _ _ => Or.inl h1)]
        exact hb.holds j x (by rw [List.getElem?_replicate, if_pos h1])
      · obtain ⟨d, rfl⟩ : ∃ d, j = bp + d := ⟨j - bp, by omega⟩
        rw [hin d (by rw [hlen]; omega)]
        simp
    · cases hy
theorem step_copy {P : Program} {ops : Array Oper} {o : Oper} {a : Act} {w : World} {K : Act → World → Prop} {Q : Exit → Act → World → Prop} {E : Prop} (hg : o.guard = none) (d s : Operand) (t t' : TypeId)
    (ho : o.op = .call { callee := .builtin .copy, args := #[d, s], argTypes := #[t, t'] }) (v u : Value) (hd : a.eval d = v) (hs : a.eval s = u) {v' : Value} {w' : World}
    (hr : (Builtin.copy_ #[t, t'] o.type #[v, u]).run P w = .ok v' w') (h : K (a.put o.dst v') w') : if Region.wanted o (yielded ops a.tmps) = true then Oper.wp P o a w K Q else E := by
  have hw : Region.wanted o (yielded ops a.tmps) = true := by simp [Region.wanted, hg]
  rw [if_pos hw]
  exact Lib.wp_copy_run w d s t t' ho v u hd hs hr h
theorem buf_drew {w0 wr : World} {h N : Nat} {l : List UInt8} (hb : Lib.Buf w0 wr h N l) : Lib.Buf w0 wr.drew h N l := ⟨hb.below.drew, hb.there, hb.free, hb.holds, hb.fits⟩
set_option maxHeartbeats 2000000 in
set_option maxRecDepth 100000 in
theorem repeat_any (g o c n : Nat) (x : UInt8) (w : World) (hc : w.cell? ⟨g, o, none⟩ = some (.int .u8 x.toNat)) (hg : g < w.heap.size) (h1 : 1 ≤ n) (hn : n ≤ 8192) :
    Calls Try.prog 13 #[.slice (some ⟨g, o, none⟩) 1 c, .int .i64 n] w fun e w' => ∃ q, e = .returned (.slice (some ⟨q, 0, none⟩) n n) ∧ BRd w' (some ⟨q, 0, none⟩) (List.replicate n x) ∧ Below w.heap.size w w' := by
  have HM := Lib.hid (mul_one n hn)
  have i1 : (1 : Int) ≤ (n : Int) := by omega
  have i2 : (n : Int) ≤ 8192 := by omega
  obtain ⟨cs, hrunM, hle, _⟩ := Lib.run_makeNoZero (P := Try.prog) w #[3] 29 5 Try.underlying29 n (by omega)
  have hcall : (callFunc 53 #[.int .i64 (n : Int)]).run Try.prog w = .ok (.value (.slice (some ⟨w.heap.size, 0, none⟩) n cs.size)) ((w.alloc (.cells cs 5)).drewN 2) := by
    rw [run_callFunc_extern Try.func53 (by kernel_rfl) (by kernel_rfl) (by kernel_rfl) (e := Extern.BytealgMakeNoZero.makeNoZero #[3] #[29]) (by kernel_rfl), hrunM]
    rfl
  clear hrunM
  have i3 : (n : Int) ≤ (cs.size : Int) := by omega
  have B0 := Lib.Buf.start w cs 5 n 2 hle
  obtain ⟨w1, hr1, B1⟩ := Lib.copy_part (P := Try.prog) w _ w.heap.size n [] [x] (.slice (some ⟨g, o, none⟩) 1 c) 29 3 5 Try.underlying29 (by kernel_rfl) (Nat.le_refl _) B0 ⟨some ⟨g, o, none⟩, c, rfl, (fun h => by cases h), fun a ha j y hy => by
    obtain rfl := Option.some.inj ha
    cases j with
    | zero => obtain rfl := Option.some.inj hy; simpa [Addr.add] using hc
    | succ j => simp at hy⟩ (by simp; omega)
  rw [List.length_nil, Lib.tailV_zero] at hr1
  rw [List.nil_append] at B1
  have HB1 := Lib.hid (show Lib.Buf w w1 w.heap.size n (List.replicate 1 x) from B1)
  have hsl : ∀ (bp : Nat) W, bp ≤ n → (Instr.slice 29 (.slice (some ⟨w.heap.size, 0, none⟩) n n) (some (.int .i64 (bp : Int))) none none).run Try.prog W = .ok (Lib.tailV w.heap.size n bp) W := fun bp W hbp => Lib.run_slice_tailV W 29 5 Try.underlying29 Try.sizeOf5 _ n bp hbp
  have HSL := Lib.hid hsl
  clear hc B1 B0 hsl
  go_enter Try.func13, Try.ntmps13
  go_wp2_with fail
  refine (HM.out _).mono ?_
  rintro e w' ⟨rfl, rfl⟩
  go_wp2_with (at_builtin; refine Lib.wpList_copy_run _ rfl _ _ 29 29 rfl _ _ rfl rfl hr1 ?_)
  clear hr1 hcall
  go_loopw [10] (fun bv wr => ∃ bp : Nat, 1 ≤ bp ∧ bp ≤ n ∧ bv = .int .i64 (bp : Int) ∧ Lib.Buf w wr w.heap.size n (List.replicate bp x)) (fun bv _ => n - (intOf bv).toNat)
  case atStart => exact ⟨1, by omega, h1, rfl, HB1.out⟩
  case round =>
    clear HB1
    obtain ⟨bp, hb1, hbn, rfl, hB⟩ := hrel
    have HB := Lib.hid hB
    clear hB
    by_cases hlt : bp < n
    · have hsl := fun W => HSL.out bp W hbn
      obtain ⟨m, hm⟩ : ∃ m, m = min bp (n - bp) := ⟨_, rfl⟩
      obtain ⟨w2, hr2, B2⟩ := copy_self w wr.drew w.heap.size n bp bp x 3 (Nat.le_refl _) (buf_drew HB.out) (Nat.le_refl _) (by omega)
      rw [← hm] at hr2 B2
      have HB2 := Lib.hid B2
      have hmi : min (bp : Int) (n : Int) = (bp : Int) := by omega
      have hz : (0 : Int) ≤ (bp : Int) := by omega
      have hs : (bp : Int) + (m : Int) ≤ 8192 := by omega
      have hbI : (bp : Int) ≤ (n : Int) := by omega
      have hwr : IntKind.i64.wrap ((bp : Int) + (m : Int)) = ((bp + m : Nat) : Int) := by rw [IntKind.wrap_i64]; omega
      have HMM := Lib.hid hm
      clear B2 hm
      go_wp2_with fail
      go_region_law (refine step_copy rfl (.tmp 70) (.tmp 73) 29 29 rfl (Lib.tailV w.heap.size n bp) (.slice (some ⟨w.heap.size, 0, none⟩) bp n) (by simp [Act.eval, Act.put]) (by simp [Act.eval, Act.put]) hr2 ?_)
      (try go_simp)
      go_wp2_with fail
      go_roundw
      case measure => simp only [intOf]; have := HMM.out; omega
      case rel => exact ⟨bp + m, by omega, by have := HMM.out; omega, by first | rfl | (rw [hwr]) | go_num, HB2.out⟩
    · obtain rfl : bp = n := by omega
      go_wp2_with fail
      go_ret
      exact ⟨_, rfl, fun _ => ⟨_, _, rfl, World.block_lt_of_cell? _ _ (HB.out.holds 0 x (by rw [List.getElem?_replicate, if_pos (by omega)])), fun i hi => by rw [Nat.zero_add, List.getElem_replicate]; exact HB.out.holds i x (by rw [List.getElem?_replicate, if_pos (by simpa using hi)])⟩, HB.out.below⟩
end Go.Proofs.Ytdbbghmldaekhaa
