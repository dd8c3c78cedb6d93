/-
  bytes.Repeat of one byte, at most 8192 times.
-/
import Derived.Test.YtellmmgiabfacaaDMath2
import Derived.Test.YtellmmgiabfacaaDCrashB
import Derived.Lib.MakeNoZero
import Derived.Lib.SlBuf
import Derived.Shelf.Bits.Mul64
import Derived.Deep.RegionLaw
namespace Go.Proofs.Ytellmmgiabfacaa
open Go.ChangeShapes Go.WideShapes Go.ChangeAt Go.RowKit
set_option linter.unusedVariables false

/-- 'copy(b[bp:], b[:k])', bp = how much is filled with one and the same byte. -/
theorem copy_self (w0 wr : World) (h N bp k : Nat) (x : UInt8) (ty : TypeId) (hh : w0.heap.size ≤ h) (hb : Lib.Buf w0 wr h N (List.replicate bp x)) (hk : k ≤ bp) (hkN : 0 < N - bp) :
    ∃ wr', (Builtin.copy_ #[23, 23] ty #[Lib.tailV h N bp, .slice (some ⟨h, 0, none⟩) k N]).run Try.prog wr = .ok (.int .i64 ((min k (N - bp) : Nat) : Int)) wr' ∧ Lib.Buf w0 wr' h N (List.replicate (bp + min k (N - bp)) x) := by
  have hs5 : (Try.prog.info? 5).map (·.size) = some 1 := by kernel_rfl
  obtain ⟨m, hm⟩ : ∃ m, m = min k (N - bp) := ⟨_, rfl⟩
  rw [← hm]
  have hne : ¬ N = bp := by omega
  have hlen : (List.replicate m (Value.int .u8 (x.toNat : Int))).length = m := by simp
  have hr := run_copy_cells (P := Try.prog) wr 23 23 ty 5 h bp (N - bp) (N - bp) ⟨h, 0, none⟩ k N (List.replicate m (Value.int .u8 (x.toNat : Int))) Try.underlying23 hs5 (by rw [hlen, hm])
    (fun j u hj => by
      have hjm : j < m := by have := (List.getElem?_eq_some_iff.1 hj).1; rw [hlen] at this; exact this
      rw [List.getElem?_replicate, if_pos hjm] at hj
      obtain rfl := Option.some.inj hj
      rw [Go.WideShapes.add_plain, Nat.zero_add]
      exact hb.holds j x (by rw [List.getElem?_replicate, if_pos (by omega)]))
    (fun j hj => by rw [hlen] at hj; exact hb.there _ (by omega)) (fun j hj => by rw [hlen] at hj; exact hb.free _ (by omega))
    (fun u hu' => by rw [(List.mem_replicate.1 hu').2]; rfl)
  rw [hlen] at hr
  refine ⟨_, by unfold Lib.tailV; rw [if_neg hne]; exact hr, ?_⟩
  have hin := World.cell?_setCells_in h (List.replicate m (Value.int .u8 (x.toNat : Int))) bp wr (fun j hj => by rw [hlen] at hj; exact hb.there _ (by omega))
  have hout := World.cell?_setCells_out h (List.replicate m (Value.int .u8 (x.toNat : Int))) bp wr
  refine ⟨?_, ?_, ?_, ?_, by rw [List.length_replicate]; omega⟩
  · exact Lib.below_setCells h (Nat.le_refl _) _ _ hb.below
  · intro j hj
    by_cases h1 : bp ≤ j ∧ j < bp + m
    · obtain ⟨d, rfl⟩ : ∃ d, j = bp + d := ⟨j - bp, by omega⟩
      rw [hin d (by rw [hlen]; omega)]
      rfl
    · rw [hout ⟨h, j, none⟩ (fun _ _ => by rw [hlen]; show j < _ ∨ _ ≤ j; omega)]
      exact hb.there j hj
  · intro j hj
    rw [World.frozen?_setCells]
    exact hb.free j hj
  · intro j y hy
    rw [List.getElem?_replicate] at hy
    split at hy
    · next hj =>
      obtain rfl := Option.some.inj hy
      by_cases h1 : j < bp
      · rw [hout ⟨h, j, none⟩ (fun _ _ => Or.inl h1)]
        exact hb.holds j x (by rw [List.getElem?_replicate, if_pos h1])
      · obtain ⟨d, rfl⟩ : ∃ d, j = bp + d := ⟨j - bp, by omega⟩
        rw [hin d (by rw [hlen]; omega)]
        simp
    · cases hy
theorem step_copy {P : Program} {ops : Array Oper} {o : Oper} {a : Act} {w : World} {K : Act → World → Prop} {Q : Exit → Act → World → Prop} {E : Prop} (hg : o.guard = none) (d s : Operand) (t t' : TypeId)
    (ho : o.op = .call { callee := .builtin .copy, args := #[d, s], argTypes := #[t, t'] }) (v u : Value) (hd : a.eval d = v) (hs : a.eval s = u) {v' : Value} {w' : World}
    (hr : (Builtin.copy_ #[t, t'] o.type #[v, u]).run P w = .ok v' w') (h : K (a.put o.dst v') w') : if Region.wanted o (yielded ops a.tmps) = true then Oper.wp P o a w K Q else E := by
  have hw : Region.wanted o (yielded ops a.tmps) = true := by simp [Region.wanted, hg]
  rw [if_pos hw]
  exact Lib.wp_copy_run w d s t t' ho v u hd hs hr h
theorem buf_drew {w0 wr : World} {h N : Nat} {l : List UInt8} (hb : Lib.Buf w0 wr h N l) : Lib.Buf w0 wr.drew h N l := ⟨hb.below.drew, hb.there, hb.free, hb.holds, hb.fits⟩
end Go.Proofs.Ytellmmgiabfacaa
