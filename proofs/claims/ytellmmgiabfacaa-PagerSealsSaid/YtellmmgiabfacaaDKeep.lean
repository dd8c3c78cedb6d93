/-
  Of disk: slices.Clone of truths and of pieces.
-/
import Derived.Test.YtellmmgiabfacaaDIdx
namespace Go.Proofs.Ytellmmgiabfacaa
open Go.ChangeShapes Go.WideShapes Go.ChangeAt Go.RowKit
set_option linter.unusedVariables false

theorem boolInfo : (Try.prog.info? 4).map (fun i => (i.zero, i.size, i.bytes)) = some (some (.bool false), 1, 1) := by kernel_rfl
theorem below_own {w w' : World} {B : Nat} {v : Value} (hb : Below B w w') : Below B w w' := hb
set_option maxHeartbeats 1000000 in
set_option maxRecDepth 100000 in
theorem cloneBools (A : Option Addr) (n c : Nat) (xs : List Value) (w : World) (hA : A = none → n = 0) (hc : ∀ a, A = some a → ∀ j u, xs[j]? = some u → w.cell? (a.add j) = some u) (h1 : ∀ u ∈ xs, u.oneCell' = true) (hn : xs.length = n * 1) (hl : n ≤ 140737488355328) :
    Calls Try.prog 81 #[.slice A n c] w fun e w' => ∃ a m k, e = .returned (.slice a m k) ∧ w'.ownsRow w.heap.size 4 1 (.slice a m k) n xs ∧ Below w.heap.size w w' := by
  cases A with
  | none =>
    obtain rfl := hA rfl
    have hk : xs = [] := List.length_eq_zero_iff.1 (by omega)
    subst hk
    have he : ∀ w : World, (binOp .eql 25 (.slice none 0 c) (.slice none 0 0)).run Try.prog w = .ok (.bool true) w := fun _ => rfl
    clear hc hA hn
    go_enter Try.func81, Try.ntmps81
    go_wp2_with fail
    go_ret
    exact ⟨_, _, _, rfl, World.ownsRow_nil _ _ _ _, Below.refl _ _⟩
  | some a =>
    obtain ⟨i0, hi, hz0, hz1, hz2⟩ := info_parts boolInfo
    have HC := Lib.hid (hc a rfl)
    have HN := Lib.hid hn
    have HI := Lib.hid hi
    have HZ0 := Lib.hid hz0
    have HZ1 := Lib.hid hz1
    have HZ2 := Lib.hid hz2
    have HO := Lib.hid h1
    have HL := Lib.hid hl
    have he : ∀ w : World, (binOp .eql 25 (.slice (some a) n c) (.slice none 0 0)).run Try.prog w = .ok (.bool false) w := fun _ => rfl
    have hcell : ∀ {w0 : World} (o : Obj), (∀ j u, xs[j]? = some u → w0.cell? (a.add j) = some u) → ∀ j u, xs[j]? = some u → (w0.alloc o).cell? (a.add j) = some u := fun {w0} o h j u hj => (World.cell?_of_block (Below.heap_alloc w0 o _ (World.block_lt_of_cell? w0 _ (h j u hj)))).trans (h j u hj)
    have HCA := Lib.hid (fun o => hcell o HC.out)
    clear hc hA hn hi hz0 hz1 hz2 h1 hl hcell
    go_enter Try.func81, Try.ntmps81
    go_wp2_with (at_builtin; refine wpList_append_own _ rfl (.tmp 5) (.tmp 6) 25 rfl w.heap.size 4 i0 (.bool false) 1 1 Try.underlying25 HI.out HZ0.out HZ1.out HZ2.out rfl (by decide) (.slice (some ⟨w.heap.size, 0, none⟩) 0 0) 0 [] rfl (World.ownsRow_made w #[] 0 (Nat.le_refl _) (by decide) rfl) a n c xs rfl HN.out (HCA.out _) HO.out (by have := HL.out; unfold maxLen; omega) (by have := HL.out; omega) (by simp) ?_; intro v' w' hown hgrow _; have HOWN := Lib.hid hown; have HG := Lib.hid hgrow; clear hown hgrow)
    go_ret
    obtain ⟨b, k, rfl, -⟩ := row_slice HOWN.out
    refine ⟨b, _, k, rfl, by simpa using HOWN.out, ?_⟩
    exact (alloc_below w _).grown HG.out (by simp) fun k hk => by simp [Value.ownBlock] at hk; omega

end Go.Proofs.Ytellmmgiabfacaa
