/-
  DiskNone: what the methods answer for a disk that no call made. No condition beyond the form's own.
-/
import Derived.Test.YtphemfhdiefjeaaDOpen
namespace Go.Proofs.Ytphemfhdiefjeaa
open Go.ChangeShapes Go.WideShapes Go.ChangeAt Go.RowKit Go.Deep
set_option linter.unusedVariables false

theorem read_none {p : Value} (f k n : Int) {w : World} (h : Mk w p false) : Calls Try.prog 21 #[p, .int .i64 f, .int .i64 k, .int .i64 n] w fun e w' => e = .returned (.tuple #[.slice none 0 0, .int .i64 2]) ∧ w = w' := by
  have HC := Lib.hid (reach_not f h)
  clear h
  go_enter Try.func21, Try.ntmps21
  go_wp2_with fail
  refine HC.out.mono ?_
  rintro e w' ⟨rfl, rfl⟩
  go_wp2_with fail
  go_ret2
  exact ⟨rfl, rfl⟩
theorem same_none {p : Value} {w : World} (h : Mk w p false) : Calls Try.prog 17 #[p, p] w fun e w' => e = .returned (.bool false) ∧ w = w' := same_not h h rfl

set_option maxHeartbeats 8000000 in
set_option maxRecDepth 100000 in
theorem diskNone_walk (d f k n : Int) (A K : Option Addr) (bl ac kl kc : Nat) (w : World) :
    Calls Try.prog 9 #[.agg #[.int .i64 d, .int .i64 f, .int .i64 k, .int .i64 n, .slice A bl ac, .slice K kl kc]] w fun e w' => e = .returned (.bool true) ∧ Below w.heap.size w w' := by
  go_enter Try.func9, Try.ntmps9
  go_wp2_with fail
  refine (begun_any _).mono ?_
  rintro e w1 ⟨rfl, hb1⟩
  have hsz : w.heap.size < w1.heap.size := by have := hb1.size; simp at this; omega
  have hc := (bcell hb1).1
  have c0 : w1.cell? ⟨w.heap.size, 0, none⟩ = some (.int .i64 d) := (hc _ _ (by simp)).trans (World.cell?_alloc_at _ _ _ _ rfl)
  have c1 : w1.cell? ⟨w.heap.size, 1, none⟩ = some (.int .i64 f) := (hc _ _ (by simp)).trans (World.cell?_alloc_at _ _ _ _ rfl)
  have c2 : w1.cell? ⟨w.heap.size, 2, none⟩ = some (.int .i64 k) := (hc _ _ (by simp)).trans (World.cell?_alloc_at _ _ _ _ rfl)
  have c3 : w1.cell? ⟨w.heap.size, 3, none⟩ = some (.int .i64 n) := (hc _ _ (by simp)).trans (World.cell?_alloc_at _ _ _ _ rfl)
  have c4 : w1.cell? ⟨w.heap.size, 4, none⟩ = some (.slice A bl ac) := (hc _ _ (by simp)).trans (World.cell?_alloc_at _ _ _ _ rfl)
  have c5 : w1.cell? ⟨w.heap.size, 5, none⟩ = some (.slice K kl kc) := (hc _ _ (by simp)).trans (World.cell?_alloc_at _ _ _ _ rfl)
  have HB1 := Lib.hid (b1 hb1)
  clear hb1 hc
  go_wp2_with fail
  go_loopw [15] (fun idx wr => ∃ m : Nat, m ≤ 2 ∧ idx = .int .i64 (m : Int) ∧ Below w.heap.size w wr ∧ wr.cell? ⟨w.heap.size, 1, none⟩ = some (.int .i64 f) ∧ wr.cell? ⟨w.heap.size, 2, none⟩ = some (.int .i64 k) ∧ wr.cell? ⟨w.heap.size, 3, none⟩ = some (.int .i64 n) ∧ wr.cell? ⟨w.heap.size, 4, none⟩ = some (.slice A bl ac) ∧ wr.cell? ⟨w.heap.size, 5, none⟩ = some (.slice K kl kc) ∧ wr.cell? ⟨w1.heap.size, 0, none⟩ = some (.bool false) ∧ wr.cell? ⟨w1.heap.size + 1, 0, none⟩ = some (.pointer none) ∧ wr.cell? ⟨w1.heap.size + 1, 1, none⟩ = some (.pointer (some ⟨w1.heap.size, 0, none⟩))) (fun idx _ => 2 - (intOf idx).toNat)
  case atStart => exact ⟨0, by omega, rfl, bt (bt HB1.out (alloc_below _ _)) (alloc_below _ _), ((bcell (bt (alloc_below w1 _) (alloc_below _ _))).1 _ _ hsz).trans c1, ((bcell (bt (alloc_below w1 _) (alloc_below _ _))).1 _ _ hsz).trans c2, ((bcell (bt (alloc_below w1 _) (alloc_below _ _))).1 _ _ hsz).trans c3, ((bcell (bt (alloc_below w1 _) (alloc_below _ _))).1 _ _ hsz).trans c4, ((bcell (bt (alloc_below w1 _) (alloc_below _ _))).1 _ _ hsz).trans c5, by simp, by simp, by simp⟩
  case round =>
    clear c0 c1 c2 c3 c4 c5
    obtain ⟨m, hm, rfl, hb, c1, c2, c3, c4, c5, z0, p0, p1⟩ := hrel
    have HB := Lib.hid hb
    clear hb
    rcases (by omega : m = 0 ∨ m = 1 ∨ m = 2) with rfl | rfl | rfl
    · have HM : Hid (Mk wr (.pointer none) false) := .inl ⟨rfl, rfl⟩
      clear hm
      go_wp2_with fail
      refine (read_none f k n HM.out).mono ?_
      rintro e w' ⟨rfl, rfl⟩
      go_wp2_with fail
      refine (size_not f HM.out).mono ?_
      rintro e w' ⟨rfl, rfl⟩
      go_wp2_with fail
      refine (write_not f _ _ HM.out).mono ?_
      rintro e w' ⟨rfl, rfl⟩
      go_wp2_with fail
      refine (truncate_not f _ HM.out).mono ?_
      rintro e w' ⟨rfl, rfl⟩
      go_wp2_with fail
      refine (sync_not f HM.out).mono ?_
      rintro e w' ⟨rfl, rfl⟩
      go_wp2_with fail
      refine (crash_not _ HM.out).mono ?_
      rintro e w' ⟨rfl, rfl⟩
      go_wp2_with fail
      refine (setFuse_not _ _ HM.out).mono ?_
      rintro e w' ⟨rfl, rfl⟩
      go_wp2_with fail
      refine (restart_not HM.out).mono ?_
      rintro e w' ⟨rfl, rfl⟩
      go_wp2_with fail
      refine (down_not HM.out).mono ?_
      rintro e w' ⟨rfl, rfl⟩
      go_wp2_with fail
      refine (calls_not HM.out).mono ?_
      rintro e w' ⟨rfl, rfl⟩
      go_wp2_with fail
      refine (pending_not HM.out).mono ?_
      rintro e w' ⟨rfl, rfl⟩
      go_wp2_with fail
      refine (clone_not HM.out).mono ?_
      rintro e w' ⟨rfl, rfl⟩
      go_wp2_with fail
      refine (same_none HM.out).mono ?_
      rintro e w' ⟨rfl, rfl⟩
      go_wp2_with fail
      go_roundw
      case measure => simp [intOf]
      case rel => exact ⟨1, by omega, rfl, HB.out, c1, c2, c3, c4, c5, z0, p0, p1⟩
    · have HM : Hid (Mk wr (.pointer (some ⟨w1.heap.size, 0, none⟩)) false) := .inr ⟨_, rfl, z0⟩
      clear hm
      go_wp2_with fail
      refine (read_none f k n HM.out).mono ?_
      rintro e w' ⟨rfl, rfl⟩
      go_wp2_with fail
      refine (size_not f HM.out).mono ?_
      rintro e w' ⟨rfl, rfl⟩
      go_wp2_with fail
      refine (write_not f _ _ HM.out).mono ?_
      rintro e w' ⟨rfl, rfl⟩
      go_wp2_with fail
      refine (truncate_not f _ HM.out).mono ?_
      rintro e w' ⟨rfl, rfl⟩
      go_wp2_with fail
      refine (sync_not f HM.out).mono ?_
      rintro e w' ⟨rfl, rfl⟩
      go_wp2_with fail
      refine (crash_not _ HM.out).mono ?_
      rintro e w' ⟨rfl, rfl⟩
      go_wp2_with fail
      refine (setFuse_not _ _ HM.out).mono ?_
      rintro e w' ⟨rfl, rfl⟩
      go_wp2_with fail
      refine (restart_not HM.out).mono ?_
      rintro e w' ⟨rfl, rfl⟩
      go_wp2_with fail
      refine (down_not HM.out).mono ?_
      rintro e w' ⟨rfl, rfl⟩
      go_wp2_with fail
      refine (calls_not HM.out).mono ?_
      rintro e w' ⟨rfl, rfl⟩
      go_wp2_with fail
      refine (pending_not HM.out).mono ?_
      rintro e w' ⟨rfl, rfl⟩
      go_wp2_with fail
      refine (clone_not HM.out).mono ?_
      rintro e w' ⟨rfl, rfl⟩
      go_wp2_with fail
      refine (same_none HM.out).mono ?_
      rintro e w' ⟨rfl, rfl⟩
      go_wp2_with fail
      go_roundw
      case measure => simp [intOf]
      case rel => exact ⟨2, by omega, rfl, HB.out, c1, c2, c3, c4, c5, z0, p0, p1⟩
    · go_wp2_with fail
      go_ret
      exact ⟨rfl, HB.out⟩

set_option maxRecDepth 100000 in
theorem diskNone_lifted (os : Os) (started : os.Started) (H : Type) (enc : TypeId × Value → H) :
    ReturnsInHanded {} Try.checked os 9 .any (Rows.diskNoneSpec.pre6 enc Try.prog Try.f9 Rows.diskNoneRow.domain false) (Rows.diskNoneSpec.post enc Try.prog Try.f9 false true false false) := by
  refine returnsInHanded_of_change_sized (C := Try.checked) own started (by kernel_rfl) Try.func9
    (ChangeSpec.witness6 (enc := enc) (C := Try.checked) false ⟨#[], #[.agg #[.int .i64 0, .int .i64 0, .int .i64 0, .int .i64 0, .slice none 0 0, .slice none 0 0]], []⟩ 8 (by kernel_rfl) (by kernel_rfl) (by kernel_rfl) (by kernel_rfl)) ?_
  intro W base args ds gs before hval0 hW _ hsz _
  have hval : ∀ (j : Nat) t v, Try.f9.params[j]? = some t → args[j]? = some v → Value.okWide Try.prog W .any base t v := hval0
  have hW' := hW
  obtain ⟨p, q, hA0, hV, rfl, hfz, hnd⟩ := hW
  have hA : DataW.TrodAll enc Try.prog W 0 (fun _ => true) true Try.f9.params.toList args.toList ds p := hA0
  rw [Try.params9] at hA hval
  obtain ⟨v0, vs0, d0, ds0, p0, q0, hargs, rfl, rfl, h0, r0⟩ := trodAll_cons hA
  obtain ⟨rfl, rfl, rfl⟩ := trodAll_nil r0
  obtain rfl : args = #[v0] := by cases args; simp_all
  obtain ⟨rfl, rfl⟩ := trodVars_none hV
  simp only [List.append_nil] at hW'
  have hlt0 : ∀ x ∈ p0, x.block < W.heap.size := fun x hx => hW'.lt x (by simp [hx])
  have hreach : reachBytes ≤ 140737488351232 := by decide
  obtain ⟨o, rfl, rd0, sy0⟩ := open_op (hval 0 31 v0 rfl rfl) h0
  clear hA0 hval0
  refine (diskNone_walk o.d o.f o.k o.n o.A o.K o.b.length o.ac o.ks.length o.kc W).mono fun e W' ⟨he, hg⟩ => ?_
  subst he
  have hpost : Rows.diskNoneSpec.post enc Try.prog Try.f9 false true false false W _ _ W' := post_of_below (pa := p0 ++ []) (pv := []) hW' (fun _ _ _ => (trodAll_cons_mk (shut_bool Try.underlying4 _) trodAll_mk0)) (fun sp hsp => (trodAll_cons_mk (WideElems.Trod_stays laidOut (by kernel_rfl) (of_decide_eq_true (by kernel_rfl)) h0 (fun x hx => hg.same (hlt0 x hx)) (fun x hx => hsp x (by simp [hx]))) trodAll_mk0)) (fun _ _ => rfl) (by simp) hg (ok_one (by kernel_rfl) rfl (okWide_bool_mk Try.underlying4 _))
  exact ⟨_, rfl, hpost⟩

theorem diskNone_holds : Rows.DiskNoneSaid :=
  OpenClaim.holds_of_wide 9 Try.f9 rfl rfl rfl rfl rfl rfl rfl ⟨rfl, rfl, rfl, rfl, rfl⟩ rfl rfl rfl rfl rfl (by kernel_rfl) Try.func9 (by kernel_rfl)
    (of_decide_eq_true (by kernel_rfl)) (by unfold Func.isWrapper; first | (rw [if_pos (by decide +kernel)]; kernel_rfl) | (rw [if_neg (by decide +kernel)]; exact ⟨rfl, rfl⟩))
    (fun os started H enc _ => diskNone_lifted os started H enc)
end Go.Proofs.Ytphemfhdiefjeaa
