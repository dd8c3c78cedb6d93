/-
  The document's disk: New, may, Down, Calls, Restart, meets, SetFuse, Size, Read.
-/
import Derived.Test.YtdbbghmldaekhaaENow
import Derived.Test.YtdbbghmldaekhaaDCount
namespace Go.Proofs.Ytdbbghmldaekhaa
open Go.ChangeShapes Go.WideShapes Go.ChangeAt Go.RowKit
set_option linter.unusedVariables false

theorem RSt.down_set {w : World} {B g : Nat} {a : Nat → Option Addr} {k : Nat → Nat} {pc : Value} {qs : List PV} {ka : Option Addr} {kc : Nat} {ks : List Bool} {R : Nat → Prop} {s : St} (h : RSt w B g a k pc qs ka kc ks R s) (b : Bool) : RSt (w.setCell ⟨g, 6, none⟩ (.bool b)) B g a k pc qs ka kc ks R { s with down := b } :=
  ⟨set10 h.box 6 _, h.core.set 6 _, h.lit, h.names, ⟨h.ok.sure, h.ok.pcs, h.ok.fuse, h.ok.calls⟩⟩
theorem RSt.calls_set {w : World} {B g : Nat} {a : Nat → Option Addr} {k : Nat → Nat} {pc : Value} {qs : List PV} {ka : Option Addr} {kc : Nat} {ks : List Bool} {R : Nat → Prop} {s : St} (h : RSt w B g a k pc qs ka kc ks R s) : RSt (w.setCell ⟨g, 5, none⟩ (.int .i64 (next64 s.calls))) B g a k pc qs ka kc ks R { s with calls := next64 s.calls } :=
  ⟨set10 h.box 5 _, h.core.set 5 _, h.lit, h.names, h.ok.ticked⟩
theorem RSt.fuse_set {w : World} {B g : Nat} {a : Nat → Option Addr} {k : Nat → Nat} {pc : Value} {qs : List PV} {ka : Option Addr} {kc : Nat} {ks : List Bool} {R : Nat → Prop} {s : St} (h : RSt w B g a k pc qs ka kc ks R s) (n : Nat) (hn : n ≤ s.fuse) : RSt (w.setCell ⟨g, 3, none⟩ (.int .i64 n)) B g a k pc qs ka kc ks R { s with fuse := n } :=
  ⟨set10 h.box 3 _, h.core.set 3 _, fun hz => h.lit (fun e => hz (show n = 0 by omega)), h.names, ⟨h.ok.sure, h.ok.pcs, Nat.le_trans hn h.ok.fuse, h.ok.calls⟩⟩
theorem rnew_any (w : World) (B : Nat) (hB : B ≤ w.heap.size) : Calls Try.prog 19 #[] w fun e w' => ∃ g, e = .returned (.pointer (some ⟨g, 0, none⟩)) ∧ RDisk w' B g (.slice none 0 0) (fun _ => False) St.new ∧ Below w.heap.size w w' ∧ w.heap.size ≤ g := by
  go_enter Try.func19, Try.ntmps19
  go_wp2_with fail
  go_ret
  refine ⟨w.heap.size, rfl, ⟨fun _ => none, fun _ => 0, [], none, 0, [], ⟨heap_alloc_new w _, ⟨hB, by simp, World.ownsRow_nil _ _ _ _, fun i hi => ⟨BRd.nil _ _, fun h0 => by simp [St.new] at h0, by simp [St.new]⟩, fun q hq => by simp at hq, ⟨fun h0 => by simp at h0, fun h0 => by simp at h0⟩, fun h => h, fun j hj => by simp [Value.ownBlock] at hj, by simp [Value.ownBlock], fun j hj => hj.elim⟩, fun _ => rfl, rfl, St.new_ok⟩⟩, alloc_below _ _, Nat.le_refl _⟩
theorem rdown_any (w : World) (B g : Nat) (a : Nat → Option Addr) (k : Nat → Nat) (pc : Value) (qs : List PV) (ka : Option Addr) (kc : Nat) (ks : List Bool) (R : Nat → Prop) (s : St) (hd : RSt w B g a k pc qs ka kc ks R s) : Calls Try.prog 68 #[.pointer (some ⟨g, 0, none⟩)] w fun e w' => e = .returned (.bool s.down) ∧ w = w' := by
  obtain ⟨⟨c0, c1, c2, c3, c4, c5, c6⟩, -⟩ := box7 hd.box
  clear hd
  go_enter Try.func68, Try.ntmps68
  go_wp2_with fail
  go_ret
  exact ⟨rfl, rfl⟩
theorem rcalls_any (w : World) (B g : Nat) (a : Nat → Option Addr) (k : Nat → Nat) (pc : Value) (qs : List PV) (ka : Option Addr) (kc : Nat) (ks : List Bool) (R : Nat → Prop) (s : St) (hd : RSt w B g a k pc qs ka kc ks R s) : Calls Try.prog 70 #[.pointer (some ⟨g, 0, none⟩)] w fun e w' => e = .returned (.int .i64 s.calls) ∧ w = w' := by
  obtain ⟨⟨c0, c1, c2, c3, c4, c5, c6⟩, -⟩ := box7 hd.box
  clear hd
  go_enter Try.func70, Try.ntmps70
  go_wp2_with fail
  go_ret
  exact ⟨rfl, rfl⟩
theorem rrestart_any (w : World) (B g : Nat) (a : Nat → Option Addr) (k : Nat → Nat) (pc : Value) (qs : List PV) (ka : Option Addr) (kc : Nat) (ks : List Bool) (R : Nat → Prop) (s : St) (hd : RSt w B g a k pc qs ka kc ks R s) : Calls Try.prog 24 #[.pointer (some ⟨g, 0, none⟩)] w (RPost B g pc R (s.restart, 0) w) := by
  have HD := Lib.hid (hd.down_set false)
  obtain ⟨⟨c0, c1, c2, c3, c4, c5, c6⟩, hfz⟩ := box7 hd.box
  have hgl := hd.g_lt
  clear hd
  go_enter Try.func24, Try.ntmps24
  go_wp2_with fail
  go_ret
  exact ⟨rfl, pc, R, ⟨a, k, qs, ka, kc, ks, HD.out⟩, RTurn.set _ _ _ _ _ _⟩
theorem rmay_any (f : Int) (w : World) (B g : Nat) (a : Nat → Option Addr) (k : Nat → Nat) (pc : Value) (qs : List PV) (ka : Option Addr) (kc : Nat) (ks : List Bool) (R : Nat → Prop) (s : St) (hd : RSt w B g a k pc qs ka kc ks R s) : Calls Try.prog 101 #[.pointer (some ⟨g, 0, none⟩), .int .i64 f] w fun e w' => e = .returned (.int .i64 (s.may f)) ∧ w = w' := by
  obtain ⟨⟨-, -, -, -, -, -, c6⟩, -⟩ := box7 hd.box
  clear hd
  unfold St.may
  cases hdn : s.down with
  | true =>
    rw [hdn] at c6
    rw [if_pos rfl]
    clear hdn
    go_enter Try.func101, Try.ntmps101
    go_wp2_with fail
    go_ret
    exact ⟨rfl, rfl⟩
  | false =>
    rw [hdn] at c6
    rw [if_neg (by simp)]
    clear hdn
    by_cases h0 : f = 0
    · subst h0
      rw [if_pos (.inl rfl)]
      go_enter Try.func101, Try.ntmps101
      go_wp2_with fail
      go_ret
      exact ⟨rfl, rfl⟩
    · by_cases h1 : f = 1
      · subst h1
        rw [if_pos (.inr rfl)]
        clear h0
        go_enter Try.func101, Try.ntmps101
        go_wp2_with fail
        go_ret
        exact ⟨rfl, rfl⟩
      · rw [if_neg (by omega)]
        have hb0 : (f != 0) = true := by simp [h0]
        have hb1 : (f != 1) = true := by simp [h1]
        go_enter Try.func101, Try.ntmps101
        go_wp2_with fail
        go_ret
        exact ⟨rfl, rfl⟩
set_option maxRecDepth 100000 in
theorem rmeets_any (w : World) (B g : Nat) (a : Nat → Option Addr) (k : Nat → Nat) (pc : Value) (qs : List PV) (ka : Option Addr) (kc : Nat) (ks : List Bool) (R : Nat → Prop) (s : St) (hd : RSt w B g a k pc qs ka kc ks R s) : Calls Try.prog 102 #[.pointer (some ⟨g, 0, none⟩)] w fun e w' => e = .returned (.bool (decide (s.fuse = 1))) ∧ RSt w' B g a k pc qs ka kc ks R { s with calls := next64 s.calls, fuse := s.fuse - 1 } ∧ RTurn w w' g pc R pc R := by
  have hgl := hd.g_lt
  have hca := hd.ok.calls
  have hwr := next64_wrap hca
  have hwr2 : wrap64 (s.calls + 1) = next64 s.calls := by
    rw [← hwr, IntKind.wrap_i64]
    unfold wrap64
    omega
  have h1 := hd.calls_set
  have h2 := h1.fuse_set (s.fuse - 1) (Nat.sub_le _ _)
  have hfu := hd.ok.fuse
  obtain ⟨⟨c0, c1, c2, c3, c4, c5, c6⟩, hfz⟩ := box7 hd.box
  obtain ⟨⟨d0, d1, d2, d3, d4, d5, d6⟩, hfz1⟩ := box7 h1.box
  obtain ⟨⟨e0, e1, e2, e3, e4, e5, e6⟩, hfz2⟩ := box7 h2.box
  have H1 := Lib.hid h1
  have H2 := Lib.hid h2
  have hgl1 := h1.g_lt
  clear hd h1 h2 hca hwr
  by_cases h0 : s.fuse = 0
  · have hz : decide (s.fuse = 1) = false := by simp [h0]
    rw [hz]
    have hs : ({ s with calls := next64 s.calls, fuse := s.fuse - 1 } : St) = { s with calls := next64 s.calls } := by rw [h0, show 0 - 1 = 0 from rfl, ← h0]
    rw [hs]
    rw [h0] at c3 d3
    clear H2 e0 e1 e2 e3 e4 e5 e6 hfz2 hz hs h0
    go_enter Try.func102, Try.ntmps102
    go_wp2_with fail
    go_ret
    exact ⟨rfl, H1.out, RTurn.set _ _ _ _ _ _⟩
  · obtain ⟨m, hm⟩ : ∃ m, s.fuse = m + 1 := ⟨s.fuse - 1, by omega⟩
    rw [hm] at c3 d3 H2 e3 ⊢
    rw [Nat.add_sub_cancel] at H2 e3 ⊢
    obtain ⟨M, hM⟩ : ∃ M : Int, M = ((m + 1 : Nat) : Int) := ⟨_, rfl⟩
    have d3' : (w.setCell ⟨g, 5, none⟩ (.int .i64 (next64 s.calls))).cell? ⟨g, 3, none⟩ = some (.int .i64 M) := by rw [hM]; exact d3
    have e3' : ((w.setCell ⟨g, 5, none⟩ (.int .i64 (next64 s.calls))).setCell ⟨g, 3, none⟩ (.int .i64 (m : Int))).cell? ⟨g, 3, none⟩ = some (.int .i64 (m : Int)) := e3
    have H2' : Hid (RSt ((w.setCell ⟨g, 5, none⟩ (.int .i64 (next64 s.calls))).setCell ⟨g, 3, none⟩ (.int .i64 (m : Int))) B g a k pc qs ka kc ks R { s with calls := next64 s.calls, fuse := m }) := H2.out
    have hmm : M - 1 = (m : Int) := by omega
    have hmx : M ≤ 9223372036854775807 := by omega
    have hm0 : ¬ M = 0 := by omega
    have hm1 : 0 < M := by omega
    have hde : decide (m + 1 = 1) = decide (m = 0) := by by_cases h : m = 0 <;> simp [h]
    rw [hde]
    have hmb : ((m : Int) == 0) = decide (m = 0) := by by_cases h : m = 0 <;> simp [h]
    generalize decide (m = 0) = dz at *
    clear h0 hm e3 d3 H2 hM c0 c1 c2 c3 c4 c6 d0 d1 d2 d4 d5 d6 e0 e1 e2 e4 e5 e6
    have hfz3 := hfz1 3
    have hfz4 := hfz2 3
    go_enter Try.func102, Try.ntmps102
    go_wp2_with fail
    go_ret
    exact ⟨rfl, H2'.out, (RTurn.set _ _ _ _ _ _).trans (RTurn.set _ _ _ _ _ _)⟩
end Go.Proofs.Ytdbbghmldaekhaa
