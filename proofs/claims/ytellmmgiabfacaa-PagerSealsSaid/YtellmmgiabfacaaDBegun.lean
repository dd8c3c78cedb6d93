/-
  Of disk: one disk of a law's own; begun.
-/
import Derived.Test.YtellmmgiabfacaaDTrunc
import Derived.Test.YtellmmgiabfacaaDSync
import Derived.Test.YtellmmgiabfacaaDNot
namespace Go.Proofs.Ytellmmgiabfacaa
open Go.ChangeShapes Go.WideShapes Go.ChangeAt Go.RowKit
set_option linter.unusedVariables false

theorem crash_turned (g : Nat) (A : Option Addr) (c : Nat) (ks : List Bool) (w : World) (v : Nat → Value) (pc : Value) (qs : List PV) (kp : Value) (s : St) (hd : DSt w g v pc qs kp s) (hA : KRd w A ks) (hAF : 0 < ks.length → ∀ a, A = some a → ¬ DF g v pc a.block) (hlim : qs.length ≤ 8000000000000) :
    Calls Try.prog 32 #[.pointer (some ⟨g, 0, none⟩), .slice A ks.length c] w (Turned w g v pc qs kp (s.crashed ks)) := by
  cases hdn : s.down with
  | true =>
    refine (crash_down g _ hd hdn).mono ?_
    rintro e w' ⟨rfl, rfl⟩
    unfold St.crashed
    rw [if_pos hdn]
    exact ⟨rfl, v, pc, qs, kp, hd, Run.refl _ _ _ _ _ _⟩
  | false =>
    refine (crash_any g A c ks w v pc qs kp s hd hdn hA hAF hlim).mono ?_
    rintro e w' ⟨rfl, v', hd', ht'⟩
    unfold St.crashed
    rw [if_neg (by simp [hdn])]
    exact ⟨rfl, v', _, [], _, hd', Run.of_turn ht' (fun q hq => by simp at hq) (.inr rfl)⟩
theorem restart_turned (g : Nat) (w : World) (v : Nat → Value) (pc : Value) (qs : List PV) (kp : Value) (s : St) (hd : DSt w g v pc qs kp s) : Calls Try.prog 33 #[.pointer (some ⟨g, 0, none⟩)] w (Turned w g v pc qs kp (s.restart, 0)) := by
  have HC := Lib.hid (isMade_any hd.disk.mk)
  have HD := Lib.hid hd
  obtain ⟨⟨-, c1, -⟩, hfz⟩ := box10 hd.box
  clear hd
  go_enter Try.func33, Try.ntmps33
  go_wp2_with fail
  refine HC.out.mono ?_
  rintro e w' ⟨rfl, rfl⟩
  go_wp2_with fail
  go_ret
  exact ⟨rfl, v, pc, qs, kp, ⟨set10 HD.out.box 1 _, HD.out.core.set 1 _, HD.out.names, ⟨HD.out.ok.sure, HD.out.ok.pcs, HD.out.ok.fuse, HD.out.ok.calls⟩⟩, Run.of_turn (Turn.set _ _ _ _ _ _) (fun q hq => .inl hq) (.inl rfl)⟩
theorem new_st (w : World) : Calls Try.prog 24 #[] w fun e w' => ∃ g, e = .returned (.pointer (some ⟨g, 0, none⟩)) ∧ Below w.heap.size w w' ∧ ∃ v pc qs kp, DSt w' g v pc qs kp St.new ∧ ∀ k, DR g v pc qs kp k → w.heap.size ≤ k := by
  refine (new_any w).mono ?_
  rintro e w' ⟨g, rfl, ⟨v, pc, qs, kp, hd, h1, h2, h3, h4⟩, hb⟩
  exact ⟨g, rfl, hb, v, pc, qs, kp, hd, fun k hk => (h2 k hk).1⟩

/-- A disk that was made behind the world w0. -/
def At (w0 w : World) (g : Nat) (s : St) : Prop := ∃ v pc qs kp, DSt w g v pc qs kp s ∧ (∀ k, DF g v pc k → w0.heap.size ≤ k) ∧ Below w0.heap.size w0 w
theorem At.bel {w0 w : World} {g : Nat} {s : St} (h : At w0 w g s) : Below w0.heap.size w0 w := by
  obtain ⟨_, _, _, _, _, _, h⟩ := h
  exact h
theorem At.disk {w0 w : World} {g : Nat} {s : St} (h : At w0 w g s) : ∃ F R, Disk w g F R s := by
  obtain ⟨v, pc, qs, kp, hd, _⟩ := h
  exact ⟨_, _, hd.disk⟩
theorem At.below {w0 w w' : World} {g : Nat} {s : St} (h : At w0 w g s) (hb : Below w.heap.size w w') : At w0 w' g s := by
  obtain ⟨v, pc, qs, kp, hd, hF, h0⟩ := h
  exact ⟨v, pc, qs, kp, hd.below hb, hF, bt h0 hb⟩
theorem At.alloc {w0 w : World} {g : Nat} {s : St} (h : At w0 w g s) (o : Obj) : At w0 (w.alloc o) g s := h.below (alloc_below _ _)
theorem At.turned {w0 w w' : World} {g : Nat} {v : Nat → Value} {pc : Value} {qs : List PV} {kp : Value} {x : St × Int} {e : Ending} (hF : ∀ k, DF g v pc k → w0.heap.size ≤ k) (hb : Below w0.heap.size w0 w) (h : Turned w g v pc qs kp x e w') : e = .returned (.int .i64 x.2) ∧ At w0 w' g x.1 := by
  obtain ⟨he, v', pc', qs', kp', hd, hr⟩ := h
  refine ⟨he, v', pc', qs', kp', hd, fun k hk => ?_, below_tr hb (hr.turn.fr.below hF hb.size)⟩
  by_cases hkw : k < w.heap.size
  · exact hF k (hr.turn.new k hkw hk)
  · have := hb.size
    omega
theorem new_at (w0 w : World) (hb : Below w0.heap.size w0 w) : Calls Try.prog 24 #[] w fun e w' => ∃ g, e = .returned (.pointer (some ⟨g, 0, none⟩)) ∧ At w0 w' g St.new := by
  refine (new_st w).mono ?_
  rintro e w' ⟨g, rfl, hb', v, pc, qs, kp, hd, hR⟩
  exact ⟨g, rfl, v, pc, qs, kp, hd, fun k hk => Nat.le_trans hb.size (hR k (.inl hk)), bt hb hb'⟩
theorem write_at {w0 w : World} {g : Nat} {s : St} (f k : Int) (A : Option Addr) (c n : Nat) (b : List UInt8) (h : At w0 w g s) (hA : BRd w A b) (hn : n = b.length) (hb : b.length ≤ 140737488355328) (hlim : s.pcs.length + 4194304 ≤ 8000000000000) :
    Calls Try.prog 36 #[.pointer (some ⟨g, 0, none⟩), .int .i64 f, .int .i64 k, .slice A n c] w fun e w' => e = .returned (.int .i64 (s.write f k b).2) ∧ At w0 w' g (s.write f k b).1 := by
  subst hn
  obtain ⟨v, pc, qs, kp, hd, hF, h0⟩ := h
  have hq : s.pcs.length = qs.length := by rw [hd.names, List.length_map]
  exact (write_any g f k A c b w v pc qs kp s hd hA hb (by omega)).mono fun e w' h => At.turned hF h0 h
theorem truncate_at {w0 w : World} {g : Nat} {s : St} (f k : Int) (h : At w0 w g s) (hlim : s.pcs.length + 4194304 ≤ 8000000000000) :
    Calls Try.prog 125 #[.pointer (some ⟨g, 0, none⟩), .int .i64 f, .int .i64 k] w fun e w' => e = .returned (.int .i64 (s.truncate f k).2) ∧ At w0 w' g (s.truncate f k).1 := by
  obtain ⟨v, pc, qs, kp, hd, hF, h0⟩ := h
  have hq : s.pcs.length = qs.length := by rw [hd.names, List.length_map]
  exact (truncate_any g f k w v pc qs kp s hd (by omega)).mono fun e w' h => At.turned hF h0 h
theorem sync_at {w0 w : World} {g : Nat} {s : St} (f : Int) (h : At w0 w g s) (hlim : s.pcs.length ≤ 7000000000000) :
    Calls Try.prog 76 #[.pointer (some ⟨g, 0, none⟩), .int .i64 f] w fun e w' => e = .returned (.int .i64 (s.sync f).2) ∧ At w0 w' g (s.sync f).1 := by
  obtain ⟨v, pc, qs, kp, hd, hF, h0⟩ := h
  have hq : s.pcs.length = qs.length := by rw [hd.names, List.length_map]
  exact (sync_any g f w v pc qs kp s hd (by omega)).mono fun e w' h => At.turned hF h0 h
theorem crash_at {w0 w : World} {g : Nat} {s : St} (A : Option Addr) (c n : Nat) (ks : List Bool) (h : At w0 w g s) (hA : KRd w A ks) (hn : n = ks.length) (hAF : 0 < ks.length → ∀ a, A = some a → a.block < w0.heap.size) (hlim : s.pcs.length ≤ 8000000000000) :
    Calls Try.prog 32 #[.pointer (some ⟨g, 0, none⟩), .slice A n c] w fun e w' => e = .returned (.int .i64 (s.crashed ks).2) ∧ At w0 w' g (s.crashed ks).1 := by
  subst hn
  obtain ⟨v, pc, qs, kp, hd, hF, h0⟩ := h
  have hq : s.pcs.length = qs.length := by rw [hd.names, List.length_map]
  exact (crash_turned g A c ks w v pc qs kp s hd hA (fun h0 a ha hk => by have h1 := hF _ hk; have h2 := hAF h0 a ha; omega) (by omega)).mono fun e w' h => At.turned hF h0 h
theorem restart_at {w0 w : World} {g : Nat} {s : St} (h : At w0 w g s) :
    Calls Try.prog 33 #[.pointer (some ⟨g, 0, none⟩)] w fun e w' => e = .returned (.int .i64 0) ∧ At w0 w' g s.restart := by
  obtain ⟨v, pc, qs, kp, hd, hF, h0⟩ := h
  exact (restart_turned g w v pc qs kp s hd).mono fun e w' h => At.turned (x := (s.restart, 0)) hF h0 h
theorem read_at {w0 w : World} {g : Nat} {s : St} (f k n : Int) (h : At w0 w g s) : Calls Try.prog 34 #[.pointer (some ⟨g, 0, none⟩), .int .i64 f, .int .i64 k, .int .i64 n] w (ReadPost w (s.read f k n)) := by
  obtain ⟨v, pc, qs, kp, hd, hF, h0⟩ := h
  exact read_any g f k n hd.disk
theorem brd_one (w : World) (T : TypeId) (c : UInt8) : BRd (w.alloc (.cells #[.int .u8 (c.toNat : Int)] T)) (some ⟨w.heap.size, 0, none⟩) [c] := fun _ => by
  refine ⟨_, _, rfl, by simp, fun i hi => ?_⟩
  match i, hi with
  | 0, _ => exact World.cell?_alloc_at _ _ _ _ rfl
def b1S : St := (St.new.write 0 0 [1, 2]).1
def b2S : St := (b1S.sync 0).1
def b3S : St := (b2S.write 1 0 [3]).1
def b4S : St := (b3S.crashed []).1
def b5S : St := b4S.restart
theorem b1_ok : (St.new.write 0 0 [1, 2]).2 = 0 := rfl
theorem b2_ok : (b1S.sync 0).2 = 0 := rfl
theorem b3_ok : (b2S.write 1 0 [3]).2 = 0 := rfl
theorem b4_ok : (b3S.crashed []).2 = 0 := rfl
theorem b5_read : b5S.read 0 0 9 = ([1, 2], 0) := rfl
theorem b5_may : b5S.may 1 = 0 := rfl
theorem b5_len : (b5S.now 1).length = 0 := rfl
theorem b_len : St.new.pcs.length = 0 ∧ b1S.pcs.length = 1 ∧ b2S.pcs.length = 0 ∧ b3S.pcs.length = 1 := ⟨rfl, rfl, rfl, rfl⟩

end Go.Proofs.Ytellmmgiabfacaa
