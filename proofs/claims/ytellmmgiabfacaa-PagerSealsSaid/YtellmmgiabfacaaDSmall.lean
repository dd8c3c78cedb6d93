/-
  Of disk: contracts of the small methods.
-/
import Derived.Test.YtellmmgiabfacaaDFrame
namespace Go.Proofs.Ytellmmgiabfacaa
open Go.ChangeShapes Go.WideShapes Go.ChangeAt Go.RowKit
set_option linter.unusedVariables false

theorem box10 {w : World} {g : Nat} {a0 a1 a2 a3 a4 a5 a6 a7 a8 a9 : Value} {T : TypeId} (h : w.heap[g]? = some (.cells #[a0, a1, a2, a3, a4, a5, a6, a7, a8, a9] T (0, 0))) :
    (w.cell? ⟨g, 0, none⟩ = some a0 ∧ w.cell? ⟨g, 1, none⟩ = some a1 ∧ w.cell? ⟨g, 2, none⟩ = some a2 ∧ w.cell? ⟨g, 3, none⟩ = some a3 ∧ w.cell? ⟨g, 4, none⟩ = some a4 ∧ w.cell? ⟨g, 5, none⟩ = some a5 ∧ w.cell? ⟨g, 6, none⟩ = some a6 ∧ w.cell? ⟨g, 7, none⟩ = some a7 ∧ w.cell? ⟨g, 8, none⟩ = some a8 ∧ w.cell? ⟨g, 9, none⟩ = some a9) ∧ ∀ i, w.frozen? ⟨g, i, none⟩ = false := by
  simp [World.cell?, World.frozen?, h]
theorem set10 {w : World} {g : Nat} {cs : Array Value} {T : TypeId} (h : w.heap[g]? = some (.cells cs T (0, 0))) (i : Nat) (u : Value) : (w.setCell ⟨g, i, none⟩ u).heap[g]? = some (.cells (cs.set! i u) T (0, 0)) := by
  simp only [World.setCell, Array.getElem?_modify, if_pos, h, Option.map_some]
  rfl

/-- A disk that New returned, or none: what isMade says of it. -/
def Mk (w : World) (p : Value) (b : Bool) : Prop := (p = .pointer none ∧ b = false) ∨ ∃ g, p = .pointer (some ⟨g, 0, none⟩) ∧ w.cell? ⟨g, 0, none⟩ = some (.bool b)
theorem Disk.mk {g : Nat} {w : World} {F R : Nat → Prop} {s : St} (h : Disk w g F R s) : Mk w (.pointer (some ⟨g, 0, none⟩)) true := by
  obtain ⟨v, pc, qs, kp, hd, -⟩ := h
  exact .inr ⟨g, rfl, (box10 hd.box).1.1⟩
theorem Mk.same {w w' : World} {p : Value} {b : Bool} (h : Mk w p b) (hb : Below w.heap.size w w') : Mk w' p b := by
  rcases h with h | ⟨g, hp, hc⟩
  · exact .inl h
  · exact .inr ⟨g, hp, ((bcell hb).1 g 0 (World.block_lt_of_cell? w _ hc)).trans hc⟩

theorem isMade_any {p : Value} {b : Bool} {w : World} (h : Mk w p b) : Calls Try.prog 80 #[p] w fun e w' => e = .returned (.bool b) ∧ w = w' := by
  rcases h with ⟨rfl, rfl⟩ | ⟨g, rfl, c0⟩
  · go_enter Try.func80, Try.ntmps80
    go_wp2_with fail
    go_ret
    exact ⟨rfl, rfl⟩
  · go_enter Try.func80, Try.ntmps80
    go_wp2_with fail
    go_ret
    exact ⟨rfl, rfl⟩
theorem reach_not {p : Value} (f : Int) {w : World} (h : Mk w p false) : Calls Try.prog 82 #[p, .int .i64 f] w fun e w' => e = .returned (.int .i64 2) ∧ w = w' := by
  have HM := Lib.hid h
  clear h
  go_enter Try.func82, Try.ntmps82
  go_wp2_with fail
  refine (isMade_any HM.out).mono ?_
  rintro e w' ⟨rfl, rfl⟩
  go_wp2_with fail
  go_ret
  exact ⟨rfl, rfl⟩
theorem reach_any (g : Nat) (f : Int) {w : World} {F R : Nat → Prop} {s : St} (h : Disk w g F R s) : Calls Try.prog 82 #[.pointer (some ⟨g, 0, none⟩), .int .i64 f] w fun e w' => e = .returned (.int .i64 (s.may f)) ∧ w = w' := by
  have HM := Lib.hid h.mk
  obtain ⟨v, pc, qs, kp, hd, -⟩ := h
  obtain ⟨⟨-, c1, -⟩, -⟩ := box10 hd.box
  have HS : Hid (s.may f = if s.down then 6 else if f = 0 ∨ f = 1 then 0 else 1) := rfl
  clear hd
  generalize s.may f = m at *
  generalize s.down = dn at *
  go_enter Try.func82, Try.ntmps82
  go_wp2_with fail
  refine (isMade_any HM.out).mono ?_
  rintro e w' ⟨rfl, rfl⟩
  cases dn with
  | true =>
    go_wp2_with fail
    go_ret
    exact ⟨by rw [HS.out]; simp, rfl⟩
  | false =>
    by_cases h0 : f = 0
    · subst h0
      go_wp2_with fail
      go_ret
      exact ⟨by rw [HS.out]; simp, rfl⟩
    · by_cases h1 : f = 1
      · subst h1
        go_wp2_with fail
        go_ret
        exact ⟨by rw [HS.out]; simp, rfl⟩
      · have h0' : (f != 0) = true := by simpa using h0
        have h1' : (f != 1) = true := by simpa using h1
        go_wp2_with fail
        go_ret
        exact ⟨by rw [HS.out]; simp [h0, h1], rfl⟩
theorem burns_any (g : Nat) {w : World} {F R : Nat → Prop} {s : St} (h : Disk w g F R s) : Calls Try.prog 118 #[.pointer (some ⟨g, 0, none⟩)] w fun e w' => e = .returned (.bool (decide (s.fuse = 1))) ∧ w = w' := by
  obtain ⟨v, pc, qs, kp, hd, -⟩ := h
  obtain ⟨⟨-, -, -, c3, -⟩, -⟩ := box10 hd.box
  clear hd
  generalize s.fuse = n at *
  go_enter Try.func118, Try.ntmps118
  go_wp2_with fail
  go_ret
  exact ⟨ret_bool (by first | exact decide_eq_decide.2 (by omega) | (trace_state; fail)), rfl⟩
theorem row_slice {w : World} {B n : Nat} {e : TypeId} {s : Nat} {v : Value} {xs : List Value} (h : w.ownsRow B e s v n xs) : ∃ a cap, v = .slice a n cap ∧ n ≤ cap := by
  rcases h.2 with ⟨rfl, h0⟩ | ⟨g, cap, cur, rfl, hb, hg, hn, rest⟩
  · exact ⟨none, 0, by rw [h0], by omega⟩
  · exact ⟨_, cap, rfl, hn⟩
theorem down_not {p : Value} {w : World} (h : Mk w p false) : Calls Try.prog 132 #[p] w fun e w' => e = .returned (.bool false) ∧ w = w' := by
  have HC := Lib.hid (isMade_any h)
  clear h
  go_enter Try.func132, Try.ntmps132
  go_wp2_with fail
  refine HC.out.mono ?_
  rintro e w' ⟨rfl, rfl⟩
  go_wp2_with fail
  go_ret
  exact ⟨rfl, rfl⟩
theorem down_any (g : Nat) {w : World} {F R : Nat → Prop} {s : St} (h : Disk w g F R s) : Calls Try.prog 132 #[.pointer (some ⟨g, 0, none⟩)] w fun e w' => e = .returned (.bool s.down) ∧ w = w' := by
  have HC := Lib.hid (isMade_any h.mk)
  obtain ⟨v, pc, qs, kp, hd, -⟩ := h
  obtain ⟨⟨-, c1, -⟩, -⟩ := box10 hd.box
  clear hd
  generalize s.down = dn at *
  go_enter Try.func132, Try.ntmps132
  go_wp2_with fail
  refine HC.out.mono ?_
  rintro e w' ⟨rfl, rfl⟩
  go_wp2_with fail
  go_ret
  exact ⟨rfl, rfl⟩
theorem restart_not {p : Value} {w : World} (h : Mk w p false) : Calls Try.prog 33 #[p] w fun e w' => e = .returned (.int .i64 2) ∧ w = w' := by
  have HC := Lib.hid (isMade_any h)
  clear h
  go_enter Try.func33, Try.ntmps33
  go_wp2_with fail
  refine HC.out.mono ?_
  rintro e w' ⟨rfl, rfl⟩
  go_wp2_with fail
  go_ret
  exact ⟨rfl, rfl⟩
theorem restart_any (g : Nat) {w : World} {F R : Nat → Prop} {s : St} (h : Disk w g F R s) : Calls Try.prog 33 #[.pointer (some ⟨g, 0, none⟩)] w fun e w' => e = .returned (.int .i64 0) ∧ After w w' g F R s.restart := by
  have HC := Lib.hid (isMade_any h.mk)
  have HD := Lib.hid h
  obtain ⟨v, pc, qs, kp, hd, -⟩ := h
  obtain ⟨⟨-, c1, -⟩, hfz⟩ := box10 hd.box
  clear hd
  go_enter Try.func33, Try.ntmps33
  go_wp2_with fail
  refine HC.out.mono ?_
  rintro e w' ⟨rfl, rfl⟩
  go_wp2_with fail
  go_ret
  refine ⟨rfl, ?_⟩
  obtain ⟨v, pc, qs, kp, hd, h1, h2, h3, h4⟩ := HD.out
  exact After.mk' h1 h2 h3 h4 ⟨set10 hd.box 1 _, hd.core.set 1 _, hd.names, ⟨hd.ok.sure, hd.ok.pcs, hd.ok.fuse, hd.ok.calls⟩⟩ (Fr.set _ _ _ _ (.inl rfl)) (fun _ _ h => h) fun _ _ h => h
end Go.Proofs.Ytellmmgiabfacaa
