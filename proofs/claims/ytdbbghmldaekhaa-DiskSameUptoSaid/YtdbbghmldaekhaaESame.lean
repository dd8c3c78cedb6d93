/-
  The document's disk: Same.
-/
import Derived.Test.YtdbbghmldaekhaaESync
namespace Go.Proofs.Ytdbbghmldaekhaa
open Go.ChangeShapes Go.WideShapes Go.ChangeAt Go.RowKit
set_option linter.unusedVariables false

theorem conv_brd {w : World} {a : Option Addr} {n k : Nat} {l : List UInt8} (h : BRd w a l) (hn : n = l.length) : (convert 29 9 (.slice a n k)).run Try.prog w = .ok (.string ⟨l.toArray⟩) w := by
  subst hn
  by_cases h0 : 0 < l.length
  · obtain ⟨g, off, rfl, hg, hc⟩ := h h0
    refine run_convert_bytes_back w _ _ 5 ⟨g, off, none⟩ k l Try.underlying29 Try.underlying5 Try.underlying9 (fun j hj => ?_)
    rw [Go.WideShapes.add_plain]
    exact hc j hj
  · obtain rfl : l = [] := List.length_eq_zero_iff.1 (by omega)
    cases a with
    | none => exact Lib.run_convert_nil_bytes w _ _ 5 k Try.underlying29 Try.underlying5 Try.underlying9
    | some a => exact run_convert_bytes_back w _ _ 5 a k [] Try.underlying29 Try.underlying5 Try.underlying9 (fun j hj => by simp at hj)
/-- What Now tells, and that all that was read stays. -/
def Tell (L : List UInt8) (w W : World) (e : Ending) (w' : World) : Prop := ∃ a n k, e = .returned (.slice a n k) ∧ n = L.length ∧ BRd w' a L ∧ Below w.heap.size w w' ∧ ∀ a' l', BRd W a' l' → BRd w' a' l'
theorem Shown.tell {R : Nat → Prop} {L : List UInt8} {w W : World} {e : Ending} {w' : World} (hW : Below w.heap.size w W) (h : Shown R L W e w') : Tell L w W e w' := by
  obtain ⟨a, n, k, h1, h2, -, h3, -, h4⟩ := h
  exact ⟨a, n, k, h1, h2, h3, bt hW h4, fun a' l' h => h.below h4⟩
theorem bytes_back (l : List UInt8) : (⟨l.toArray⟩ : ByteArray).toList = l := by
  rw [ByteArray.toList_eq]
theorem bytes_ext {l m : List UInt8} (h : (⟨l.toArray⟩ : ByteArray) = ⟨m.toArray⟩) : l = m := by simpa using congrArg (fun b : ByteArray => b.data.toList) h
set_option maxHeartbeats 25600000 in
set_option maxRecDepth 100000 in
theorem rsame_any (g1 g2 : Nat) (w : World) (L : Nat → Int → List UInt8)
    (h : ∀ g f W, (g = g1 ∨ g = g2) → (f = 0 ∨ f = 1) → Below w.heap.size w W → Calls Try.prog 66 #[.pointer (some ⟨g, 0, none⟩), .int .i64 f] W (Tell (L g f) w W)) :
    Calls Try.prog 22 #[.pointer (some ⟨g1, 0, none⟩), .pointer (some ⟨g2, 0, none⟩)] w fun e w' => e = .returned (.bool (L g1 0 == L g2 0 && L g1 1 == L g2 1)) ∧ Below w.heap.size w w' := by
  have H := Lib.hid h
  have hp := Lib.hid (Below.refl w.heap.size w)
  clear h
  by_cases hab : L g1 0 = L g2 0
  · have e1 := bytes_back (L g1 0)
    have e2 := bytes_back (L g2 0)
    have e3 := bytes_back (L g1 1)
    have e4 := bytes_back (L g2 1)
    have hq3 : (⟨(L g1 0).toArray⟩ : ByteArray).toList = (⟨(L g2 0).toArray⟩ : ByteArray).toList := by rw [e1, e2]; exact hab
    have hq : (⟨(L g1 0).toArray⟩ : ByteArray) = ⟨(L g2 0).toArray⟩ := by rw [hab]
    have HAB : Hid ((L g1 0 == L g2 0) = true) := by show _ = _; rw [hab]; exact beq_self_eq_true _
    by_cases hcd : L g1 1 = L g2 1
    · have hq5 : (⟨(L g1 1).toArray⟩ : ByteArray).toList = (⟨(L g2 1).toArray⟩ : ByteArray).toList := by rw [e3, e4]; exact hcd
      have hq4 : (⟨(L g1 1).toArray⟩ : ByteArray) = ⟨(L g2 1).toArray⟩ := by rw [hcd]
      have HCD : Hid ((L g1 1 == L g2 1) = true) := by show _ = _; rw [hcd]; exact beq_self_eq_true _
      clear hab hcd
      rw [HAB.out, HCD.out]
      go_enter Try.func22, Try.ntmps22
      go_wp2_with fail
      go_region_with (go_at_call 66; (try (have hr0 := hr1)); refine (H.out _ _ _ (by first | exact .inl rfl | exact .inr rfl) (by first | exact .inl rfl | exact .inr rfl) (by first | exact hp.out | exact hp.out.drew)).mono ?_; rintro e x1 ⟨a1, n1, k1, rfl, rfl, hr1, hp1, ho1⟩; have hc1 := fun k => conv_brd (k := k) hr1 rfl; (try have hc0 := fun k => conv_brd (k := k) (ho1 _ _ hr0) rfl); have hp := Lib.hid hp1)
      all_goals go_wp2_with fail
      all_goals go_ret
      all_goals exact ⟨ret_bool (by simp), by first | exact hp.out | exact hp.out.drew⟩
    · have hq5 : ¬ (⟨(L g1 1).toArray⟩ : ByteArray).toList = (⟨(L g2 1).toArray⟩ : ByteArray).toList := by rw [e3, e4]; exact hcd
      have hq4 : ¬ (⟨(L g1 1).toArray⟩ : ByteArray) = ⟨(L g2 1).toArray⟩ := fun e => hcd (bytes_ext e)
      have HCD : Hid ((L g1 1 == L g2 1) = false) := by show _ = _; simpa using hcd
      have HNE := Lib.hid hcd
      clear hab hcd
      rw [HAB.out, HCD.out]
      go_enter Try.func22, Try.ntmps22
      go_wp2_with fail
      go_region_with (go_at_call 66; (try (have hr0 := hr1)); refine (H.out _ _ _ (by first | exact .inl rfl | exact .inr rfl) (by first | exact .inl rfl | exact .inr rfl) (by first | exact hp.out | exact hp.out.drew)).mono ?_; rintro e x1 ⟨a1, n1, k1, rfl, rfl, hr1, hp1, ho1⟩; have hc1 := fun k => conv_brd (k := k) hr1 rfl; (try have hc0 := fun k => conv_brd (k := k) (ho1 _ _ hr0) rfl); have hp := Lib.hid hp1)
      all_goals go_wp2_with fail
      all_goals go_ret
      all_goals exact ⟨ret_bool (by first | (simp; done) | (simp; exact HNE.out)), by first | exact hp.out | exact hp.out.drew⟩
  · have hq : ¬ (⟨(L g1 0).toArray⟩ : ByteArray) = ⟨(L g2 0).toArray⟩ := fun e => hab (bytes_ext e)
    have hq2 : (L g1 0 == L g2 0) = false := by simpa using hab
    rw [hq2]
    have e1 := bytes_back (L g1 0)
    have e2 := bytes_back (L g2 0)
    have hq3 : ¬ (⟨(L g1 0).toArray⟩ : ByteArray).toList = (⟨(L g2 0).toArray⟩ : ByteArray).toList := by rw [e1, e2]; exact hab
    go_enter Try.func22, Try.ntmps22
    go_wp2_with fail
    first
      | (go_region_with (go_at_call 66; (try (have hr0 := hr1)); refine (H.out _ _ _ (by first | exact .inl rfl | exact .inr rfl) (by first | exact .inl rfl | exact .inr rfl) (by first | exact hp.out | exact hp.out.drew)).mono ?_; rintro e x1 ⟨a1, n1, k1, rfl, rfl, hr1, hp1, ho1⟩; have hc1 := fun k => conv_brd (k := k) hr1 rfl; (try have hc0 := fun k => conv_brd (k := k) (ho1 _ _ hr0) rfl); have hp := Lib.hid hp1))
      | fail
    all_goals go_wp2_with fail
    all_goals go_ret
    all_goals exact ⟨ret_bool (by simp), by first | exact hp.out | exact hp.out.drew⟩
end Go.Proofs.Ytdbbghmldaekhaa
