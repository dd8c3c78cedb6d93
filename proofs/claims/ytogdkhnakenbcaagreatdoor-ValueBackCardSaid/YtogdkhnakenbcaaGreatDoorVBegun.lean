/-
  The statements' own first look: a whole number held against a decimal, a text shown, two numbers in order.
-/
import Derived.Test.YtogdkhnakenbcaaGreatDoorVOrder
import Derived.Test.YtogdkhnakenbcaaGreatDoorRepl
namespace Go.Proofs.YtogdkhnakenbcaaGreatDoor
open Go.ChangeShapes Go.WideShapes Go.ChangeAt Go.RowKit
set_option linter.unusedVariables false

/-- A text between quotation marks. -/
def quoteL (l : List UInt8) : List UInt8 := 39 :: (dblL l ++ [39])
theorem quote_app (l : List UInt8) : (⟨#[39]⟩ : ByteArray) ++ ⟨l.toArray⟩ ++ ⟨#[39]⟩ = ⟨(39 :: (l ++ [39])).toArray⟩ := by
  have h := bytes_app [39] l
  have h2 := bytes_app ([39] ++ l) [39]
  simp only [List.cons_append, List.nil_append] at h h2
  rw [show (⟨#[39]⟩ : ByteArray) = ⟨[39].toArray⟩ from rfl, h, h2]
set_option maxHeartbeats 800000 in
theorem show_text (s n : Int) (t : ByteArray) (w : World) (hlen : (dblL t.data.toList).length + 2 ≤ 140737488355328) :
    Calls Tryz.prog 10 #[.agg #[.int .i64 4, .int .i64 s, .bool false, .int .i64 n, .string t]] w fun e w' => e = .returned (.string ⟨(quoteL t.data.toList).toArray⟩) ∧ Below w.heap.size w w' := by
  obtain ⟨L, hL⟩ : ∃ L, L = dblL t.data.toList := ⟨_, rfl⟩
  have HR : Hid (∀ W, Calls Tryz.prog 37 #[.string t, .string ⟨#[39]⟩, .string ⟨#[39, 39]⟩] W fun e w' => e = .returned (.string ⟨L.toArray⟩) ∧ Below W.heap.size W w') := by
    intro W; rw [hL]; exact replaceAll_any t W (by omega)
  have HQ : Hid (quoteL t.data.toList = 39 :: (L ++ [39])) := by show _ = _; rw [hL]; rfl
  rw [← hL] at hlen
  clear hL
  have hA := quote_app L
  have hl1 : 1 + L.length ≤ 140737488355328 := by omega
  have hl2 : 1 + L.length + 1 ≤ 140737488355328 := by omega
  go_enter Tryz.func10, Tryz.ntmps10
  go_wp2_with (first | (go_at_call 37; refine (HR.out _).mono ?_; rintro e w1 ⟨rfl, hb1⟩; have hB := b1 hb1; clear hb1))
  go_ret
  exact ⟨ret_str HQ.out.symm, hB⟩

theorem begun_any (w : World) : Calls Tryz.prog 9 #[] w fun e w' => e = .returned (.bool true) ∧ Below w.heap.size w w' := by
  have ht : tstV 3 ⟨2, 0, false, 1, ⟨#[]⟩⟩ ⟨3, 1, false, 15, ⟨#[]⟩⟩ = 1 := by decide
  have he : tstE 3 ⟨2, 0, false, 1, ⟨#[]⟩⟩ ⟨3, 1, false, 15, ⟨#[]⟩⟩ = 0 := by decide
  have ho : ordV ⟨2, 0, false, 2, ⟨#[]⟩⟩ ⟨2, 0, false, 1, ⟨#[]⟩⟩ = 1 := by decide
  have HT : Hid (∀ W, Calls Tryz.prog 30 #[.int .i64 3, .agg #[.int .i64 2, .int .i64 0, .bool false, .int .i64 1, .string ⟨#[]⟩], .agg #[.int .i64 3, .int .i64 1, .bool false, .int .i64 15, .string ⟨#[]⟩]] W fun e w' => e = .returned (.tuple #[.int .i64 1, .int .i64 0]) ∧ Below W.heap.size W w') := by
    intro W
    have h := test_any 3 ⟨2, 0, false, 1, ⟨#[]⟩⟩ ⟨3, 1, false, 15, ⟨#[]⟩⟩ W (by decide) (by decide)
    rw [ht, he] at h
    exact h
  have HO : Hid (∀ W, Calls Tryz.prog 34 #[.agg #[.int .i64 2, .int .i64 0, .bool false, .int .i64 2, .string ⟨#[]⟩], .agg #[.int .i64 2, .int .i64 0, .bool false, .int .i64 1, .string ⟨#[]⟩]] W fun e w' => e = .returned (.int .i64 1) ∧ Below W.heap.size W w') := by
    intro W
    have h := order_any ⟨2, 0, false, 2, ⟨#[]⟩⟩ ⟨2, 0, false, 1, ⟨#[]⟩⟩ W (by decide) (by decide)
    rw [ho] at h
    exact h
  have HS : Hid (∀ W, Calls Tryz.prog 10 #[.agg #[.int .i64 4, .int .i64 0, .bool false, .int .i64 0, .string ⟨#[105, 116, 39, 115]⟩]] W fun e w' => e = .returned (.string ⟨#[39, 105, 116, 39, 39, 115, 39]⟩) ∧ Below W.heap.size W w') := by
    intro W
    exact show_text 0 0 ⟨#[105, 116, 39, 115]⟩ W (by decide)
  clear ht he ho
  go_enter Tryz.func9, Tryz.ntmps9
  go_wp2_with fail
  refine (ofInt_any _ _).mono ?_
  rintro e w1 ⟨rfl, hB1⟩
  go_wp2_with fail
  refine (ofDec_any _ _ _).mono ?_
  rintro e w2 ⟨rfl, hb2⟩
  have hB2 := bt hB1 hb2
  clear hb2 hB1
  go_wp2_with fail
  refine (HT.out _).mono ?_
  rintro e w3 ⟨rfl, hb3⟩
  have hB3 := bt hB2 hb3
  clear hb3 hB2
  go_wp2_with fail
  refine (ofText_any _ _).mono ?_
  rintro e w4 ⟨rfl, hb4⟩
  have hB4 := bt hB3 hb4
  clear hb4 hB3
  go_wp2_with fail
  refine (HS.out _).mono ?_
  rintro e w5 ⟨rfl, hb5⟩
  have hB5 := bt hB4 hb5
  clear hb5 hB4
  go_wp2_with fail
  refine (ofInt_any _ _).mono ?_
  rintro e w6 ⟨rfl, hb6⟩
  have hB6 := bt hB5 hb6
  clear hb6 hB5
  go_wp2_with fail
  refine (ofInt_any _ _).mono ?_
  rintro e w7 ⟨rfl, hb7⟩
  have hB7 := bt hB6 hb7
  clear hb7 hB6
  go_wp2_with fail
  refine (HO.out _).mono ?_
  rintro e w8 ⟨rfl, hb8⟩
  have hB8 := bt hB7 hb8
  clear hb8 hB7
  go_wp2
  go_ret
  exact ⟨rfl, hB8⟩
end Go.Proofs.YtogdkhnakenbcaaGreatDoor
