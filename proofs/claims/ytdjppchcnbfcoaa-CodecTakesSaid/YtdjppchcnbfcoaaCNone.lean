/-
  Contracts of a writer and a reader that no call made.
-/
import Derived.Test.YtdjppchcnbfcoaaCFrom
import Derived.Test.YtdjppchcnbfcoaaCBegun
namespace Go.Proofs.Ytdjppchcnbfcoaa
open Go.ChangeShapes Go.WideShapes Go.ChangeAt Go.RowKit
set_option linter.unusedVariables false

/-- A writer, and a reader, that no call made: nil, or a zero value. -/
def WNo (w : World) (a : Option Addr) : Prop := a = none ∨ ∃ g, a = some ⟨g, 0, none⟩ ∧ w.heap[g]? = some (.cells #[.bool false, .slice none 0 0] 67 (0, 0))
def RNo (w : World) (a : Option Addr) : Prop := a = none ∨ ∃ g, a = some ⟨g, 0, none⟩ ∧ w.heap[g]? = some (.cells #[.bool false, .slice none 0 0] 70 (0, 0))
theorem WNo.below {w w' : World} {a : Option Addr} (h : WNo w a) (hb : Below w.heap.size w w') : WNo w' a := by
  rcases h with h | ⟨g, h, hg⟩
  · exact .inl h
  · exact .inr ⟨g, h, (hb.block g (Array.getElem?_eq_some_iff.1 hg).1).trans hg⟩
theorem RNo.below {w w' : World} {a : Option Addr} (h : RNo w a) (hb : Below w.heap.size w w') : RNo w' a := by
  rcases h with h | ⟨g, h, hg⟩
  · exact .inl h
  · exact .inr ⟨g, h, (hb.block g (Array.getElem?_eq_some_iff.1 hg).1).trans hg⟩
set_option maxHeartbeats 1600000 in
theorem room_no (a : Option Addr) (n : Int) (w : World) (h : WNo w a) :
    Calls Try.prog 59 #[.pointer a, .int .i64 n] w fun e w' => e = .returned (.int .i64 2) ∧ w = w' := by
  rcases h with rfl | ⟨g, rfl, hg⟩
  · go_enter Try.func59, Try.ntmps59
    go_wp2_with (fail)
    go_ret
    exact ⟨rfl, rfl⟩
  · obtain ⟨c0, c1, f0, f1⟩ := box_cell hg
    clear hg
    go_enter Try.func59, Try.ntmps59
    go_wp2_with (fail)
    go_ret
    exact ⟨rfl, rfl⟩
set_option maxHeartbeats 1600000 in
theorem lenW_no (a : Option Addr) (w : World) (h : WNo w a) :
    Calls Try.prog 16 #[.pointer a] w fun e w' => e = .returned (.int .i64 0) ∧ w = w' := by
  rcases h with rfl | ⟨g, rfl, hg⟩
  · go_enter Try.func16, Try.ntmps16
    go_wp2_with (fail)
    go_ret
    exact ⟨rfl, rfl⟩
  · obtain ⟨c0, c1, f0, f1⟩ := box_cell hg
    clear hg
    go_enter Try.func16, Try.ntmps16
    go_wp2_with (fail)
    go_ret
    exact ⟨rfl, rfl⟩
set_option maxHeartbeats 1600000 in
theorem isMade_no (a : Option Addr) (w : World) (h : RNo w a) :
    Calls Try.prog 48 #[.pointer a] w fun e w' => e = .returned (.bool false) ∧ w = w' := by
  rcases h with rfl | ⟨g, rfl, hg⟩
  · go_enter Try.func48, Try.ntmps48
    go_wp2_with (fail)
    go_ret
    exact ⟨rfl, rfl⟩
  · obtain ⟨c0, c1, f0, f1⟩ := box_cell hg
    clear hg
    go_enter Try.func48, Try.ntmps48
    go_wp2_with (fail)
    go_ret
    exact ⟨rfl, rfl⟩
set_option maxHeartbeats 1600000 in
theorem left_no (a : Option Addr) (w : World) (h : RNo w a) :
    Calls Try.prog 24 #[.pointer a] w fun e w' => e = .returned (.int .i64 0) ∧ w = w' := by
  rcases h with rfl | ⟨g, rfl, hg⟩
  · go_enter Try.func24, Try.ntmps24
    go_wp2_with (fail)
    go_ret
    exact ⟨rfl, rfl⟩
  · obtain ⟨c0, c1, f0, f1⟩ := box_cell hg
    clear hg
    go_enter Try.func24, Try.ntmps24
    go_wp2_with (fail)
    go_ret
    exact ⟨rfl, rfl⟩
set_option maxHeartbeats 1600000 in
theorem end_no (a : Option Addr) (w : World) (h : RNo w a) :
    Calls Try.prog 25 #[.pointer a] w fun e w' => e = .returned (.int .i64 2) ∧ w = w' := by
  have HM := Lib.hid (isMade_no a w h)
  clear h
  go_enter Try.func25, Try.ntmps25
  go_wp2_with ((go_at_call 48; refine (HM.out).mono ?_; rintro e w' ⟨rfl, rfl⟩))
  go_ret
  exact ⟨rfl, rfl⟩
set_option maxHeartbeats 1600000 in
theorem rInt_no (a : Option Addr) (w : World) (h : RNo w a) :
    Calls Try.prog 43 #[.pointer a] w fun e w' => e = .returned (.tuple #[.int .i64 0, .int .i64 2]) ∧ w = w' := by
  have HM := Lib.hid (isMade_no a w h)
  clear h
  go_enter Try.func43, Try.ntmps43
  go_wp2_with ((go_at_call 48; refine (HM.out).mono ?_; rintro e w' ⟨rfl, rfl⟩))
  go_ret2
  exact ⟨rfl, rfl⟩
set_option maxHeartbeats 1600000 in
theorem rBytes_no (a : Option Addr) (w : World) (h : RNo w a) :
    Calls Try.prog 39 #[.pointer a] w fun e w' => e = .returned (.tuple #[.slice none 0 0, .int .i64 2]) ∧ w = w' := by
  have HM := Lib.hid (isMade_no a w h)
  clear h
  go_enter Try.func39, Try.ntmps39
  go_wp2_with ((go_at_call 48; refine (HM.out).mono ?_; rintro e w' ⟨rfl, rfl⟩))
  go_ret2
  exact ⟨rfl, rfl⟩
set_option maxHeartbeats 1600000 in
theorem rFlag_no (a : Option Addr) (w : World) (h : RNo w a) :
    Calls Try.prog 45 #[.pointer a] w fun e w' => e = .returned (.tuple #[.bool false, .int .i64 2]) ∧ w = w' := by
  have HM := Lib.hid (isMade_no a w h)
  clear h
  go_enter Try.func45, Try.ntmps45
  go_wp2_with ((go_at_call 48; refine (HM.out).mono ?_; rintro e w' ⟨rfl, rfl⟩))
  go_ret2
  exact ⟨rfl, rfl⟩
set_option maxHeartbeats 1600000 in
theorem rText_no (a : Option Addr) (w : World) (h : RNo w a) :
    Calls Try.prog 44 #[.pointer a] w fun e w' => e = .returned (.tuple #[.string ⟨#[]⟩, .int .i64 2]) ∧ w = w' := by
  have HM := Lib.hid (rBytes_no a w h)
  have hcv := conv_own (OwnB.nil w 0)
  clear h
  go_enter Try.func44, Try.ntmps44
  go_wp2_with (go_at_call 39; refine HM.out.mono ?_; rintro e w' ⟨rfl, rfl⟩)
  go_ret2
  exact ⟨rfl, rfl⟩
set_option maxHeartbeats 1600000 in
theorem wInt_no (a : Option Addr) (n : Int) (hn : In8 n) (w : World) (h : WNo w a) :
    Calls Try.prog 40 #[.pointer a, .int .i64 n] w fun e w' => e = .returned (.int .i64 2) ∧ w = w' := by
  have HS := Lib.hid (fun W => size_any n W hn)
  have HM := Lib.hid (fun n => room_no a n w h)
  clear h
  go_enter Try.func40, Try.ntmps40
  go_wp2_with (first | (go_at_call 26; refine (HS.out _).mono ?_; rintro e w' ⟨rfl, rfl⟩) | (go_at_call 59; refine (HM.out _).mono ?_; rintro e w' ⟨rfl, rfl⟩))
  go_ret
  exact ⟨rfl, rfl⟩
set_option maxHeartbeats 1600000 in
theorem wFlag_no (a : Option Addr) (b : Bool) (w : World) (h : WNo w a) :
    Calls Try.prog 42 #[.pointer a, .bool b] w fun e w' => e = .returned (.int .i64 2) ∧ w = w' := by
  have HI := Lib.hid (fun n hn => wInt_no a n hn w h)
  clear h
  cases b
  · go_enter Try.func42, Try.ntmps42
    go_wp2_with (go_at_call 40; refine (HI.out 0 (by unfold In8; decide)).mono ?_; rintro e w' ⟨rfl, rfl⟩)
    go_ret
    exact ⟨rfl, rfl⟩
  · go_enter Try.func42, Try.ntmps42
    go_wp2_with (go_at_call 40; refine (HI.out 1 (by unfold In8; decide)).mono ?_; rintro e w' ⟨rfl, rfl⟩)
    go_ret
    exact ⟨rfl, rfl⟩
set_option maxHeartbeats 1600000 in
theorem wBytes_no (a : Option Addr) (A : Option Addr) (c : Nat) (s : List UInt8) (w : World) (hA : BRd w A s) (hN : A = none → c = 0) (hsl : s.length ≤ 140737488355328) (h : WNo w a) :
    Calls Try.prog 38 #[.pointer a, .slice A s.length c] w fun e w' => e = .returned (.int .i64 2) ∧ Below w.heap.size w w' := by
  have HS := Lib.hid (sizeBytes_any A c s w hA hN hsl)
  have HM := Lib.hid (fun n W hW => room_no a n W (h.below hW))
  clear h hA hN
  go_enter Try.func38, Try.ntmps38
  go_wp2_with fail
  refine HS.out.mono ?_
  rintro e w1 ⟨rfl, hb⟩
  have HB := Lib.hid hb
  clear hb
  go_wp2_with fail
  refine (HM.out _ _ HB.out).mono ?_
  rintro e w' ⟨rfl, rfl⟩
  go_wp2_with fail
  go_ret
  exact ⟨rfl, HB.out⟩
set_option maxHeartbeats 1600000 in
theorem wText_no (a : Option Addr) (s : List UInt8) (w : World) (hsl : s.length ≤ 140737488355328) (h : WNo w a) :
    Calls Try.prog 32 #[.pointer a, .string ⟨s.toArray⟩] w fun e w' => e = .returned (.int .i64 2) ∧ Below w.heap.size w w' := by
  obtain ⟨WA, cap, hconv, hrd, hb, hlt⟩ := bytes_conv s w
  have HW := Lib.hid (wBytes_no a _ cap s WA hrd (fun e => by cases e) hsl (h.below hb))
  have HB := Lib.hid hb
  clear h hrd hb hlt
  go_enter Try.func32, Try.ntmps32
  go_wp2_with fail
  refine HW.out.mono ?_
  rintro e w1 ⟨rfl, h2⟩
  have H2 := Lib.hid (bt HB.out h2)
  clear h2 hconv
  go_wp2_with fail
  go_ret
  exact ⟨rfl, H2.out⟩
set_option maxHeartbeats 1600000 in
theorem outW_no (a : Option Addr) (w : World) (h : WNo w a) :
    Calls Try.prog 18 #[.pointer a] w fun e w' => e = .returned (.slice none 0 0) ∧ w = w' := by
  rcases h with rfl | ⟨g, rfl, hg⟩
  · go_enter Try.func18, Try.ntmps18
    go_wp2_with fail
    go_ret
    exact ⟨rfl, rfl⟩
  · obtain ⟨c0, c1, f0, f1⟩ := box_cell hg
    clear hg
    go_enter Try.func18, Try.ntmps18
    go_wp2_with fail
    refine (Try.bytes_Clone_nil 0 0 w).mono ?_
    rintro e w' ⟨rfl, hw⟩
    subst hw
    go_wp2_with fail
    go_ret
    exact ⟨rfl, rfl⟩
set_option maxHeartbeats 3200000 in
theorem to_no (p : PR) (hp : p.Ok) (a : Option Addr) (w : World) (h : WNo w a) :
    Calls Try.prog 15 #[p.val, .pointer a] w fun e w' => e = .returned (.int .i64 2) ∧ Below w.heap.size w w' := by
  obtain ⟨k, n, s⟩ := p
  obtain ⟨hk, hn, hs⟩ := hp
  simp only at hk hn hs
  unfold PR.val
  simp only
  have hA := alloc_below w (.cells #[.int .u8 (k : Int), .int .i64 n, .string ⟨s.toArray⟩] 28)
  have HW := Lib.hid (h.below hA)
  have HA := Lib.hid hA
  clear h hA
  have hk0 : (0 : Int) ≤ (k : Int) := by omega
  rcases (by omega : k % 4 = 0 ∨ k % 4 = 1 ∨ k % 4 = 2 ∨ k % 4 = 3) with h4 | h4 | h4 | h4
  · have e4 : (k : Int) % 4 = 0 := by omega
    clear h4
    have HC := Lib.hid (wInt_no a n hn _ HW.out)
    go_enter Try.func15, Try.ntmps15
    go_wp2_with fail
    refine HC.out.mono ?_
    rintro e w' ⟨rfl, rfl⟩
    go_wp2_with fail
    go_ret
    exact ⟨rfl, HA.out⟩
  · have e4 : (k : Int) % 4 = 1 := by omega
    clear h4
    obtain ⟨WA, cap, hconv, hrd, hb, hlt⟩ := bytes_conv2 s (w.alloc (.cells #[.int .u8 (k : Int), .int .i64 n, .string ⟨s.toArray⟩] 28)) (w.heap.size + 1) (by simp)
    have HC := Lib.hid (wBytes_no a _ cap s WA hrd (fun e => by cases e) (by omega) (HW.out.below hb))
    have HA := Lib.hid (bt HA.out hb)
    clear hrd hb hlt
    go_enter Try.func15, Try.ntmps15
    go_wp2_with fail
    refine HC.out.mono ?_
    rintro e w1 ⟨rfl, h2⟩
    have H2 := Lib.hid (bt HA.out h2)
    clear h2
    go_wp2_with fail
    go_ret
    exact ⟨rfl, H2.out⟩
  · have e4 : (k : Int) % 4 = 2 := by omega
    clear h4
    have HC := Lib.hid (wText_no a s _ (by omega) HW.out)
    go_enter Try.func15, Try.ntmps15
    go_wp2_with fail
    refine HC.out.mono ?_
    rintro e w1 ⟨rfl, h2⟩
    have H2 := Lib.hid (bt HA.out h2)
    clear h2
    go_wp2_with fail
    go_ret
    exact ⟨rfl, H2.out⟩
  · have e4 : (k : Int) % 4 = 3 := by omega
    clear h4
    have ha := and_one n
    have HC := Lib.hid (fun b => wFlag_no a b _ HW.out)
    rcases (by omega : n % 2 = 0 ∨ n % 2 = 1) with h2 | h2
    all_goals
      rw [h2] at ha
      clear h2
      go_enter Try.func15, Try.ntmps15
      go_wp2_with fail
      refine (HC.out _).mono ?_
      rintro e w' ⟨rfl, rfl⟩
      go_wp2_with fail
      go_ret
      exact ⟨rfl, HA.out⟩
set_option maxHeartbeats 3200000 in
set_option maxRecDepth 100000 in
theorem from_no (p : PR) (hp : p.Ok) (a : Option Addr) (w : World) (h0 : RNo w a) :
    Calls Try.prog 20 #[p.val, .pointer a] w fun e w' => e = .returned (.tuple #[.agg #[.int .u8 p.k, .int .i64 0, .string ⟨#[]⟩], .int .i64 2]) ∧ Below w.heap.size w w' := by
  obtain ⟨k, n, s⟩ := p
  obtain ⟨hk, hn, hs⟩ := hp
  simp only at hk hn hs
  unfold PR.val
  simp only
  have h := Lib.hid h0
  clear h0
  have hk0 : (0 : Int) ≤ (k : Int) := by omega
  rcases (by omega : k % 4 = 0 ∨ k % 4 = 1 ∨ k % 4 = 2 ∨ k % 4 = 3) with h4 | h4 | h4 | h4
  · have e4 : (k : Int) % 4 = 0 := by omega
    clear h4
    go_enter Try.func20, Try.ntmps20
    go_wp2_with fail
    refine (rInt_no a _ (h.out.below (alloc3 _ _ _ _))).mono ?_
    rintro e w' ⟨rfl, rfl⟩
    go_wp2_with fail
    exact bodyPost_ret (v := .tuple #[.agg #[.int .u8 k, .int .i64 0, .string ⟨#[]⟩], .int .i64 2]) (by simp [results, Try.results20, go_sem]) rfl ⟨rfl, by repeat' first | exact alloc3 _ _ _ _ | refine Below.setCell ?_ (by omega) _⟩
  · have e4 : (k : Int) % 4 = 1 := by omega
    clear h4
    have hcv := fun W => conv_own (OwnB.nil W 0)
    go_enter Try.func20, Try.ntmps20
    go_wp2_with fail
    refine (rBytes_no a _ (h.out.below (alloc3 _ _ _ _))).mono ?_
    rintro e w' ⟨rfl, rfl⟩
    go_wp2_with fail
    exact bodyPost_ret (v := .tuple #[.agg #[.int .u8 k, .int .i64 0, .string ⟨#[]⟩], .int .i64 2]) (by simp [results, Try.results20, go_sem]) rfl ⟨rfl, by repeat' first | exact alloc3 _ _ _ _ | refine Below.setCell ?_ (by omega) _⟩
  · have e4 : (k : Int) % 4 = 2 := by omega
    clear h4
    go_enter Try.func20, Try.ntmps20
    go_wp2_with fail
    refine (rText_no a _ (h.out.below (alloc3 _ _ _ _))).mono ?_
    rintro e w' ⟨rfl, rfl⟩
    go_wp2_with fail
    exact bodyPost_ret (v := .tuple #[.agg #[.int .u8 k, .int .i64 0, .string ⟨#[]⟩], .int .i64 2]) (by simp [results, Try.results20, go_sem]) rfl ⟨rfl, by repeat' first | exact alloc3 _ _ _ _ | refine Below.setCell ?_ (by omega) _⟩
  · have e4 : (k : Int) % 4 = 3 := by omega
    clear h4
    go_enter Try.func20, Try.ntmps20
    go_wp2_with fail
    refine (rFlag_no a _ (h.out.below (alloc3 _ _ _ _))).mono ?_
    rintro e w' ⟨rfl, rfl⟩
    go_wp2_with fail
    exact bodyPost_ret (v := .tuple #[.agg #[.int .u8 k, .int .i64 0, .string ⟨#[]⟩], .int .i64 2]) (by simp [results, Try.results20, go_sem]) rfl ⟨rfl, by repeat' first | exact alloc3 _ _ _ _ | refine Below.setCell ?_ (by omega) _⟩
end Go.Proofs.Ytdjppchcnbfcoaa
