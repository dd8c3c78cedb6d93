/-
  Of bits: contracts of the small functions: need, cleared, size, has, Places, New, put.
-/
import Derived.Test.YtpdffcopigajgaaKBase
import Derived.Test.YtpdffcopigajgaaKOps
namespace Go.Proofs.Ytpdffcopigajgaa
open Go.ChangeShapes Go.WideShapes Go.ChangeAt Go.RowKit Go.Deep
set_option linter.unusedVariables false

/-- What a call answers that makes bits. -/
def BPost (t : List Bool) (w : World) (e : Ending) (w' : World) : Prop := ∃ a c, e = .returned (.agg #[.int .i64 (t.length : Int), .slice a (pkB t).length c]) ∧ OwnB w' w.heap.size (.slice a (pkB t).length c) (pkB t) ∧ (a = none → c = 0) ∧ (pkB t).length ≤ c ∧ Below w.heap.size w w'
theorem need_any (n : Nat) (w : World) (h : n ≤ 9000000000000000000) : Calls Try.prog 61 #[.int .i64 n] w fun e w' => e = .returned (.int .i64 ((n + 7) / 8 : Nat)) ∧ w = w' := by
  go_enter Try.func61, Try.ntmps61
  go_wp2
  go_ret
  exact ⟨ret_int (by omega), rfl⟩
set_option maxHeartbeats 1000000 in
theorem cleared_any (n : Nat) (w : World) (h : n ≤ 1125899906842624) : Calls Try.prog 49 #[.int .i64 n] w (BPost (List.replicate n false) w) := by
  obtain ⟨m, hm⟩ : ∃ m, m = (n + 7) / 8 := ⟨_, rfl⟩
  have HN := Lib.hid (need_any n)
  rw [← hm] at HN
  have hmk := run_make_row' (P := Try.prog) 23 5 (.int .u8 0) 1 Try.underlying23 byteInfo rfl .i64 .i64 m (by omega) (by omega)
  have HO := Lib.hid (fun o => OwnB.made (w.alloc o) m (by omega))
  have HE : Hid (pkB (List.replicate n false) = List.replicate m 0) := by show _ = _; rw [pk_none, hm]
  have HL := Lib.hid (by omega : n ≤ 9000000000000000000)
  clear hm
  go_enter Try.func49, Try.ntmps49
  go_wp2_with (go_at_call 61; refine (HN.out _ HL.out).mono ?_; rintro e w' ⟨rfl, rfl⟩)
  refine bodyPost_ret (v := .agg #[.int .i64 n, .slice (some ⟨w.heap.size + 1, 0, none⟩) m m]) (by simp [results, Try.results49, go_sem]) rfl ?_
  unfold BPost
  rw [HE.out]
  simp only [List.length_replicate]
  refine ⟨_, m, rfl, ?_, (fun h => by cases h), Nat.le_refl _, ?_⟩
  · have h := HO.out (.cells #[.int .i64 n, .slice (some ⟨w.heap.size + 1, 0, none⟩) m m] 25)
    rw [World.size_alloc] at h
    exact h.low (by omega)
  · exact bt (alloc_below _ _) (alloc_below _ _)
theorem sz_int (N : Int) (l : List UInt8) : min (max N 0) (8 * (l.length : Int)) = (szB N l : Int) := by unfold szB; omega
theorem sz_int2 (N : Int) (l : List UInt8) : max 0 (min N (8 * (l.length : Int))) = (szB N l : Int) := by unfold szB; omega
set_option maxHeartbeats 1000000 in
theorem size_any (N : Int) (A : Option Addr) (c : Nat) (l : List UInt8) (w : World) (h : l.length ≤ 1000000000000000) : Calls Try.prog 51 #[.agg #[.int .i64 N, .slice A l.length c]] w fun e w' => e = .returned (.int .i64 (szB N l : Nat)) ∧ Below w.heap.size w w' := by
  have HS := Lib.hid (sz_int N l)
  go_enter Try.func51, Try.ntmps51
  go_wp2
  go_ret
  exact ⟨ret_int HS.out, alloc_below _ _⟩
set_option maxHeartbeats 1000000 in
theorem places_any (N : Int) (A : Option Addr) (c : Nat) (l : List UInt8) (w : World) (h : l.length ≤ 1000000000000000) : Calls Try.prog 52 #[.agg #[.int .i64 N, .slice A l.length c]] w fun e w' => e = .returned (.int .i64 (szB N l : Nat)) ∧ Below w.heap.size w w' := by
  have HS := Lib.hid (sz_int2 N l)
  go_enter Try.func52, Try.ntmps52
  go_wp2
  go_ret
  exact ⟨ret_int HS.out, alloc_below _ _⟩
def hasB (N : Int) (l : List UInt8) (i : Int) : Bool := decide (0 ≤ i) && decide (i < (szB N l : Int))
set_option maxHeartbeats 1000000 in
theorem has_any (N : Int) (A : Option Addr) (c : Nat) (l : List UInt8) (i : Int) (w : World) (h : l.length ≤ 1000000000000000) : Calls Try.prog 55 #[.agg #[.int .i64 N, .slice A l.length c], .int .i64 i] w fun e w' => e = .returned (.bool (hasB N l i)) ∧ Below w.heap.size w w' := by
  have HS := Lib.hid (fun W => size_any N A c l W h)
  have HB : Hid (hasB N l i = (decide (0 ≤ i) && decide (i < (szB N l : Int)))) := rfl
  clear h
  generalize szB N l = z at *
  generalize hasB N l i = b at *
  by_cases h0 : 0 ≤ i
  · go_enter Try.func55, Try.ntmps55
    go_wp2_with fail
    refine (HS.out _).mono ?_
    rintro e w1 ⟨rfl, hb⟩
    have HB1 := Lib.hid (bt (alloc_below _ _) hb)
    clear hb
    go_wp2_with fail
    go_ret
    exact ⟨ret_bool (by rw [HB.out]; simp [h0]), HB1.out⟩
  · go_enter Try.func55, Try.ntmps55
    go_wp2_with fail
    go_ret
    exact ⟨ret_bool (by rw [HB.out, decide_eq_false (by omega : ¬ 0 ≤ i)]; rfl), alloc_below _ _⟩
set_option maxHeartbeats 2000000 in
theorem put_true (N : Int) (B n cap : Nat) (a : Option Addr) (l : List UInt8) (i j k : Nat) (w : World) (hown : OwnB w B (.slice a n cap) l) (hn : n = l.length) (hi : i = 8 * j + k) (hk : k < 8) (hj : j < n) (hl : n ≤ 1000000000000000) :
    Calls Try.prog 50 #[.agg #[.int .i64 N, .slice a n cap], .int .i64 i, .bool true] w fun e w' => e = .returned (.tuple #[]) ∧ OwnB w' B (.slice a n cap) (putB l i true) ∧ Fr (fun k => ∃ b, a = some b ∧ k = b.block) w w' := by
  obtain ⟨g, rfl, hb, hg, hf, hc, hp⟩ := (hown.alloc (.cells #[.int .i64 N, .slice a n cap] 25)).put hn j hj
  have q1 : (i : Int) / 8 = (j : Int) := by omega
  have q2 : (i : Int) % 8 = (k : Int) := by omega
  have q3 : (0 : Int) ≤ (i : Int) := by omega
  have q4 : (j : Int) < (n : Int) := by omega
  have q5 : (k : Int) < 8 := by omega
  have HP : Hid (OwnB ((w.alloc (.cells #[.int .i64 N, .slice (some ⟨g, 0, none⟩) n cap] 25)).setCell ⟨g, j, none⟩ (.int .u8 ((setB (l.getD j 0) k true).toNat : Int))) B (.slice (some ⟨g, 0, none⟩) n cap) (putB l i true)) := by
    have h := (hp (setB (l.getD j 0) k true)).1
    have e : putB l i true = l.set j (setB (l.getD j 0) k true) := by
      unfold putB
      rw [show i / 8 = j by omega, show i % 8 = k by omega]
    rw [e]
    exact h
  have HS := Lib.hid (or_set (l.getD j 0) k hk)
  clear hi hn hown hp hk
  generalize (l.getD j 0) = ch at *
  go_enter Try.func50, Try.ntmps50
  go_wp2_with fail
  go_region
  go_end0
  rw [HS.out]
  refine ⟨rfl, HP.out.below ((Below.refl _ _).drew), ?_⟩
  exact ((Fr.alloc _ _ _).trans (Fr.set (F := fun k => ∃ b, some (⟨g, 0, none⟩ : Addr) = some b ∧ k = b.block) _ g j _ ⟨_, rfl, rfl⟩)).trans (Fr.drew _ _)
set_option maxHeartbeats 2000000 in
theorem put_false (N : Int) (B n cap : Nat) (a : Option Addr) (l : List UInt8) (i j k : Nat) (w : World) (hown : OwnB w B (.slice a n cap) l) (hn : n = l.length) (hi : i = 8 * j + k) (hk : k < 8) (hj : j < n) (hl : n ≤ 1000000000000000) :
    Calls Try.prog 50 #[.agg #[.int .i64 N, .slice a n cap], .int .i64 i, .bool false] w fun e w' => e = .returned (.tuple #[]) ∧ OwnB w' B (.slice a n cap) (putB l i false) ∧ Fr (fun k => ∃ b, a = some b ∧ k = b.block) w w' := by
  obtain ⟨g, rfl, hb, hg, hf, hc, hp⟩ := (hown.alloc (.cells #[.int .i64 N, .slice a n cap] 25)).put hn j hj
  have q1 : (i : Int) / 8 = (j : Int) := by omega
  have q2 : (i : Int) % 8 = (k : Int) := by omega
  have q3 : (0 : Int) ≤ (i : Int) := by omega
  have q4 : (j : Int) < (n : Int) := by omega
  have q5 : (k : Int) < 8 := by omega
  have HP : Hid (OwnB ((w.alloc (.cells #[.int .i64 N, .slice (some ⟨g, 0, none⟩) n cap] 25)).setCell ⟨g, j, none⟩ (.int .u8 ((setB (l.getD j 0) k false).toNat : Int))) B (.slice (some ⟨g, 0, none⟩) n cap) (putB l i false)) := by
    have h := (hp (setB (l.getD j 0) k false)).1
    have e : putB l i false = l.set j (setB (l.getD j 0) k false) := by
      unfold putB
      rw [show i / 8 = j by omega, show i % 8 = k by omega]
    rw [e]
    exact h
  have HS := Lib.hid (clear_set (l.getD j 0) k hk)
  clear hi hn hown hp hk
  generalize (l.getD j 0) = ch at *
  go_enter Try.func50, Try.ntmps50
  go_wp2_with fail
  go_region
  go_end0
  rw [HS.out]
  refine ⟨rfl, HP.out.below ((Below.refl _ _).drew), ?_⟩
  exact ((Fr.alloc _ _ _).trans (Fr.set (F := fun k => ∃ b, some (⟨g, 0, none⟩ : Addr) = some b ∧ k = b.block) _ g j _ ⟨_, rfl, rfl⟩)).trans (Fr.drew _ _)
theorem put_any (N : Int) (B n cap : Nat) (a : Option Addr) (l : List UInt8) (i : Nat) (y : Bool) (w : World) (hown : OwnB w B (.slice a n cap) l) (hn : n = l.length) (hi : i < 8 * n) (hl : n ≤ 1000000000000000) :
    Calls Try.prog 50 #[.agg #[.int .i64 N, .slice a n cap], .int .i64 i, .bool y] w fun e w' => e = .returned (.tuple #[]) ∧ OwnB w' B (.slice a n cap) (putB l i y) ∧ Fr (fun k => ∃ b, a = some b ∧ k = b.block) w w' := by
  cases y
  · exact put_false N B n cap a l i (i / 8) (i % 8) w hown hn (by omega) (by omega) (by omega) hl
  · exact put_true N B n cap a l i (i / 8) (i % 8) w hown hn (by omega) (by omega) (by omega) hl
end Go.Proofs.Ytpdffcopigajgaa
