/-
  Pieces: what is written and what is read of them.
-/
import Derived.Test.YtdjppchcnbfcoaaCRdr3
import Derived.Test.YtdjppchcnbfcoaaCRef2
namespace Go.Proofs.Ytdjppchcnbfcoaa
open Go.ChangeShapes Go.WideShapes Go.ChangeAt Go.RowKit
set_option linter.unusedVariables false

theorem bytes_conv2 (l : List UInt8) (w : World) (H : Nat) (hH : w.heap.size = H) : ∃ (WA : World) (cap : Nat), (convert 9 26 (.string ⟨l.toArray⟩)).run Try.prog w = .ok (.slice (some ⟨H, 0, none⟩) l.length cap) WA ∧ BRd WA (some ⟨H, 0, none⟩) l ∧ Below w.heap.size w WA ∧ H < WA.heap.size := by
  subst hH
  exact bytes_conv l w
structure PR where
  k : Nat
  n : Int
  s : List UInt8
def PR.val (p : PR) : Value := .agg #[.int .u8 p.k, .int .i64 p.n, .string ⟨p.s.toArray⟩]
structure PR.Ok (p : PR) : Prop where
  k : p.k < 256
  n : In8 p.n
  s : p.s.length ≤ 140737488351232
/-- A piece's form. -/
def PR.form (p : PR) : List UInt8 := if p.k % 4 = 0 then encI p.n else if p.k % 4 = 3 then encI (p.n % 2) else encB p.s
theorem and_one (n : Int) : bits .and .i64 n 1 = n % 2 := by
  show IntKind.i64.wrap ((BitVec.ofInt 64 n &&& BitVec.ofInt 64 1).toNat : Int) = _
  rw [BitVec.toNat_and, BitVec.toNat_ofInt]
  have h1 : (BitVec.ofInt 64 1).toNat = 1 := by decide
  rw [h1, Nat.and_one_is_mod]
  simp [IntKind.wrap, IntKind.bits, IntKind.signed]
  omega
theorem pr_box (w : World) (a b c : Value) (T : TypeId) : (w.alloc (.cells #[a, b, c] T)).cell? ⟨w.heap.size, 0, none⟩ = some a ∧ (w.alloc (.cells #[a, b, c] T)).cell? ⟨w.heap.size, 1, none⟩ = some b ∧ (w.alloc (.cells #[a, b, c] T)).cell? ⟨w.heap.size, 2, none⟩ = some c :=
  ⟨World.cell?_alloc_at _ _ _ _ rfl, World.cell?_alloc_at _ _ _ _ rfl, World.cell?_alloc_at _ _ _ _ rfl⟩

set_option maxHeartbeats 3200000 in
theorem to_any (p : PR) (hp : p.Ok) (w : World) (B g : Nat) (v : Value) (l : List UInt8) (h : WrS w B g v l) (hl : l.length ≤ 1048576) (hB : B ≤ w.heap.size) :
    Calls Try.prog 15 #[p.val, .pointer (some ⟨g, 0, none⟩)] w (WPost B g v l p.form w) := by
  obtain ⟨k, n, s⟩ := p
  obtain ⟨hk, hn, hs⟩ := hp
  simp only at hk hn hs
  unfold PR.val PR.form
  simp only
  have hA := alloc_below w (.cells #[.int .u8 (k : Int), .int .i64 n, .string ⟨s.toArray⟩] 28)
  have HW := Lib.hid (h.below hA)
  have HA := Lib.hid hA
  have hB2 : B ≤ (w.alloc (.cells #[.int .u8 (k : Int), .int .i64 n, .string ⟨s.toArray⟩] 28)).heap.size := Nat.le_trans hB hA.size
  have HB2 := Lib.hid hB2
  clear h hA hB2
  have hk0 : (0 : Int) ≤ (k : Int) := by omega
  have hk4 : k % 4 < 4 := Nat.mod_lt _ (by decide)
  rcases (by omega : k % 4 = 0 ∨ k % 4 = 1 ∨ k % 4 = 2 ∨ k % 4 = 3) with h4 | h4 | h4 | h4
  · have e4 : (k : Int) % 4 = 0 := by omega
    have HF : Hid ((if k % 4 = 0 then encI n else if k % 4 = 3 then encI (n % 2) else encB s) = encI n) := if_pos h4
    rw [HF.out]
    clear h4 hk4
    have HC := Lib.hid (wInt_any _ B g v l n hn HW.out hl HB2.out)
    go_enter Try.func15, Try.ntmps15
    go_wp2_with fail
    refine HC.out.mono ?_
    rintro e w1 ⟨v1, rfl, h1, h2⟩
    have H1 := Lib.hid h1
    have H2 := Lib.hid h2
    clear h1 h2
    go_wp2_with fail
    go_ret
    exact ⟨v1, rfl, H1.out, (WGr.of_below HA.out).trans H2.out⟩
  · have e4 : (k : Int) % 4 = 1 := by omega
    have HF : Hid ((if k % 4 = 0 then encI n else if k % 4 = 3 then encI (n % 2) else encB s) = encB s) := by show _ = _; rw [if_neg (by omega), if_neg (by omega)]
    rw [HF.out]
    clear h4 hk4
    obtain ⟨WA, cap, hconv, hrd, hb, hlt⟩ := bytes_conv2 s (w.alloc (.cells #[.int .u8 (k : Int), .int .i64 n, .string ⟨s.toArray⟩] 28)) (w.heap.size + 1) (by simp)
    have hd : Apart (some ⟨w.heap.size + 1, 0, none⟩) v := fun a e hv => by
      obtain rfl := Option.some.inj e
      have := (World.ownsRow.lt HW.out.own _ hv).2
      simp at this
    have HC := Lib.hid (wBytes_any WA B g v l _ cap s hrd hd (fun e => by cases e) (by omega) (HW.out.below hb) hl (Nat.le_trans HB2.out hb.size))
    have HBB := Lib.hid hb
    clear hrd hb hlt hd
    go_enter Try.func15, Try.ntmps15
    go_wp2_with fail
    refine HC.out.mono ?_
    rintro e w1 ⟨v1, rfl, h1, h2⟩
    have H1 := Lib.hid h1
    have H2 := Lib.hid h2
    clear h1 h2
    go_wp2_with fail
    go_ret
    exact ⟨v1, rfl, H1.out, (WGr.of_below HA.out).trans ((WGr.of_below HBB.out).trans H2.out)⟩
  · have e4 : (k : Int) % 4 = 2 := by omega
    have HF : Hid ((if k % 4 = 0 then encI n else if k % 4 = 3 then encI (n % 2) else encB s) = encB s) := by show _ = _; rw [if_neg (by omega), if_neg (by omega)]
    rw [HF.out]
    clear h4 hk4
    have HC := Lib.hid (wText_any _ B g v l s (by omega) HW.out hl HB2.out)
    go_enter Try.func15, Try.ntmps15
    go_wp2_with fail
    refine HC.out.mono ?_
    rintro e w1 ⟨v1, rfl, h1, h2⟩
    have H1 := Lib.hid h1
    have H2 := Lib.hid h2
    clear h1 h2
    go_wp2_with fail
    go_ret
    exact ⟨v1, rfl, H1.out, (WGr.of_below HA.out).trans H2.out⟩
  · have e4 : (k : Int) % 4 = 3 := by omega
    have HF : Hid ((if k % 4 = 0 then encI n else if k % 4 = 3 then encI (n % 2) else encB s) = encI (n % 2)) := by show _ = _; rw [if_neg (by omega), if_pos h4]
    rw [HF.out]
    clear h4 hk4
    have ha := and_one n
    rcases (by omega : n % 2 = 0 ∨ n % 2 = 1) with h2 | h2
    · have HC := Lib.hid (wFlag_any _ B g v l false HW.out hl HB2.out)
      simp only [Bool.false_eq_true, if_false] at HC
      rw [h2] at ha
      rw [h2]
      clear h2
      go_enter Try.func15, Try.ntmps15
      go_wp2_with fail
      refine HC.out.mono ?_
      rintro e w1 ⟨v1, rfl, h1, h2⟩
      have H1 := Lib.hid h1
      have H2 := Lib.hid h2
      clear h1 h2
      go_wp2_with fail
      go_ret
      exact ⟨v1, rfl, H1.out, (WGr.of_below HA.out).trans H2.out⟩
    · have HC := Lib.hid (wFlag_any _ B g v l true HW.out hl HB2.out)
      simp only [if_true] at HC
      rw [h2] at ha
      rw [h2]
      clear h2
      go_enter Try.func15, Try.ntmps15
      go_wp2_with fail
      refine HC.out.mono ?_
      rintro e w1 ⟨v1, rfl, h1, h2⟩
      have H1 := Lib.hid h1
      have H2 := Lib.hid h2
      clear h1 h2
      go_wp2_with fail
      go_ret
      exact ⟨v1, rfl, H1.out, (WGr.of_below HA.out).trans H2.out⟩
set_option maxHeartbeats 3200000 in
theorem form_any (p : PR) (hp : p.Ok) (w : World) (hlim : p.form.length ≤ 140737488355328) :
    Calls Try.prog 14 #[p.val] w (Fresh p.form w) := by
  obtain ⟨k, n, s⟩ := p
  obtain ⟨hk, hn, hs⟩ := hp
  unfold PR.form at hlim
  simp only at hk hn hs hlim
  unfold PR.val PR.form
  simp only
  have hA := alloc_below w (.cells #[.int .u8 (k : Int), .int .i64 n, .string ⟨s.toArray⟩] 28)
  have HA := Lib.hid hA
  have hsz := hA.size
  clear hA
  have hk0 : (0 : Int) ≤ (k : Int) := by omega
  have hk4 : k % 4 < 4 := Nat.mod_lt _ (by decide)
  rcases (by omega : k % 4 = 0 ∨ k % 4 = 3 ∨ (k % 4 = 1 ∨ k % 4 = 2)) with h4 | h4 | h4
  · have e4 : (k : Int) % 4 = 0 := by omega
    have HF : Hid ((if k % 4 = 0 then encI n else if k % 4 = 3 then encI (n % 2) else encB s) = encI n) := if_pos h4
    rw [HF.out] at hlim ⊢
    clear h4 hk4
    have HC := Lib.hid (refInt_any n (w.alloc (.cells #[.int .u8 (k : Int), .int .i64 n, .string ⟨s.toArray⟩] 28)) hn)
    go_enter Try.func14, Try.ntmps14
    go_wp2_with fail
    refine HC.out.mono ?_
    rintro e w1 ⟨v1, rfl, h1, h2⟩
    have H1 := Lib.hid (h1.base hsz)
    have H2 := Lib.hid h2
    clear h1 h2
    go_wp2_with fail
    go_ret
    exact ⟨v1, rfl, H1.out, bt HA.out H2.out⟩
  · have e4 : (k : Int) % 4 = 3 := by omega
    have HF : Hid ((if k % 4 = 0 then encI n else if k % 4 = 3 then encI (n % 2) else encB s) = encI (n % 2)) := by show _ = _; rw [if_neg (by omega), if_pos h4]
    rw [HF.out] at hlim ⊢
    clear h4 hk4
    have ha := and_one n
    have HC := Lib.hid (refInt_any (n % 2) (w.alloc (.cells #[.int .u8 (k : Int), .int .i64 n, .string ⟨s.toArray⟩] 28)) (by unfold In8; omega))
    go_enter Try.func14, Try.ntmps14
    go_wp2_with fail
    refine HC.out.mono ?_
    rintro e w1 ⟨v1, rfl, h1, h2⟩
    have H1 := Lib.hid (h1.base hsz)
    have H2 := Lib.hid h2
    clear h1 h2
    go_wp2_with fail
    go_ret
    exact ⟨v1, rfl, H1.out, bt HA.out H2.out⟩
  · have HF : Hid ((if k % 4 = 0 then encI n else if k % 4 = 3 then encI (n % 2) else encB s) = encB s) := by show _ = _; rw [if_neg (by omega), if_neg (by omega)]
    rw [HF.out] at hlim ⊢
    have e40 : ((k : Int) % 4 == 0) = false := by simp; omega
    have e43 : ((k : Int) % 4 == 3) = false := by simp; omega
    clear h4 hk4
    obtain ⟨WA, cap, hconv, hrd, hb, hlt⟩ := bytes_conv2 s (w.alloc (.cells #[.int .u8 (k : Int), .int .i64 n, .string ⟨s.toArray⟩] 28)) (w.heap.size + 1) (by simp)
    have HC := Lib.hid (refBytes_any _ cap s WA hrd hlim)
    have HBB := Lib.hid hb
    have hsz2 := Nat.le_trans hsz hb.size
    clear hrd hb hlt
    go_enter Try.func14, Try.ntmps14
    go_wp2_with fail
    refine HC.out.mono ?_
    rintro e w1 ⟨v1, rfl, h1, h2⟩
    have H1 := Lib.hid (h1.base hsz2)
    have H2 := Lib.hid h2
    clear h1 h2
    go_wp2_with fail
    go_ret
    exact ⟨v1, rfl, H1.out, bt (bt HA.out HBB.out) H2.out⟩
end Go.Proofs.Ytdjppchcnbfcoaa
