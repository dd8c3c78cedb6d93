/-
  Contracts of codec.Writer: what writes.
-/
import Derived.Test.YtdjppchcnbfcoaaCWr
namespace Go.Proofs.Ytdjppchcnbfcoaa
open Go.ChangeShapes Go.WideShapes Go.ChangeAt Go.RowKit
set_option linter.unusedVariables false

/-- What a writer holds behind a call, and what it answers. -/
def putL (l x : List UInt8) : List UInt8 := if l.length + x.length ≤ 1048576 then l ++ x else l
def putE (l x : List UInt8) : Int := if l.length + x.length ≤ 1048576 then 0 else 3
def WPost (B g : Nat) (v : Value) (l x : List UInt8) (w : World) (e : Ending) (w' : World) : Prop := ∃ v', e = .returned (.int .i64 (putE l x)) ∧ WrS w' B g v' (putL l x) ∧ WGr w w' g v v'
theorem putL_len {l x : List UInt8} (h : l.length ≤ 1048576) : (putL l x).length ≤ 1048576 := by
  unfold putL
  split
  · rw [List.length_append]; omega
  · exact h
theorem WrS.below {w w' : World} {B g : Nat} {v : Value} {l : List UInt8} (h : WrS w B g v l) (hb : Below w.heap.size w w') : WrS w' B g v l := by
  have hg : g < w.heap.size := (Array.getElem?_eq_some_iff.1 h.box).1
  exact ⟨h.low, (hb.block g hg).trans h.box, h.own.below hb⟩
theorem WGr.of_below {w w' : World} {g : Nat} {v : Value} (hb : Below w.heap.size w w') : WGr w w' g v v := ⟨hb.os, hb.tape, hb.output, hb.size, fun k hk _ _ => hb.block k hk, .inl rfl⟩
theorem WGr.trans {w w1 w2 : World} {g : Nat} {v v1 v2 : Value} (h : WGr w w1 g v v1) (k : WGr w1 w2 g v1 v2) : WGr w w2 g v v2 := by
  have hs := h.size
  refine ⟨k.os.trans h.os, k.tape.trans h.tape, k.output.trans h.output, Nat.le_trans hs k.size, fun j hj hg hr => (k.block j (by omega) hg ?_).trans (h.block j hj hg hr), ?_⟩
  · rcases h.at_ with e | e
    · rw [e]; exact hr
    · intro e'
      have := e j e'
      omega
  · rcases k.at_ with e | e
    · rcases h.at_ with e' | e'
      · exact .inl (e.trans e')
      · exact .inr fun j hj => e' j (e ▸ hj)
    · exact .inr fun j hj => Nat.le_trans hs (e j hj)
theorem WrS.lt {w : World} {B g : Nat} {v : Value} {l : List UInt8} (h : WrS w B g v l) : g < w.heap.size := (Array.getElem?_eq_some_iff.1 h.box).1
theorem WrS.ne {w : World} {B g : Nat} {v : Value} {l : List UInt8} (h : WrS w B g v l) : v.ownBlock ≠ some g := by
  intro e
  obtain ⟨c, f, h1⟩ := own_kind h.own g e
  rw [h.box] at h1
  simp at h1
/-- Behind a growth of what the writer has, and the store of it. -/
theorem WrS.stored {w w1 : World} {B g : Nat} {v v1 : Value} {l l1 : List UInt8} (h : WrS w B g v l) (hown : OwnB w1 B v1 l1) (hg : Grw w w1 v v1) :
    WrS (w1.setCell ⟨g, 1, none⟩ v1) B g v1 l1 ∧ WGr w (w1.setCell ⟨g, 1, none⟩ v1) g v v1 := by
  have hlt := h.lt
  have hbox : w1.heap[g]? = some (.cells #[.bool true, v] 67 (0, 0)) := (hg.old hlt h.ne).trans h.box
  have hset : (w1.setCell ⟨g, 1, none⟩ v1).heap[g]? = some (.cells #[.bool true, v1] 67 (0, 0)) := by
    simp only [World.setCell, Array.getElem?_modify, if_pos, hbox, Option.map_some]
    rfl
  have hne : v1.ownBlock ≠ some g := by
    intro e
    obtain ⟨c, f, h1⟩ := own_kind hown g e
    rw [hbox] at h1
    simp at h1
  refine ⟨⟨h.low, hset, hown.same fun k hk hk2 => Below.heap_setCell _ _ _ _ (fun e => hne (by rw [hk2, e]))⟩, ⟨hg.by_.os, hg.by_.tape, hg.by_.output, by simpa [World.setCell] using hg.by_.size, fun k hk hkg hkv => ?_, hg.at_⟩⟩
  rw [Below.heap_setCell _ _ _ _ hkg]
  exact hg.old hk hkv

set_option maxHeartbeats 1600000 in
theorem wInt_any (w : World) (B g : Nat) (v : Value) (l : List UInt8) (n : Int) (hn : In8 n) (h : WrS w B g v l) (hl : l.length ≤ 1048576) (hB : B ≤ w.heap.size) :
    Calls Try.prog 40 #[.pointer (some ⟨g, 0, none⟩), .int .i64 n] w (WPost B g v l (encI n) w) := by
  have HS := Lib.hid (fun W => size_any n W hn)
  have h9 : (encI n).length ≤ 9 := by
    rw [enc_len]
    unfold In8 at hn
    have key : ∀ u : Nat, u < 9223372036854775808 → (upF u).length ≤ 9 := fun u hu => by
      by_cases h : u < 120
      · rw [up_small h]; simp
      · rw [up_big h, List.length_cons, List.length_reverse]
        have := up_len8 hu
        omega
    split
    · exact key _ (by omega)
    · exact key _ (by omega)
  have HR : Hid (Calls Try.prog 59 #[.pointer (some ⟨g, 0, none⟩), .int .i64 (encI n).length] w fun e w' => e = .returned (.int .i64 (putE l (encI n))) ∧ w = w') := room_any w B g v l _ h hl (by omega)
  have HA := Lib.hid (fun W hW1 => appendInt_any B v l n W hn hW1)
  have HW := Lib.hid h
  obtain ⟨c0, c1, f0, f1⟩ := box_cell h.box
  by_cases hc : l.length + (encI n).length ≤ 1048576
  · have HE : Hid (putE l (encI n) = 0) := if_pos hc
    have HL : Hid (putL l (encI n) = l ++ encI n) := if_pos hc
    rw [HE.out] at HR
    clear h hc
    go_enter Try.func40, Try.ntmps40
    go_wp2_with (first | (go_at_call 26; refine (HS.out _).mono ?_; rintro e w' ⟨rfl, rfl⟩) | (go_at_call 59; refine (HR.out).mono ?_; rintro e w' ⟨rfl, rfl⟩))
    refine (HA.out _ HW.out.own hB (by omega)).mono ?_
    rintro e w1 ⟨v1, rfl, hown1, hg1⟩
    obtain ⟨a1, cap1, rfl, _, _⟩ := hown1.slice
    obtain ⟨hs, hgr⟩ := HW.out.stored hown1 hg1
    have HS1 := Lib.hid hs
    have HG1 := Lib.hid hgr
    obtain ⟨d0, d1, k0, k1⟩ := box_cell (t := 67) ((hg1.old HW.out.lt HW.out.ne).trans HW.out.box)
    clear hs hgr hown1 hg1 c0 c1 f0 f1
    generalize (l ++ encI n).length = m at *
    go_wp2_with fail
    go_ret
    exact ⟨_, ret_int HE.out.symm, by rw [HL.out]; exact HS1.out, HG1.out⟩
  · have HE : Hid (putE l (encI n) = 3) := if_neg hc
    have HL : Hid (putL l (encI n) = l) := if_neg hc
    rw [HE.out] at HR
    clear h hc
    go_enter Try.func40, Try.ntmps40
    go_wp2_with (first | (go_at_call 26; refine (HS.out _).mono ?_; rintro e w' ⟨rfl, rfl⟩) | (go_at_call 59; refine (HR.out).mono ?_; rintro e w' ⟨rfl, rfl⟩))
    go_ret
    exact ⟨v, ret_int HE.out.symm, by rw [HL.out]; exact HW.out, WGr.of_below (Below.refl _ _)⟩

set_option maxHeartbeats 1600000 in
theorem wBytes_any (w : World) (B g : Nat) (v : Value) (l : List UInt8) (A : Option Addr) (c : Nat) (s : List UInt8) (hA : BRd w A s) (hd : Apart A v) (hN : A = none → c = 0) (hsl : s.length ≤ 140737488355328) (h : WrS w B g v l) (hl : l.length ≤ 1048576) (hB : B ≤ w.heap.size) :
    Calls Try.prog 38 #[.pointer (some ⟨g, 0, none⟩), .slice A s.length c] w (WPost B g v l (encB s) w) := by
  have HS := Lib.hid (sizeBytes_any A c s w hA hN hsl)
  have h9 : (encB s).length ≤ 4611686018427387904 := by
    rw [encB_len]
    have : s.count 0 ≤ s.length := List.count_le_length
    omega
  have HR := Lib.hid (fun W (hW : WrS W B g v l) => show Calls Try.prog 59 #[.pointer (some ⟨g, 0, none⟩), .int .i64 (encB s).length] W fun e w' => e = .returned (.int .i64 (putE l (encB s))) ∧ W = w' from room_any W B g v l _ hW hl h9)
  have HA := Lib.hid (fun W (hW : BRd W A s) hW1 hW2 hW3 => appendBytes_any B v l A c s W hW hd hW1 hW2 hW3)
  have HW := Lib.hid h
  have HAA := Lib.hid hA
  have HD := Lib.hid hd
  by_cases hc : l.length + (encB s).length ≤ 1048576
  · have HE : Hid (putE l (encB s) = 0) := if_pos hc
    have HL : Hid (putL l (encB s) = l ++ encB s) := if_pos hc
    simp only [HE.out] at HR
    have HC := Lib.hid hc
    clear h hc hA hd hN
    go_enter Try.func38, Try.ntmps38
    go_wp2_with fail
    refine HS.out.mono ?_
    rintro e w1 ⟨rfl, hb1⟩
    have HW1 := Lib.hid (HW.out.below hb1)
    have HA1 := Lib.hid (HAA.out.below hb1)
    have HB1 := Lib.hid hb1
    have hBr : B ≤ w1.heap.size := Nat.le_trans hB hb1.size
    obtain ⟨c0, c1, f0, f1⟩ := box_cell HW1.out.box
    clear hb1
    go_wp2_with fail
    refine (HR.out _ HW1.out).mono ?_
    rintro e w' ⟨rfl, rfl⟩
    go_wp2_with fail
    refine (HA.out _ HA1.out HW1.out.own hBr (by have := HC.out; omega)).mono ?_
    rintro e w2 ⟨v1, rfl, hown1, hg1⟩
    obtain ⟨a1, cap1, rfl, _, _⟩ := hown1.slice
    obtain ⟨hs, hgr⟩ := HW1.out.stored hown1 hg1
    have HS1 := Lib.hid hs
    have HG1 := Lib.hid hgr
    obtain ⟨d0, d1, k0, k1⟩ := box_cell (t := 67) ((hg1.old HW1.out.lt HW1.out.ne).trans HW1.out.box)
    clear hs hgr hown1 hg1 c0 c1 f0 f1
    generalize (l ++ encB s).length = m at *
    go_wp2_with fail
    go_ret
    exact ⟨_, ret_int HE.out.symm, by rw [HL.out]; exact HS1.out, (WGr.of_below HB1.out).trans HG1.out⟩
  · have HE : Hid (putE l (encB s) = 3) := if_neg hc
    have HL : Hid (putL l (encB s) = l) := if_neg hc
    simp only [HE.out] at HR
    clear h hc hA hd hN
    go_enter Try.func38, Try.ntmps38
    go_wp2_with fail
    refine HS.out.mono ?_
    rintro e w1 ⟨rfl, hb1⟩
    have HW1 := Lib.hid (HW.out.below hb1)
    have HB1 := Lib.hid hb1
    clear hb1
    go_wp2_with fail
    refine (HR.out _ HW1.out).mono ?_
    rintro e w' ⟨rfl, rfl⟩
    go_wp2_with fail
    go_ret
    exact ⟨v, ret_int HE.out.symm, by rw [HL.out]; exact HW1.out, WGr.of_below HB1.out⟩
theorem flagIn (b : Bool) : In8 (if b then 1 else 0) := by cases b <;> (unfold In8; decide)
set_option maxHeartbeats 1600000 in
theorem wFlag_any (w : World) (B g : Nat) (v : Value) (l : List UInt8) (b : Bool) (h : WrS w B g v l) (hl : l.length ≤ 1048576) (hB : B ≤ w.heap.size) :
    Calls Try.prog 42 #[.pointer (some ⟨g, 0, none⟩), .bool b] w (WPost B g v l (encI (if b then 1 else 0)) w) := by
  have HI := Lib.hid (fun n hn => wInt_any w B g v l n hn h hl hB)
  clear h
  cases b
  · simp only [Bool.false_eq_true, if_false]
    go_enter Try.func42, Try.ntmps42
    go_wp2_with fail
    refine (HI.out 0 (by unfold In8; decide)).mono ?_
    rintro e w1 ⟨v1, rfl, h1, h2⟩
    have H1 := Lib.hid h1
    have H2 := Lib.hid h2
    clear h1 h2
    go_wp2_with fail
    go_ret
    exact ⟨v1, rfl, H1.out, H2.out⟩
  · simp only [if_true]
    go_enter Try.func42, Try.ntmps42
    go_wp2_with fail
    refine (HI.out 1 (by unfold In8; decide)).mono ?_
    rintro e w1 ⟨v1, rfl, h1, h2⟩
    have H1 := Lib.hid h1
    have H2 := Lib.hid h2
    clear h1 h2
    go_wp2_with fail
    go_ret
    exact ⟨v1, rfl, H1.out, H2.out⟩
end Go.Proofs.Ytdjppchcnbfcoaa
