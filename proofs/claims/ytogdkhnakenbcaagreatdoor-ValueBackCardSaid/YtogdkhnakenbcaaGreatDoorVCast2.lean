/-
  Casts: letters, TRUE and FALSE.
  Casts: the document's upper.
-/
import Derived.Test.YtogdkhnakenbcaaGreatDoorParse
import Derived.Laws.IdiomStrings
import Derived.RowKit3
import Derived.Test.YtogdkhnakenbcaaGreatDoorWide4
import Derived.Below
namespace Go.Proofs.YtogdkhnakenbcaaGreatDoor
section

open Go.ChangeShapes Go.WideShapes Go.ChangeAt Go.RowKit
set_option linter.unusedVariables false

/-- A letter, and a text, with capitals. -/
def upB (c : UInt8) : UInt8 := if 97 ≤ c.toNat ∧ c.toNat ≤ 122 then UInt8.ofNat (c.toNat - 32) else c
def upL (l : List UInt8) : List UInt8 := l.map upB
theorem upB_low {c : UInt8} (h1 : (97 : Int) ≤ (c.toNat : Int)) (h2 : (c.toNat : Int) ≤ 122) : ((upB c).toNat : Int) = (c.toNat : Int) - 32 := by
  unfold upB
  rw [if_pos (by omega), UInt8.toNat_ofNat']
  omega
theorem upB_not {c : UInt8} (h : ¬ ((97 : Int) ≤ (c.toNat : Int) ∧ (c.toNat : Int) ≤ 122)) : upB c = c := if_neg (by omega)
theorem u8_eq {a b : UInt8} (h : (a.toNat : Int) = (b.toNat : Int)) : a = b := UInt8.toNat_inj.1 (by omega)

set_option maxHeartbeats 1600000 in
theorem sameLetters_any (l cap : List UInt8) (b : Bool) (hb : b = true ↔ upL l = cap) (hl : l.length ≤ 9223372036854775807) (hc : cap.length ≤ 9) (w : World) :
    Calls Tryz.prog 100 #[.string ⟨l.toArray⟩, .string ⟨cap.toArray⟩] w fun e w' => e = .returned (.bool b) ∧ w = w' := by
  by_cases hlen : l.length = cap.length
  · go_enter Tryz.func100, Tryz.ntmps100
    go_wp2
    go_loop [14] (fun i => ∃ k : Nat, k ≤ cap.length ∧ i = .int .i64 k ∧ ∀ j (h : j < l.length) (h' : j < cap.length), j < k → upB l[j] = cap[j]) (fun i => cap.length - (intOf i).toNat)
    case atStart => exact ⟨0, Nat.zero_le _, rfl, fun j _ _ h => by omega⟩
    case round =>
      obtain ⟨k, hk, rfl, hd⟩ := hrel
      by_cases hlt0 : k < cap.length
      · have hlt : k < l.length := by omega
        have hs : k < (⟨l.toArray⟩ : ByteArray).size := by simpa [ByteArray.size] using hlt
        have hs2 : k < (⟨cap.toArray⟩ : ByteArray).size := by simpa [ByteArray.size, ← hlen] using hlt
        have HD := Lib.hid hd
        have hkc : k < cap.length := by omega
        have HF := Lib.hid (fun (h : ¬ upB l[k] = cap[k]) => show b = false by
          cases hbb : b with
          | false => rfl
          | true =>
            have h1 := hb.1 hbb
            subst h1
            exact absurd (by simp [upL]) h)
        have HN := Lib.hid (fun (h : upB l[k] = cap[k]) j (hj : j < l.length) (hj' : j < cap.length) (h1 : j < k + 1) => show upB l[j] = cap[j] by
          rcases Nat.lt_or_ge j k with h2 | h2
          · exact hd j hj hj' h2
          · obtain rfl : j = k := by omega
            exact h)
        have g1 : ((⟨l.toArray⟩ : ByteArray)[k].toNat : Int) = (l[k].toNat : Int) := rfl
        have g2 : ((⟨cap.toArray⟩ : ByteArray)[k].toNat : Int) = (cap[k].toNat : Int) := rfl
        have hx1 : (0 : Int) ≤ (k : Int) := by omega
        have hx3 : (k : Int) < (cap.length : Int) := by omega
        generalize l[k] = c at *
        generalize cap[k] = d at *
        have hcu := c.toNat_lt
        clear hd
        by_cases c0 : (97 : Int) ≤ (c.toNat : Int)
        · by_cases c1 : (c.toNat : Int) ≤ 122
          · have hu := upB_low c0 c1
            by_cases he : (c.toNat : Int) - 32 = (d.toNat : Int)
            · have HE := Lib.hid (HN.out (u8_eq (hu.trans he)))
              clear HF HN hu
              go_wp2
              go_round
              case rel => exact ⟨k + 1, by omega, by go_num, HE.out⟩
              case measure => simp [intOf]; omega
            · have HE := Lib.hid (HF.out (fun h => he (by rw [← h, hu])))
              clear HF HN hu
              go_wp2
              go_ret
              exact ⟨by rw [HE.out]; rfl, rfl⟩
          · have hu := upB_not (c := c) (by omega)
            by_cases he : (c.toNat : Int) = (d.toNat : Int)
            · have HE := Lib.hid (HN.out (hu.trans (u8_eq he)))
              clear HF HN hu
              go_wp2
              go_round
              case rel => exact ⟨k + 1, by omega, by go_num, HE.out⟩
              case measure => simp [intOf]; omega
            · have HE := Lib.hid (HF.out (fun h => he (by rw [← h, hu])))
              clear HF HN hu
              go_wp2
              go_ret
              exact ⟨by rw [HE.out]; rfl, rfl⟩
        · have hu := upB_not (c := c) (by omega)
          by_cases he : (c.toNat : Int) = (d.toNat : Int)
          · have HE := Lib.hid (HN.out (hu.trans (u8_eq he)))
            clear HF HN hu
            go_wp2
            go_round
            case rel => exact ⟨k + 1, by omega, by go_num, HE.out⟩
            case measure => simp [intOf]; omega
          · have HE := Lib.hid (HF.out (fun h => he (by rw [← h, hu])))
            clear HF HN hu
            go_wp2
            go_ret
            exact ⟨by rw [HE.out]; rfl, rfl⟩
      · have HE : Hid (b = true) := by
          show _ = _
          refine hb.2 ?_
          refine List.ext_getElem (by simpa [upL] using hlen) fun j h1 h2 => ?_
          simp only [upL, List.getElem_map]
          exact hd j (by simpa [upL] using h1) h2 (by simp [upL] at h1; omega)
        clear hd
        go_wp2
        go_ret
        exact ⟨by rw [HE.out]; rfl, rfl⟩
  · have HE : Hid (b = false) := by
      show _ = _
      cases hbb : b with
      | false => rfl
      | true => exact absurd (by rw [← hb.1 hbb]; simp [upL]) hlen
    have hli : ¬ (l.length : Int) = (cap.length : Int) := by omega
    go_enter Tryz.func100, Tryz.ntmps100
    go_wp2
    go_ret
    exact ⟨by rw [HE.out]; rfl, rfl⟩

/-- TRUE and FALSE. -/
def litT : List UInt8 := [84, 82, 85, 69]
def litF : List UInt8 := [70, 65, 76, 83, 69]
def bV (l : List UInt8) : Int := if upL l = litT then 1 else 0
def bE (l : List UInt8) : Int := if upL l = litT then 0 else if upL l = litF then 0 else 22
set_option maxHeartbeats 1600000 in
theorem parseBool_any (l : List UInt8) (hl : l.length ≤ 9223372036854775807) (w : World) :
    Calls Tryz.prog 72 #[.string ⟨l.toArray⟩] w fun e w' => e = .returned (.tuple #[.int .i64 (bV l), .int .i64 (bE l)]) ∧ w = w' := by
  by_cases h1 : upL l = litT
  · obtain ⟨e1, e2⟩ : bV l = 1 ∧ bE l = 0 := ⟨if_pos h1, if_pos h1⟩
    rw [e1, e2]
    have H1 := Lib.hid (fun W => sameLetters_any l litT true ⟨fun _ => h1, fun _ => rfl⟩ hl (by decide) W)
    clear h1 e1 e2
    go_enter Tryz.func72, Tryz.ntmps72
    go_wp2_with fail
    refine (H1.out _).mono ?_
    rintro e w1 ⟨rfl, rfl⟩
    go_wp2_with fail
    go_ret2
    exact ⟨rfl, rfl⟩
  · have H1 := Lib.hid (fun W => sameLetters_any l litT false ⟨fun h => (by cases h), fun h => absurd h h1⟩ hl (by decide) W)
    by_cases h2 : upL l = litF
    · obtain ⟨e1, e2⟩ : bV l = 0 ∧ bE l = 0 := ⟨if_neg h1, by unfold bE; rw [if_neg h1, if_pos h2]⟩
      rw [e1, e2]
      have H2 := Lib.hid (fun W => sameLetters_any l litF true ⟨fun _ => h2, fun _ => rfl⟩ hl (by decide) W)
      clear h1 h2 e1 e2
      go_enter Tryz.func72, Tryz.ntmps72
      go_wp2_with fail
      refine (H1.out _).mono ?_
      rintro e w1 ⟨rfl, rfl⟩
      go_wp2_with fail
      refine (H2.out _).mono ?_
      rintro e w2 ⟨rfl, rfl⟩
      go_wp2_with fail
      go_ret2
      exact ⟨rfl, rfl⟩
    · obtain ⟨e1, e2⟩ : bV l = 0 ∧ bE l = 22 := ⟨if_neg h1, by unfold bE; rw [if_neg h1, if_neg h2]⟩
      rw [e1, e2]
      have H2 := Lib.hid (fun W => sameLetters_any l litF false ⟨fun h => (by cases h), fun h => absurd h h2⟩ hl (by decide) W)
      clear h1 h2 e1 e2
      go_enter Tryz.func72, Tryz.ntmps72
      go_wp2_with fail
      refine (H1.out _).mono ?_
      rintro e w1 ⟨rfl, rfl⟩
      go_wp2_with fail
      refine (H2.out _).mono ?_
      rintro e w2 ⟨rfl, rfl⟩
      go_wp2_with fail
      go_ret2
      exact ⟨rfl, rfl⟩

end

section

open Go.ChangeShapes Go.WideShapes Go.ChangeAt Go.RowKit
set_option linter.unusedVariables false

theorem frozen_mark {w : World} {cs : Array Value} {t : TypeId} {n m : Nat} (j : Nat) (h : j < n) : (w.alloc (.cells cs t (n, m))).frozen? ⟨w.heap.size, j, none⟩ = false := by
  have hb : (w.alloc (.cells cs t (n, m))).heap[w.heap.size]? = some (.cells cs t (n, m)) := Array.getElem?_push_size
  unfold World.frozen?
  rw [hb]
  show (decide (n ≤ j) && decide (j < m)) = false
  rw [decide_eq_false (by omega)]
  rfl
theorem bytes_laid (l : List UInt8) (w : World) : ∃ (WA : World) (cap : Nat), (convert 9 61 (.string ⟨l.toArray⟩)).run Tryz.prog w = .ok (.slice (some ⟨w.heap.size, 0, none⟩) l.length cap) WA ∧
    (∀ j (h : j < l.length), WA.cell? ⟨w.heap.size, j, none⟩ = some (.int .u8 (l[j].toNat : Int)) ∧ WA.frozen? ⟨w.heap.size, j, none⟩ = false) ∧ Below w.heap.size w WA ∧ w.heap.size < WA.heap.size := by
  have hs : (⟨l.toArray⟩ : ByteArray).size = l.length := rfl
  refine ⟨_, _, run_bytes_of_string (P := Tryz.prog) w 9 61 5 ⟨l.toArray⟩ Tryz.underlying9 Tryz.underlying61 Tryz.underlying5, fun j h => ⟨?_, ?_⟩, ?_, ?_⟩
  · have hb : (w.drew.alloc (.cells (bytesRow ⟨l.toArray⟩ (grownCap w (⟨l.toArray⟩ : ByteArray).size 0 5)) 5 ((bytesRow ⟨l.toArray⟩ (grownCap w (⟨l.toArray⟩ : ByteArray).size 0 5)).size, (bytesRow ⟨l.toArray⟩ (grownCap w (⟨l.toArray⟩ : ByteArray).size 0 5)).size + 1))).heap[w.heap.size]? = _ := Array.getElem?_push_size
    unfold World.cell?
    rw [hb]
    simp [bytesRow, Array.getElem?_append, h]
  · exact frozen_mark (w := w.drew) j (by simp [bytesRow]; omega)
  · exact (below_drew (Below.refl _ _)).alloc (Nat.le_refl _) _
  · exact Nat.lt_of_lt_of_eq (Nat.lt_succ_self _) (Array.size_push ..).symm

set_option maxHeartbeats 1600000 in
set_option maxRecDepth 100000 in
theorem upper_any (l : List UInt8) (hl : l.length ≤ 9223372036854775807) (w : World) :
    Calls Tryz.prog 48 #[.string ⟨l.toArray⟩] w fun e w' => e = .returned (.string ⟨(upL l).toArray⟩) ∧ Below w.heap.size w w' := by
  obtain ⟨WA, cap, hconv, hc0, hB0, hlt0⟩ := bytes_laid l w
  go_enter Tryz.func48, Tryz.ntmps48
  go_wp2
  go_loopw [4] (fun i wr => ∃ k : Nat, k ≤ l.length ∧ i = .int .i64 k ∧ Below w.heap.size w wr ∧ w.heap.size < wr.heap.size ∧ ∀ j (h : j < l.length), wr.cell? ⟨w.heap.size, j, none⟩ = some (.int .u8 ((if j < k then upB l[j] else l[j]).toNat : Int)) ∧ wr.frozen? ⟨w.heap.size, j, none⟩ = false) (fun i _ => l.length - (intOf i).toNat)
  case atStart => exact ⟨0, Nat.zero_le _, rfl, hB0, hlt0, fun j h => by simpa using hc0 j h⟩
  case round =>
    clear hc0 hB0 hlt0 hconv
    obtain ⟨k, hk, rfl, hw, hlt, hc⟩ := hrel
    by_cases hx : k < l.length
    · obtain ⟨hck, hfk⟩ := hc k hx
      rw [if_neg (Nat.lt_irrefl k)] at hck
      have HC := Lib.hid hc
      clear hc
      have hx1 : (0 : Int) ≤ (k : Int) := by omega
      have hx2 : (k : Int) < (l.length : Int) := by omega
      have hx3 : 0 < l.length := by omega
      have HK := Lib.hid (fun (W : World) (h : ∀ j (hj : j < l.length), j ≠ k → W.cell? ⟨w.heap.size, j, none⟩ = wr.cell? ⟨w.heap.size, j, none⟩) (h2 : W.cell? ⟨w.heap.size, k, none⟩ = some (.int .u8 ((upB l[k]).toNat : Int))) (hf : ∀ j (hj : j < l.length), W.frozen? ⟨w.heap.size, j, none⟩ = wr.frozen? ⟨w.heap.size, j, none⟩) => show ∀ j (h : j < l.length), W.cell? ⟨w.heap.size, j, none⟩ = some (.int .u8 ((if j < k + 1 then upB l[j] else l[j]).toNat : Int)) ∧ W.frozen? ⟨w.heap.size, j, none⟩ = false by
        intro j hj
        refine ⟨?_, (hf j hj).trans (HC.out j hj).2⟩
        by_cases hjk : j = k
        · subst hjk
          rw [h2, if_pos (Nat.lt_succ_self _)]
        · rw [h j hj hjk, (HC.out j hj).1]
          by_cases h3 : j < k
          · rw [if_pos h3, if_pos (by omega)]
          · rw [if_neg h3, if_neg (by omega)])
      generalize l[k] = c at *
      have hcu := c.toNat_lt
      by_cases c0 : (97 : Int) ≤ (c.toNat : Int)
      · by_cases c1 : (c.toNat : Int) ≤ 122
        · have hu := Lib.hid (upB_low c0 c1)
          go_wp2
          go_roundw
          case rel =>
            refine ⟨k + 1, by omega, by go_num, hw.setCell (Nat.le_refl _) _, by simpa [World.setCell] using hlt, HK.out _ (fun j hj hne => World.cell?_setCell_other _ _ _ _ (by simp <;> omega)) ?_ (fun j hj => World.frozen?_setCell _ _ _ _)⟩
            rw [hu.out]
            exact World.cell?_setCell_same _ _ _ hck
          case measure => simp [intOf]; omega
        · have hu := Lib.hid (upB_not (c := c) (by omega))
          go_wp2
          go_roundw
          case rel => exact ⟨k + 1, by omega, by go_num, hw, hlt, HK.out _ (fun _ _ _ => rfl) (by rw [hu.out]; exact hck) (fun _ _ => rfl)⟩
          case measure => simp [intOf]; omega
      · have hu := Lib.hid (upB_not (c := c) (by omega))
        go_wp2
        go_roundw
        case rel => exact ⟨k + 1, by omega, by go_num, hw, hlt, HK.out _ (fun _ _ _ => rfl) (by rw [hu.out]; exact hck) (fun _ _ => rfl)⟩
        case measure => simp [intOf]; omega
    · have hxI : ¬ (k : Int) < (l.length : Int) := by omega
      have hback : (convert 61 9 (.slice (some ⟨w.heap.size, 0, none⟩) l.length cap)).run Tryz.prog wr = .ok (.string ⟨(upL l).toArray⟩) wr := by
        have h1 := run_convert_bytes_back (P := Tryz.prog) wr 61 9 5 ⟨w.heap.size, 0, none⟩ cap (upL l) Tryz.underlying61 Tryz.underlying5 Tryz.underlying9 (fun j hj => by
          have hj' : j < l.length := by simpa [upL] using hj
          have h2 := (hc j hj').1
          rw [if_pos (by omega)] at h2
          rw [Lib.add_plain, Nat.zero_add, h2]
          simp [upL])
        have h3 : (upL l).length = l.length := by simp [upL]
        rw [h3] at h1
        exact h1
      clear hc
      go_wp2
      go_ret
      exact ⟨rfl, hw⟩

end
end Go.Proofs.YtogdkhnakenbcaaGreatDoor
