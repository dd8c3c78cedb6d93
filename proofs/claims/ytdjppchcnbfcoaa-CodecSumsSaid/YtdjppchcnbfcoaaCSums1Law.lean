/-
  CodecSums: how long ints' forms are, rows of them, and the sum of bytes, cut anywhere. No condition beyond the form's own.
-/
import Derived.Test.YtdjppchcnbfcoaaCRow2
import Derived.Test.YtdjppchcnbfcoaaCApartLaw
import Derived.Deep.RegionHeld3
namespace Go.Proofs.Ytdjppchcnbfcoaa
open Go.ChangeShapes Go.WideShapes Go.ChangeAt Go.RowKit Go.Deep
set_option linter.unusedVariables false

theorem bdrew {B : Nat} {w W : World} (h : Below B w W) : Below B w W.drew := h.trans ⟨rfl, rfl, rfl, Nat.le_refl _, fun _ _ => rfl⟩
def SV (b : List UInt8) (sv : Int) : Prop := bits .xor .u32 4294967295 (crcL 4294967295 b) = sv
theorem slrd_alloc {W : World} {g o : Nat} {es : List Piece3} (h : SlRd W g o es) (hg : g < W.heap.size) (x : Obj) : SlRd (W.alloc x) g o es := fun i hi => by
  obtain ⟨h1, h2, h3⟩ := h i hi
  refine ⟨?_, h2.alloc _, h3⟩
  rw [World.cell?_of_block (w := W) (a := ⟨g, o + i, none⟩) ((alloc_below W x).block g hg)]
  exact h1
structure SumOk (n g : Nat) (W : World) (sv : Int) : Prop where
  ok : ∃ es : List Piece3, es.length = n ∧ n ≤ 1000 ∧ SlRd W g 0 es ∧ bits .xor .u32 4294967295 (crcE es) = sv
theorem sum_call (n c g : Nat) (W : World) (sv : Int) (h : SumOk n g W sv) :
    Calls Try.prog 30 #[.slice (some ⟨g, 0, none⟩) n c] W fun e w' => e = .returned (.int .u32 sv) ∧ W = w' := by
  obtain ⟨es, rfl, hl, hs, hv⟩ := h.ok
  have h := sum_any g 0 c es W hs hl
  rw [hv] at h
  exact h
theorem so1 (W : World) (H : Nat) (hH : W.heap.size = H) (T : TypeId) (A : Option Addr) (c : Nat) (l : List UInt8) (sv : Int) (hv : SV l sv) (hA : BRd W A l) (hl : l.length ≤ 140737488355328) : SumOk 1 H (W.alloc (.cells #[.slice A l.length c] T)) sv := by
  subst hH
  refine ⟨[⟨A, c, l⟩], rfl, by omega, sl1 W T A c l hA hl, ?_⟩
  rw [show crcE [(⟨A, c, l⟩ : Piece3)] = crcL 4294967295 l by simp [crcE]]
  exact hv
theorem so2 (W : World) (H : Nat) (hH : W.heap.size = H) (T : TypeId) (A1 A2 : Option Addr) (n1 n2 c1 c2 : Nat) (l : List UInt8) (k : Nat) (sv : Int) (hv : SV l sv) (e1 : n1 = (l.take k).length) (e2 : n2 = (l.drop k).length) (h1 : BRd W A1 (l.take k)) (h2 : BRd W A2 (l.drop k)) (hl : l.length ≤ 140737488355328) : SumOk 2 H (W.alloc (.cells #[.slice A1 n1 c1, .slice A2 n2 c2] T)) sv := by
  subst hH e1 e2
  refine ⟨[⟨A1, c1, l.take k⟩, ⟨A2, c2, l.drop k⟩], rfl, by omega, sl2 W T A1 A2 c1 c2 _ _ h1 h2 (by simp; omega) (by simp; omega), ?_⟩
  rw [show crcE [(⟨A1, c1, l.take k⟩ : Piece3), ⟨A2, c2, l.drop k⟩] = crcL 4294967295 l by simp only [crcE, List.flatMap_cons, List.flatMap_nil, List.append_nil, List.take_append_drop]]
  exact hv
theorem sox {n H : Nat} {W : World} {sv : Int} (h : SumOk n H W sv) (hH : H < W.heap.size) (o : Obj) : SumOk n H (W.alloc o) sv := by
  obtain ⟨es, h1, h2, h3, h4⟩ := h.ok
  exact ⟨es, h1, h2, slrd_alloc h3 hH o, h4⟩
theorem brd_take {w : World} {A : Option Addr} {l : List UInt8} (h : BRd w A l) (k : Nat) : BRd w A (l.take k) := fun hn => by
  rw [List.length_take] at hn
  obtain ⟨g, off, hA, hg, hc⟩ := h (by omega)
  refine ⟨g, off, hA, hg, fun i hi => ?_⟩
  rw [List.length_take] at hi
  rw [hc i (by omega), List.getElem_take]
theorem brd_drop {w : World} {g off : Nat} {l : List UInt8} (h : BRd w (some ⟨g, off, none⟩) l) (k : Nat) : BRd w (some ⟨g, off + k, none⟩) (l.drop k) := fun hn => by
  rw [List.length_drop] at hn
  obtain ⟨g', off', hA, hg, hc⟩ := h (by omega)
  obtain ⟨rfl, rfl⟩ : g = g' ∧ off = off' := by simpa using hA
  refine ⟨g, off + k, rfl, hg, fun i hi => ?_⟩
  rw [List.length_drop] at hi
  rw [Nat.add_assoc, hc (k + i) (by omega), List.getElem_drop]
theorem brd_none {w : World} {A : Option Addr} {l : List UInt8} (h : l.length = 0) : BRd w A l := fun hn => absurd hn (by omega)


set_option maxHeartbeats 12800000 in
set_option maxRecDepth 100000 in
theorem codecSums_far (A0 : Option Addr) (c0 : Nat) (zs : List Int) (b : List UInt8) (g off c1 : Nat) (m k : Nat) (w : World) (hk : m % (b.length + 1) = k) (hkb : k ≤ b.length) (h0 : IRd w A0 zs) (ok0 : ∀ z ∈ zs, In8 z) (la : zs.length ≤ 17592186043904) (h1 : BRd w (some ⟨g, off, none⟩) b) (lb : b.length ≤ 140737488351232) (hc : b.length ≤ c1) (hck : ¬ c1 = k) (hm : m ≤ 65535) :
    Calls Try.prog 5 #[.slice A0 zs.length c0, .slice (some ⟨g, off, none⟩) b.length c1, .int .u16 (m : Int)] w fun e w' => e = .returned (.bool true) ∧ Below w.heap.size w w' := by
  obtain ⟨sv, hsv⟩ : ∃ sv, SV b sv := ⟨_, rfl⟩
  have HSV := Lib.hid hsv
  have HA := Lib.hid (fun (W : World) (hW : Below w.heap.size w W) => h0.below hW)
  have HZ := Lib.hid ok0
  have HRA := Lib.hid (fun (W : World) (hW : Below w.heap.size w W) => row_anyB A0 c0 zs W (h0.below hW) ok0 (by omega))
  have HRB := Lib.hid (fun (W : World) (hW : Below w.heap.size w W) => refRow_anyB A0 c0 zs W (h0.below hW) ok0 (by omega))
  have HS : Hid (∀ W, Below w.heap.size w W → Calls Try.prog 31 #[.slice (some ⟨g, off, none⟩) b.length c1] W fun e w' => e = .returned (.int .u32 sv) ∧ W = w') := fun (W : World) (hW : Below w.heap.size w W) => by
    have h := refSum_any (some ⟨g, off, none⟩) c1 b W (h1.below hW) (by omega)
    rw [show bits .xor .u32 4294967295 (crcL 4294967295 b) = sv from hsv] at h
    exact h
  have HB := Lib.hid (fun (W : World) (hW : Below w.heap.size w W) => h1.below hW)
  have HT := Lib.hid (fun (W : World) (hW : Below w.heap.size w W) => brd_take (h1.below hW) k)
  have HD := Lib.hid (fun (W : World) (A' : Option Addr) (hW : Below w.heap.size w W) (hA' : A' = some ⟨g, off + k, none⟩ ∨ (b.drop k).length = 0) => (show BRd W A' (b.drop k) by
    rcases hA' with rfl | h
    · exact brd_drop (h1.below hW) k
    · exact brd_none h))
  clear h0 ok0 h1 hsv
  go_enter Try.func5, Try.ntmps5
  go_wp2_with fail
  go_loopw [12] (fun idx wr => ∃ j : Nat, j ≤ zs.length ∧ idx = .int .i64 j ∧ Below w.heap.size w wr) (fun idx _ => zs.length - (intOf idx).toNat)
  case atStart => exact ⟨0, by omega, rfl, Below.refl _ _⟩
  case round =>
    obtain ⟨j, hj, rfl, hb⟩ := hrel
    have HBW := Lib.hid hb
    clear hb
    by_cases hik : j < zs.length
    · obtain ⟨g, off, rfl, hgl, hc⟩ := (HA.out _ HBW.out) (by omega)
      have c0 := hc j hik
      clear hc
      have HI := Lib.hid (HZ.out _ (List.getElem_mem hik))
      have x0 : (0 : Int) ≤ (j : Int) := by omega
      have x1 : (j : Int) < (zs.length : Int) := by omega
      have x2 : 0 < zs.length := by omega
      generalize zs[j] = z at *
      go_wp2_with fail
      refine (size_any z _ HI.out).mono ?_
      rintro e w' ⟨rfl, rfl⟩
      go_wp2_with fail
      refine (refInt_any z _ HI.out).mono ?_
      rintro e w2 ⟨v2, rfl, hown2, hg2⟩
      have HB2 := Lib.hid (bt HBW.out hg2)
      obtain ⟨a2, cap2, rfl, _, _⟩ := hown2.slice
      clear hown2 hg2
      generalize encI z = ez at *
      have hnn : ((ez.length : Int) != (ez.length : Int)) = false := by simp
      go_wp2_with fail
      go_roundw
      case rel => exact ⟨j + 1, by omega, by go_num, HB2.out⟩
      case measure => simp [intOf]; omega
    · obtain rfl : j = zs.length := by omega
      have hikI : ¬ ((zs.length : Int) < (zs.length : Int)) := by omega
      have hq0 : (0 : Int) ≤ (m : Int) := by omega
      have hq3 : ¬ ((b.length : Int) + 1 = 0) := by omega
      have hq4 : ((m : Int)).tmod ((b.length : Int) + 1) = (k : Int) := by
        rw [show (b.length : Int) + 1 = ((b.length + 1 : Nat) : Int) by omega, ← hk]; rfl
      have hkI : (k : Int) ≤ (b.length : Int) := by omega
      have hk0 : (0 : Int) ≤ (k : Int) := by omega
      have hkc : (k : Int) ≤ (c1 : Int) := by omega
      have hlc : (b.length : Int) ≤ (c1 : Int) := by omega
      go_wp2_with fail
      go_region_held3 (fun w9 => True) (first | exact trivial | go_keep) (first
        | (go_at_call 13; refine (begun_any _).mono ?_; rintro e w2 ⟨rfl, h2⟩; have B1 := Lib.hid (bt (bdrew HBW.out) h2); clear h2)
        | (go_at_call 28; refine (HRA.out _ B1.out).mono ?_; rintro e w3 ⟨v3, rfl, o3, h3⟩; obtain ⟨a3, cap3, rfl, _, _⟩ := o3.slice; have R3 := Lib.hid o3.brd; have B3 := Lib.hid (bt B1.out h3); clear o3 h3)
        | (go_at_call 29; refine (HRB.out _ B3.out).mono ?_; rintro e w4 ⟨v4, rfl, o4, h4⟩; obtain ⟨a4, cap4, rfl, _, _⟩ := o4.slice; have R5 := Lib.hid (R3.out.below h4); have R4 := Lib.hid o4.brd; have B4 := Lib.hid (bt B3.out h4); have B5 := Lib.hid (bt B4.out (alloc_below _ (.cells #[.slice (some ⟨g, off, none⟩) b.length c1] 26))); have HH5 : Hid ((w4.alloc (.cells #[.slice (some ⟨g, off, none⟩) b.length c1] 26)).heap.size = w4.heap.size + 1) := (by show _ = _; simp); clear o4 h4)
        | (go_at_call 17; (have HE := equal_any a3 a4 cap3 cap4 _ _ _ R5.out R4.out); (rw [show (rowF zs == rowF zs) = true by simp] at HE); (refine HE.mono ?_); (rintro e w' ⟨rfl, rfl⟩))
        | (go_at_call 30; refine (sum_call _ _ _ _ sv ?_).mono ?_; (first
          | exact so1 w4 _ rfl _ (some ⟨g, off, none⟩) c1 b sv HSV.out (HB.out _ B4.out) (by omega)
          | exact so2 _ _ HH5.out _ _ _ _ _ _ _ b k sv HSV.out (by simp; try omega) (by simp; try omega) (HT.out _ B5.out) (HD.out _ _ B5.out (by first | exact .inl rfl | exact .inr (by simp; try omega))) (by omega)
          | exact sox (so2 _ _ HH5.out _ _ _ _ _ _ _ b k sv HSV.out (by simp; try omega) (by simp; try omega) (HT.out _ B5.out) (HD.out _ _ B5.out (by first | exact .inl rfl | exact .inr (by simp; try omega))) (by omega)) (by simp) _
          | exact so2 _ _ (by simp) _ _ _ _ _ _ _ b k sv HSV.out (by simp; try omega) (by simp; try omega) (HT.out _ (bt B5.out (alloc_below _ _))) (HD.out _ _ (bt B5.out (alloc_below _ _)) (by first | exact .inl rfl | exact .inr (by simp; try omega))) (by omega)
          | exact so1 _ _ HH5.out _ (some ⟨g, off, none⟩) c1 b sv HSV.out (HB.out _ B5.out) (by omega)
          | exact sox (so1 _ _ HH5.out _ (some ⟨g, off, none⟩) c1 b sv HSV.out (HB.out _ B5.out) (by omega)) (by simp) _
          | exact so1 _ _ (by simp) _ (some ⟨g, off, none⟩) c1 b sv HSV.out (HB.out _ (bt B5.out (alloc_below _ _))) (by omega)); rintro e w' ⟨rfl, rfl⟩)
        | (go_at_call 31; refine (HS.out _ B5.out).mono ?_; rintro e w' ⟨rfl, rfl⟩)
        | fail)
      all_goals go_wp2_with fail
      all_goals go_ret
      all_goals exact ⟨rfl, bt (bt B5.out (alloc_below _ _)) (alloc_below _ _)⟩

set_option maxHeartbeats 12800000 in
set_option maxRecDepth 100000 in
theorem codecSums_end (A0 : Option Addr) (c0 : Nat) (zs : List Int) (b : List UInt8) (g off : Nat) (m k : Nat) (w : World) (hk : m % (b.length + 1) = k) (hkb : k ≤ b.length) (h0 : IRd w A0 zs) (ok0 : ∀ z ∈ zs, In8 z) (la : zs.length ≤ 17592186043904) (h1 : BRd w (some ⟨g, off, none⟩) b) (lb : b.length ≤ 140737488351232) (hc : b.length ≤ k)  (hm : m ≤ 65535) :
    Calls Try.prog 5 #[.slice A0 zs.length c0, .slice (some ⟨g, off, none⟩) b.length k, .int .u16 (m : Int)] w fun e w' => e = .returned (.bool true) ∧ Below w.heap.size w w' := by
  obtain ⟨sv, hsv⟩ : ∃ sv, SV b sv := ⟨_, rfl⟩
  have HSV := Lib.hid hsv
  have HA := Lib.hid (fun (W : World) (hW : Below w.heap.size w W) => h0.below hW)
  have HZ := Lib.hid ok0
  have HRA := Lib.hid (fun (W : World) (hW : Below w.heap.size w W) => row_anyB A0 c0 zs W (h0.below hW) ok0 (by omega))
  have HRB := Lib.hid (fun (W : World) (hW : Below w.heap.size w W) => refRow_anyB A0 c0 zs W (h0.below hW) ok0 (by omega))
  have HS : Hid (∀ W, Below w.heap.size w W → Calls Try.prog 31 #[.slice (some ⟨g, off, none⟩) b.length k] W fun e w' => e = .returned (.int .u32 sv) ∧ W = w') := fun (W : World) (hW : Below w.heap.size w W) => by
    have h := refSum_any (some ⟨g, off, none⟩) k b W (h1.below hW) (by omega)
    rw [show bits .xor .u32 4294967295 (crcL 4294967295 b) = sv from hsv] at h
    exact h
  have HB := Lib.hid (fun (W : World) (hW : Below w.heap.size w W) => h1.below hW)
  have HT := Lib.hid (fun (W : World) (hW : Below w.heap.size w W) => brd_take (h1.below hW) k)
  have HD := Lib.hid (fun (W : World) (A' : Option Addr) (hW : Below w.heap.size w W) (hA' : A' = some ⟨g, off + k, none⟩ ∨ (b.drop k).length = 0) => (show BRd W A' (b.drop k) by
    rcases hA' with rfl | h
    · exact brd_drop (h1.below hW) k
    · exact brd_none h))
  clear h0 ok0 h1 hsv
  go_enter Try.func5, Try.ntmps5
  go_wp2_with fail
  go_loopw [12] (fun idx wr => ∃ j : Nat, j ≤ zs.length ∧ idx = .int .i64 j ∧ Below w.heap.size w wr) (fun idx _ => zs.length - (intOf idx).toNat)
  case atStart => exact ⟨0, by omega, rfl, Below.refl _ _⟩
  case round =>
    obtain ⟨j, hj, rfl, hb⟩ := hrel
    have HBW := Lib.hid hb
    clear hb
    by_cases hik : j < zs.length
    · obtain ⟨g, off, rfl, hgl, hc⟩ := (HA.out _ HBW.out) (by omega)
      have c0 := hc j hik
      clear hc
      have HI := Lib.hid (HZ.out _ (List.getElem_mem hik))
      have x0 : (0 : Int) ≤ (j : Int) := by omega
      have x1 : (j : Int) < (zs.length : Int) := by omega
      have x2 : 0 < zs.length := by omega
      generalize zs[j] = z at *
      go_wp2_with fail
      refine (size_any z _ HI.out).mono ?_
      rintro e w' ⟨rfl, rfl⟩
      go_wp2_with fail
      refine (refInt_any z _ HI.out).mono ?_
      rintro e w2 ⟨v2, rfl, hown2, hg2⟩
      have HB2 := Lib.hid (bt HBW.out hg2)
      obtain ⟨a2, cap2, rfl, _, _⟩ := hown2.slice
      clear hown2 hg2
      generalize encI z = ez at *
      have hnn : ((ez.length : Int) != (ez.length : Int)) = false := by simp
      go_wp2_with fail
      go_roundw
      case rel => exact ⟨j + 1, by omega, by go_num, HB2.out⟩
      case measure => simp [intOf]; omega
    · obtain rfl : j = zs.length := by omega
      have hikI : ¬ ((zs.length : Int) < (zs.length : Int)) := by omega
      have hq0 : (0 : Int) ≤ (m : Int) := by omega
      have hq3 : ¬ ((b.length : Int) + 1 = 0) := by omega
      have hq4 : ((m : Int)).tmod ((b.length : Int) + 1) = (k : Int) := by
        rw [show (b.length : Int) + 1 = ((b.length + 1 : Nat) : Int) by omega, ← hk]; rfl
      have hkI : (k : Int) ≤ (b.length : Int) := by omega
      have hk0 : (0 : Int) ≤ (k : Int) := by omega
      have hkc : (k : Int) ≤ (k : Int) := by omega
      have hlc : (b.length : Int) ≤ (k : Int) := by omega
      go_wp2_with fail
      go_region_held3 (fun w9 => True) (first | exact trivial | go_keep) (first
        | (go_at_call 13; refine (begun_any _).mono ?_; rintro e w2 ⟨rfl, h2⟩; have B1 := Lib.hid (bt (bdrew HBW.out) h2); clear h2)
        | (go_at_call 28; refine (HRA.out _ B1.out).mono ?_; rintro e w3 ⟨v3, rfl, o3, h3⟩; obtain ⟨a3, cap3, rfl, _, _⟩ := o3.slice; have R3 := Lib.hid o3.brd; have B3 := Lib.hid (bt B1.out h3); clear o3 h3)
        | (go_at_call 29; refine (HRB.out _ B3.out).mono ?_; rintro e w4 ⟨v4, rfl, o4, h4⟩; obtain ⟨a4, cap4, rfl, _, _⟩ := o4.slice; have R5 := Lib.hid (R3.out.below h4); have R4 := Lib.hid o4.brd; have B4 := Lib.hid (bt B3.out h4); have B5 := Lib.hid (bt B4.out (alloc_below _ (.cells #[.slice (some ⟨g, off, none⟩) b.length k] 26))); have HH5 : Hid ((w4.alloc (.cells #[.slice (some ⟨g, off, none⟩) b.length k] 26)).heap.size = w4.heap.size + 1) := (by show _ = _; simp); clear o4 h4)
        | (go_at_call 17; (have HE := equal_any a3 a4 cap3 cap4 _ _ _ R5.out R4.out); (rw [show (rowF zs == rowF zs) = true by simp] at HE); (refine HE.mono ?_); (rintro e w' ⟨rfl, rfl⟩))
        | (go_at_call 30; refine (sum_call _ _ _ _ sv ?_).mono ?_; (first
          | exact so1 w4 _ rfl _ (some ⟨g, off, none⟩) k b sv HSV.out (HB.out _ B4.out) (by omega)
          | exact so2 _ _ HH5.out _ _ _ _ _ _ _ b k sv HSV.out (by simp; try omega) (by simp; try omega) (HT.out _ B5.out) (HD.out _ _ B5.out (by first | exact .inl rfl | exact .inr (by simp; try omega))) (by omega)
          | exact sox (so2 _ _ HH5.out _ _ _ _ _ _ _ b k sv HSV.out (by simp; try omega) (by simp; try omega) (HT.out _ B5.out) (HD.out _ _ B5.out (by first | exact .inl rfl | exact .inr (by simp; try omega))) (by omega)) (by simp) _
          | exact so2 _ _ (by simp) _ _ _ _ _ _ _ b k sv HSV.out (by simp; try omega) (by simp; try omega) (HT.out _ (bt B5.out (alloc_below _ _))) (HD.out _ _ (bt B5.out (alloc_below _ _)) (by first | exact .inl rfl | exact .inr (by simp; try omega))) (by omega)
          | exact so1 _ _ HH5.out _ (some ⟨g, off, none⟩) k b sv HSV.out (HB.out _ B5.out) (by omega)
          | exact sox (so1 _ _ HH5.out _ (some ⟨g, off, none⟩) k b sv HSV.out (HB.out _ B5.out) (by omega)) (by simp) _
          | exact so1 _ _ (by simp) _ (some ⟨g, off, none⟩) k b sv HSV.out (HB.out _ (bt B5.out (alloc_below _ _))) (by omega)); rintro e w' ⟨rfl, rfl⟩)
        | (go_at_call 31; refine (HS.out _ B5.out).mono ?_; rintro e w' ⟨rfl, rfl⟩)
        | fail)
      all_goals go_wp2_with fail
      all_goals go_ret
      all_goals exact ⟨rfl, bt (bt B5.out (alloc_below _ _)) (alloc_below _ _)⟩

set_option maxHeartbeats 12800000 in
set_option maxRecDepth 100000 in
theorem codecSums_nil (A0 : Option Addr) (c0 : Nat) (zs : List Int)  (m k : Nat) (w : World) (hk : m % (([] : List UInt8).length + 1) = k) (hkb : k ≤ ([] : List UInt8).length) (h0 : IRd w A0 zs) (ok0 : ∀ z ∈ zs, In8 z) (la : zs.length ≤ 17592186043904) (h1 : BRd w none ([] : List UInt8)) (lb : ([] : List UInt8).length ≤ 140737488351232) (hc : ([] : List UInt8).length ≤ 0)  (hm : m ≤ 65535) :
    Calls Try.prog 5 #[.slice A0 zs.length c0, .slice none ([] : List UInt8).length 0, .int .u16 (m : Int)] w fun e w' => e = .returned (.bool true) ∧ Below w.heap.size w w' := by
  obtain rfl : k = 0 := by simpa using hkb
  obtain ⟨sv, hsv⟩ : ∃ sv, SV ([] : List UInt8) sv := ⟨_, rfl⟩
  have HSV := Lib.hid hsv
  have HA := Lib.hid (fun (W : World) (hW : Below w.heap.size w W) => h0.below hW)
  have HZ := Lib.hid ok0
  have HRA := Lib.hid (fun (W : World) (hW : Below w.heap.size w W) => row_anyB A0 c0 zs W (h0.below hW) ok0 (by omega))
  have HRB := Lib.hid (fun (W : World) (hW : Below w.heap.size w W) => refRow_anyB A0 c0 zs W (h0.below hW) ok0 (by omega))
  have HS : Hid (∀ W, Below w.heap.size w W → Calls Try.prog 31 #[.slice none ([] : List UInt8).length 0] W fun e w' => e = .returned (.int .u32 sv) ∧ W = w') := fun (W : World) (hW : Below w.heap.size w W) => by
    have h := refSum_any none 0 ([] : List UInt8) W (h1.below hW) (by omega)
    rw [show bits .xor .u32 4294967295 (crcL 4294967295 ([] : List UInt8)) = sv from hsv] at h
    exact h
  have HB := Lib.hid (fun (W : World) (hW : Below w.heap.size w W) => h1.below hW)
  have HT := Lib.hid (fun (W : World) (hW : Below w.heap.size w W) => brd_take (h1.below hW) 0)
  have HD := Lib.hid (fun (W : World) (A' : Option Addr) (hW : Below w.heap.size w W) (hA' : A' = none ∨ (([] : List UInt8).drop 0).length = 0) => (show BRd W A' (([] : List UInt8).drop 0) from brd_none (by simp)))
  clear h0 ok0 h1 hsv
  go_enter Try.func5, Try.ntmps5
  go_wp2_with fail
  go_loopw [12] (fun idx wr => ∃ j : Nat, j ≤ zs.length ∧ idx = .int .i64 j ∧ Below w.heap.size w wr) (fun idx _ => zs.length - (intOf idx).toNat)
  case atStart => exact ⟨0, by omega, rfl, Below.refl _ _⟩
  case round =>
    obtain ⟨j, hj, rfl, hb⟩ := hrel
    have HBW := Lib.hid hb
    clear hb
    by_cases hik : j < zs.length
    · obtain ⟨g, off, rfl, hgl, hc⟩ := (HA.out _ HBW.out) (by omega)
      have c0 := hc j hik
      clear hc
      have HI := Lib.hid (HZ.out _ (List.getElem_mem hik))
      have x0 : (0 : Int) ≤ (j : Int) := by omega
      have x1 : (j : Int) < (zs.length : Int) := by omega
      have x2 : 0 < zs.length := by omega
      generalize zs[j] = z at *
      go_wp2_with fail
      refine (size_any z _ HI.out).mono ?_
      rintro e w' ⟨rfl, rfl⟩
      go_wp2_with fail
      refine (refInt_any z _ HI.out).mono ?_
      rintro e w2 ⟨v2, rfl, hown2, hg2⟩
      have HB2 := Lib.hid (bt HBW.out hg2)
      obtain ⟨a2, cap2, rfl, _, _⟩ := hown2.slice
      clear hown2 hg2
      generalize encI z = ez at *
      have hnn : ((ez.length : Int) != (ez.length : Int)) = false := by simp
      go_wp2_with fail
      go_roundw
      case rel => exact ⟨j + 1, by omega, by go_num, HB2.out⟩
      case measure => simp [intOf]; omega
    · obtain rfl : j = zs.length := by omega
      have hikI : ¬ ((zs.length : Int) < (zs.length : Int)) := by omega
      have hq0 : (0 : Int) ≤ (m : Int) := by omega
      have hq3 : ¬ ((([] : List UInt8).length : Int) + 1 = 0) := by omega
      have hq4 : ((m : Int)).tmod ((([] : List UInt8).length : Int) + 1) = ((0 : Nat) : Int) := by
        rw [show (([] : List UInt8).length : Int) + 1 = ((([] : List UInt8).length + 1 : Nat) : Int) by omega, ← hk]; rfl
      have hk0 : (0 : Int) ≤ (0 : Int) := by omega
      go_wp2_with fail
      go_region_held3 (fun w9 => True) (first | exact trivial | go_keep) (first
        | (go_at_call 13; refine (begun_any _).mono ?_; rintro e w2 ⟨rfl, h2⟩; have B1 := Lib.hid (bt (bdrew HBW.out) h2); clear h2)
        | (go_at_call 28; refine (HRA.out _ B1.out).mono ?_; rintro e w3 ⟨v3, rfl, o3, h3⟩; obtain ⟨a3, cap3, rfl, _, _⟩ := o3.slice; have R3 := Lib.hid o3.brd; have B3 := Lib.hid (bt B1.out h3); clear o3 h3)
        | (go_at_call 29; refine (HRB.out _ B3.out).mono ?_; rintro e w4 ⟨v4, rfl, o4, h4⟩; obtain ⟨a4, cap4, rfl, _, _⟩ := o4.slice; have R5 := Lib.hid (R3.out.below h4); have R4 := Lib.hid o4.brd; have B4 := Lib.hid (bt B3.out h4); have B5 := Lib.hid (bt B4.out (alloc_below _ (.cells #[.slice none ([] : List UInt8).length 0] 26))); have HH5 : Hid ((w4.alloc (.cells #[.slice none ([] : List UInt8).length 0] 26)).heap.size = w4.heap.size + 1) := (by show _ = _; simp); clear o4 h4)
        | (go_at_call 17; (have HE := equal_any a3 a4 cap3 cap4 _ _ _ R5.out R4.out); (rw [show (rowF zs == rowF zs) = true by simp] at HE); (refine HE.mono ?_); (rintro e w' ⟨rfl, rfl⟩))
        | (go_at_call 30; refine (sum_call _ _ _ _ sv ?_).mono ?_; (first
          | exact so1 w4 _ rfl _ none 0 ([] : List UInt8) sv HSV.out (HB.out _ B4.out) (by omega)
          | exact so2 _ _ HH5.out _ _ _ _ _ _ _ ([] : List UInt8) 0 sv HSV.out (by simp; try omega) (by simp; try omega) (HT.out _ B5.out) (HD.out _ _ B5.out (by first | exact .inl rfl | exact .inr (by simp; try omega))) (by omega)
          | exact sox (so2 _ _ HH5.out _ _ _ _ _ _ _ ([] : List UInt8) 0 sv HSV.out (by simp; try omega) (by simp; try omega) (HT.out _ B5.out) (HD.out _ _ B5.out (by first | exact .inl rfl | exact .inr (by simp; try omega))) (by omega)) (by simp) _
          | exact so2 _ _ (by simp) _ _ _ _ _ _ _ ([] : List UInt8) 0 sv HSV.out (by simp; try omega) (by simp; try omega) (HT.out _ (bt B5.out (alloc_below _ _))) (HD.out _ _ (bt B5.out (alloc_below _ _)) (by first | exact .inl rfl | exact .inr (by simp; try omega))) (by omega)
          | exact so1 _ _ HH5.out _ none 0 ([] : List UInt8) sv HSV.out (HB.out _ B5.out) (by omega)
          | exact sox (so1 _ _ HH5.out _ none 0 ([] : List UInt8) sv HSV.out (HB.out _ B5.out) (by omega)) (by simp) _
          | exact so1 _ _ (by simp) _ none 0 ([] : List UInt8) sv HSV.out (HB.out _ (bt B5.out (alloc_below _ _))) (by omega)); rintro e w' ⟨rfl, rfl⟩)
        | (go_at_call 31; refine (HS.out _ B5.out).mono ?_; rintro e w' ⟨rfl, rfl⟩)
        | fail)
      all_goals go_wp2_with fail
      all_goals go_ret
      all_goals exact ⟨rfl, bt (bt B5.out (alloc_below _ _)) (alloc_below _ _)⟩

set_option maxHeartbeats 12800000 in
set_option maxRecDepth 100000 in
theorem codecSums_zero (A0 : Option Addr) (c0 : Nat) (zs : List Int) (a : Addr) (m k : Nat) (w : World) (hk : m % (([] : List UInt8).length + 1) = k) (hkb : k ≤ ([] : List UInt8).length) (h0 : IRd w A0 zs) (ok0 : ∀ z ∈ zs, In8 z) (la : zs.length ≤ 17592186043904) (h1 : BRd w (some a) ([] : List UInt8)) (lb : ([] : List UInt8).length ≤ 140737488351232) (hc : ([] : List UInt8).length ≤ 0)  (hm : m ≤ 65535) :
    Calls Try.prog 5 #[.slice A0 zs.length c0, .slice (some a) ([] : List UInt8).length 0, .int .u16 (m : Int)] w fun e w' => e = .returned (.bool true) ∧ Below w.heap.size w w' := by
  obtain rfl : k = 0 := by simpa using hkb
  obtain ⟨sv, hsv⟩ : ∃ sv, SV ([] : List UInt8) sv := ⟨_, rfl⟩
  have HSV := Lib.hid hsv
  have HA := Lib.hid (fun (W : World) (hW : Below w.heap.size w W) => h0.below hW)
  have HZ := Lib.hid ok0
  have HRA := Lib.hid (fun (W : World) (hW : Below w.heap.size w W) => row_anyB A0 c0 zs W (h0.below hW) ok0 (by omega))
  have HRB := Lib.hid (fun (W : World) (hW : Below w.heap.size w W) => refRow_anyB A0 c0 zs W (h0.below hW) ok0 (by omega))
  have HS : Hid (∀ W, Below w.heap.size w W → Calls Try.prog 31 #[.slice (some a) ([] : List UInt8).length 0] W fun e w' => e = .returned (.int .u32 sv) ∧ W = w') := fun (W : World) (hW : Below w.heap.size w W) => by
    have h := refSum_any (some a) 0 ([] : List UInt8) W (h1.below hW) (by omega)
    rw [show bits .xor .u32 4294967295 (crcL 4294967295 ([] : List UInt8)) = sv from hsv] at h
    exact h
  have HB := Lib.hid (fun (W : World) (hW : Below w.heap.size w W) => h1.below hW)
  have HT := Lib.hid (fun (W : World) (hW : Below w.heap.size w W) => brd_take (h1.below hW) 0)
  have HD := Lib.hid (fun (W : World) (A' : Option Addr) (hW : Below w.heap.size w W) (hA' : A' = none ∨ (([] : List UInt8).drop 0).length = 0) => (show BRd W A' (([] : List UInt8).drop 0) from brd_none (by simp)))
  clear h0 ok0 h1 hsv
  go_enter Try.func5, Try.ntmps5
  go_wp2_with fail
  go_loopw [12] (fun idx wr => ∃ j : Nat, j ≤ zs.length ∧ idx = .int .i64 j ∧ Below w.heap.size w wr) (fun idx _ => zs.length - (intOf idx).toNat)
  case atStart => exact ⟨0, by omega, rfl, Below.refl _ _⟩
  case round =>
    obtain ⟨j, hj, rfl, hb⟩ := hrel
    have HBW := Lib.hid hb
    clear hb
    by_cases hik : j < zs.length
    · obtain ⟨g, off, rfl, hgl, hc⟩ := (HA.out _ HBW.out) (by omega)
      have c0 := hc j hik
      clear hc
      have HI := Lib.hid (HZ.out _ (List.getElem_mem hik))
      have x0 : (0 : Int) ≤ (j : Int) := by omega
      have x1 : (j : Int) < (zs.length : Int) := by omega
      have x2 : 0 < zs.length := by omega
      generalize zs[j] = z at *
      go_wp2_with fail
      refine (size_any z _ HI.out).mono ?_
      rintro e w' ⟨rfl, rfl⟩
      go_wp2_with fail
      refine (refInt_any z _ HI.out).mono ?_
      rintro e w2 ⟨v2, rfl, hown2, hg2⟩
      have HB2 := Lib.hid (bt HBW.out hg2)
      obtain ⟨a2, cap2, rfl, _, _⟩ := hown2.slice
      clear hown2 hg2
      generalize encI z = ez at *
      have hnn : ((ez.length : Int) != (ez.length : Int)) = false := by simp
      go_wp2_with fail
      go_roundw
      case rel => exact ⟨j + 1, by omega, by go_num, HB2.out⟩
      case measure => simp [intOf]; omega
    · obtain rfl : j = zs.length := by omega
      have hikI : ¬ ((zs.length : Int) < (zs.length : Int)) := by omega
      have hq0 : (0 : Int) ≤ (m : Int) := by omega
      have hq3 : ¬ ((([] : List UInt8).length : Int) + 1 = 0) := by omega
      have hq4 : ((m : Int)).tmod ((([] : List UInt8).length : Int) + 1) = ((0 : Nat) : Int) := by
        rw [show (([] : List UInt8).length : Int) + 1 = ((([] : List UInt8).length + 1 : Nat) : Int) by omega, ← hk]; rfl
      have hk0 : (0 : Int) ≤ (0 : Int) := by omega
      have ha0 : a.add 0 = a := if_pos rfl
      go_wp2_with fail
      go_region_held3 (fun w9 => True) (first | exact trivial | go_keep) (first
        | (go_at_call 13; refine (begun_any _).mono ?_; rintro e w2 ⟨rfl, h2⟩; have B1 := Lib.hid (bt (bdrew HBW.out) h2); clear h2)
        | (go_at_call 28; refine (HRA.out _ B1.out).mono ?_; rintro e w3 ⟨v3, rfl, o3, h3⟩; obtain ⟨a3, cap3, rfl, _, _⟩ := o3.slice; have R3 := Lib.hid o3.brd; have B3 := Lib.hid (bt B1.out h3); clear o3 h3)
        | (go_at_call 29; refine (HRB.out _ B3.out).mono ?_; rintro e w4 ⟨v4, rfl, o4, h4⟩; obtain ⟨a4, cap4, rfl, _, _⟩ := o4.slice; have R5 := Lib.hid (R3.out.below h4); have R4 := Lib.hid o4.brd; have B4 := Lib.hid (bt B3.out h4); have B5 := Lib.hid (bt B4.out (alloc_below _ (.cells #[.slice (some a) ([] : List UInt8).length 0] 26))); have HH5 : Hid ((w4.alloc (.cells #[.slice (some a) ([] : List UInt8).length 0] 26)).heap.size = w4.heap.size + 1) := (by show _ = _; simp); clear o4 h4)
        | (go_at_call 17; (have HE := equal_any a3 a4 cap3 cap4 _ _ _ R5.out R4.out); (rw [show (rowF zs == rowF zs) = true by simp] at HE); (refine HE.mono ?_); (rintro e w' ⟨rfl, rfl⟩))
        | (go_at_call 30; refine (sum_call _ _ _ _ sv ?_).mono ?_; (first
          | exact so1 w4 _ rfl _ (some a) 0 ([] : List UInt8) sv HSV.out (HB.out _ B4.out) (by omega)
          | exact so2 _ _ HH5.out _ _ _ _ _ _ _ ([] : List UInt8) 0 sv HSV.out (by simp; try omega) (by simp; try omega) (HT.out _ B5.out) (HD.out _ _ B5.out (by first | exact .inl rfl | exact .inr (by simp; try omega))) (by omega)
          | exact sox (so2 _ _ HH5.out _ _ _ _ _ _ _ ([] : List UInt8) 0 sv HSV.out (by simp; try omega) (by simp; try omega) (HT.out _ B5.out) (HD.out _ _ B5.out (by first | exact .inl rfl | exact .inr (by simp; try omega))) (by omega)) (by simp) _
          | exact so2 _ _ (by simp) _ _ _ _ _ _ _ ([] : List UInt8) 0 sv HSV.out (by simp; try omega) (by simp; try omega) (HT.out _ (bt B5.out (alloc_below _ _))) (HD.out _ _ (bt B5.out (alloc_below _ _)) (by first | exact .inl rfl | exact .inr (by simp; try omega))) (by omega)
          | exact so1 _ _ HH5.out _ (some a) 0 ([] : List UInt8) sv HSV.out (HB.out _ B5.out) (by omega)
          | exact sox (so1 _ _ HH5.out _ (some a) 0 ([] : List UInt8) sv HSV.out (HB.out _ B5.out) (by omega)) (by simp) _
          | exact so1 _ _ (by simp) _ (some a) 0 ([] : List UInt8) sv HSV.out (HB.out _ (bt B5.out (alloc_below _ _))) (by omega)); rintro e w' ⟨rfl, rfl⟩)
        | (go_at_call 31; refine (HS.out _ B5.out).mono ?_; rintro e w' ⟨rfl, rfl⟩)
        | fail)
      all_goals go_wp2_with fail
      all_goals go_ret
      all_goals exact ⟨rfl, bt (bt B5.out (alloc_below _ _)) (alloc_below _ _)⟩

set_option maxHeartbeats 12800000 in
set_option maxRecDepth 100000 in
theorem codecSums_some (A0 : Option Addr) (c0 : Nat) (zs : List Int) (a : Addr) (c1 : Nat) (m k : Nat) (w : World) (hk : m % (([] : List UInt8).length + 1) = k) (hkb : k ≤ ([] : List UInt8).length) (h0 : IRd w A0 zs) (ok0 : ∀ z ∈ zs, In8 z) (la : zs.length ≤ 17592186043904) (h1 : BRd w (some a) ([] : List UInt8)) (lb : ([] : List UInt8).length ≤ 140737488351232) (hc : ([] : List UInt8).length ≤ c1) (hc0 : ¬ c1 = 0) (hm : m ≤ 65535) :
    Calls Try.prog 5 #[.slice A0 zs.length c0, .slice (some a) ([] : List UInt8).length c1, .int .u16 (m : Int)] w fun e w' => e = .returned (.bool true) ∧ Below w.heap.size w w' := by
  obtain rfl : k = 0 := by simpa using hkb
  obtain ⟨sv, hsv⟩ : ∃ sv, SV ([] : List UInt8) sv := ⟨_, rfl⟩
  have HSV := Lib.hid hsv
  have HA := Lib.hid (fun (W : World) (hW : Below w.heap.size w W) => h0.below hW)
  have HZ := Lib.hid ok0
  have HRA := Lib.hid (fun (W : World) (hW : Below w.heap.size w W) => row_anyB A0 c0 zs W (h0.below hW) ok0 (by omega))
  have HRB := Lib.hid (fun (W : World) (hW : Below w.heap.size w W) => refRow_anyB A0 c0 zs W (h0.below hW) ok0 (by omega))
  have HS : Hid (∀ W, Below w.heap.size w W → Calls Try.prog 31 #[.slice (some a) ([] : List UInt8).length c1] W fun e w' => e = .returned (.int .u32 sv) ∧ W = w') := fun (W : World) (hW : Below w.heap.size w W) => by
    have h := refSum_any (some a) c1 ([] : List UInt8) W (h1.below hW) (by omega)
    rw [show bits .xor .u32 4294967295 (crcL 4294967295 ([] : List UInt8)) = sv from hsv] at h
    exact h
  have HB := Lib.hid (fun (W : World) (hW : Below w.heap.size w W) => h1.below hW)
  have HT := Lib.hid (fun (W : World) (hW : Below w.heap.size w W) => brd_take (h1.below hW) 0)
  have HD := Lib.hid (fun (W : World) (A' : Option Addr) (hW : Below w.heap.size w W) (hA' : A' = none ∨ (([] : List UInt8).drop 0).length = 0) => (show BRd W A' (([] : List UInt8).drop 0) from brd_none (by simp)))
  clear h0 ok0 h1 hsv
  go_enter Try.func5, Try.ntmps5
  go_wp2_with fail
  go_loopw [12] (fun idx wr => ∃ j : Nat, j ≤ zs.length ∧ idx = .int .i64 j ∧ Below w.heap.size w wr) (fun idx _ => zs.length - (intOf idx).toNat)
  case atStart => exact ⟨0, by omega, rfl, Below.refl _ _⟩
  case round =>
    obtain ⟨j, hj, rfl, hb⟩ := hrel
    have HBW := Lib.hid hb
    clear hb
    by_cases hik : j < zs.length
    · obtain ⟨g, off, rfl, hgl, hc⟩ := (HA.out _ HBW.out) (by omega)
      have c0 := hc j hik
      clear hc
      have HI := Lib.hid (HZ.out _ (List.getElem_mem hik))
      have x0 : (0 : Int) ≤ (j : Int) := by omega
      have x1 : (j : Int) < (zs.length : Int) := by omega
      have x2 : 0 < zs.length := by omega
      generalize zs[j] = z at *
      go_wp2_with fail
      refine (size_any z _ HI.out).mono ?_
      rintro e w' ⟨rfl, rfl⟩
      go_wp2_with fail
      refine (refInt_any z _ HI.out).mono ?_
      rintro e w2 ⟨v2, rfl, hown2, hg2⟩
      have HB2 := Lib.hid (bt HBW.out hg2)
      obtain ⟨a2, cap2, rfl, _, _⟩ := hown2.slice
      clear hown2 hg2
      generalize encI z = ez at *
      have hnn : ((ez.length : Int) != (ez.length : Int)) = false := by simp
      go_wp2_with fail
      go_roundw
      case rel => exact ⟨j + 1, by omega, by go_num, HB2.out⟩
      case measure => simp [intOf]; omega
    · obtain rfl : j = zs.length := by omega
      have hikI : ¬ ((zs.length : Int) < (zs.length : Int)) := by omega
      have hq0 : (0 : Int) ≤ (m : Int) := by omega
      have hq3 : ¬ ((([] : List UInt8).length : Int) + 1 = 0) := by omega
      have hq4 : ((m : Int)).tmod ((([] : List UInt8).length : Int) + 1) = ((0 : Nat) : Int) := by
        rw [show (([] : List UInt8).length : Int) + 1 = ((([] : List UInt8).length + 1 : Nat) : Int) by omega, ← hk]; rfl
      have hk0 : (0 : Int) ≤ (0 : Int) := by omega
      have ha0 : a.add 0 = a := if_pos rfl
      have hcI : (0 : Int) ≤ (c1 : Int) := by omega
      go_wp2_with fail
      go_region_held3 (fun w9 => True) (first | exact trivial | go_keep) (first
        | (go_at_call 13; refine (begun_any _).mono ?_; rintro e w2 ⟨rfl, h2⟩; have B1 := Lib.hid (bt (bdrew HBW.out) h2); clear h2)
        | (go_at_call 28; refine (HRA.out _ B1.out).mono ?_; rintro e w3 ⟨v3, rfl, o3, h3⟩; obtain ⟨a3, cap3, rfl, _, _⟩ := o3.slice; have R3 := Lib.hid o3.brd; have B3 := Lib.hid (bt B1.out h3); clear o3 h3)
        | (go_at_call 29; refine (HRB.out _ B3.out).mono ?_; rintro e w4 ⟨v4, rfl, o4, h4⟩; obtain ⟨a4, cap4, rfl, _, _⟩ := o4.slice; have R5 := Lib.hid (R3.out.below h4); have R4 := Lib.hid o4.brd; have B4 := Lib.hid (bt B3.out h4); have B5 := Lib.hid (bt B4.out (alloc_below _ (.cells #[.slice (some a) ([] : List UInt8).length c1] 26))); have HH5 : Hid ((w4.alloc (.cells #[.slice (some a) ([] : List UInt8).length c1] 26)).heap.size = w4.heap.size + 1) := (by show _ = _; simp); clear o4 h4)
        | (go_at_call 17; (have HE := equal_any a3 a4 cap3 cap4 _ _ _ R5.out R4.out); (rw [show (rowF zs == rowF zs) = true by simp] at HE); (refine HE.mono ?_); (rintro e w' ⟨rfl, rfl⟩))
        | (go_at_call 30; refine (sum_call _ _ _ _ sv ?_).mono ?_; (first
          | exact so1 w4 _ rfl _ (some a) c1 ([] : List UInt8) sv HSV.out (HB.out _ B4.out) (by omega)
          | exact so2 _ _ HH5.out _ _ _ _ _ _ _ ([] : List UInt8) 0 sv HSV.out (by simp; try omega) (by simp; try omega) (HT.out _ B5.out) (HD.out _ _ B5.out (by first | exact .inl rfl | exact .inr (by simp; try omega))) (by omega)
          | exact sox (so2 _ _ HH5.out _ _ _ _ _ _ _ ([] : List UInt8) 0 sv HSV.out (by simp; try omega) (by simp; try omega) (HT.out _ B5.out) (HD.out _ _ B5.out (by first | exact .inl rfl | exact .inr (by simp; try omega))) (by omega)) (by simp) _
          | exact so2 _ _ (by simp) _ _ _ _ _ _ _ ([] : List UInt8) 0 sv HSV.out (by simp; try omega) (by simp; try omega) (HT.out _ (bt B5.out (alloc_below _ _))) (HD.out _ _ (bt B5.out (alloc_below _ _)) (by first | exact .inl rfl | exact .inr (by simp; try omega))) (by omega)
          | exact so1 _ _ HH5.out _ (some a) c1 ([] : List UInt8) sv HSV.out (HB.out _ B5.out) (by omega)
          | exact sox (so1 _ _ HH5.out _ (some a) c1 ([] : List UInt8) sv HSV.out (HB.out _ B5.out) (by omega)) (by simp) _
          | exact so1 _ _ (by simp) _ (some a) c1 ([] : List UInt8) sv HSV.out (HB.out _ (bt B5.out (alloc_below _ _))) (by omega)); rintro e w' ⟨rfl, rfl⟩)
        | (go_at_call 31; refine (HS.out _ B5.out).mono ?_; rintro e w' ⟨rfl, rfl⟩)
        | fail)
      all_goals go_wp2_with fail
      all_goals go_ret
      all_goals exact ⟨rfl, bt (bt B5.out (alloc_below _ _)) (alloc_below _ _)⟩

theorem codecSums_all (A0 : Option Addr) (c0 : Nat) (zs : List Int) (A1 : Option Addr) (c1 : Nat) (b : List UInt8) (at0 : Int) (w : World) (h0 : IRd w A0 zs) (ok0 : ∀ z ∈ zs, In8 z) (la : zs.length ≤ 17592186043904) (h1 : BRd w A1 b) (hc : b.length ≤ c1) (hn : A1 = none → c1 = 0) (lb : b.length ≤ 140737488351232) (hat : 0 ≤ at0 ∧ at0 ≤ 65535) :
    Calls Try.prog 5 #[.slice A0 zs.length c0, .slice A1 b.length c1, .int .u16 at0] w fun e w' => e = .returned (.bool true) ∧ Below w.heap.size w w' := by
  obtain ⟨m, rfl⟩ : ∃ m : Nat, at0 = (m : Int) := ⟨at0.toNat, by omega⟩
  have hm : m ≤ 65535 := by omega
  rcases Nat.eq_zero_or_pos b.length with hz | hz
  · obtain rfl : b = [] := List.length_eq_zero_iff.1 hz
    cases A1 with
    | none =>
      obtain rfl := hn rfl
      exact codecSums_nil A0 c0 zs m _ w rfl (by simp [Nat.mod_one]) h0 ok0 la h1 lb hc hm
    | some a =>
      by_cases hc0 : c1 = 0
      · subst hc0
        exact codecSums_zero A0 c0 zs a m _ w rfl (by simp [Nat.mod_one]) h0 ok0 la h1 lb hc hm
      · exact codecSums_some A0 c0 zs a c1 m _ w rfl (by simp [Nat.mod_one]) h0 ok0 la h1 lb hc hc0 hm
  · obtain ⟨g, off, rfl, _⟩ := h1 hz
    have hkb : m % (b.length + 1) ≤ b.length := by have := Nat.mod_lt m (show 0 < b.length + 1 by omega); omega
    by_cases hck : c1 = m % (b.length + 1)
    · subst hck
      exact codecSums_end A0 c0 zs b g off m _ w rfl hkb h0 ok0 la h1 lb hc hm
    · exact codecSums_far A0 c0 zs b g off c1 m _ w rfl hkb h0 ok0 la h1 lb hc hck hm

set_option maxRecDepth 100000 in
theorem codecSums_lifted (os : Os) (started : os.Started) (H : Type) (enc : TypeId × Value → H) :
    ReturnsInHanded {} Try.checked os 5 .any (Rows.codecSumsSpec.pre6 enc Try.prog Try.f5 Rows.codecSumsRow.domain false) (Rows.codecSumsSpec.post enc Try.prog Try.f5 false true false false) := by
  refine returnsInHanded_of_change_sized (C := Try.checked) own started (by kernel_rfl) Try.func5
    (ChangeSpec.witness6 (enc := enc) (C := Try.checked) false ⟨#[], #[.slice none 0 0, .slice none 0 0, .int .u16 0], []⟩ 8 (by kernel_rfl) (by kernel_rfl) (by kernel_rfl) (by kernel_rfl)) ?_
  intro W base args ds gs before hval0 hW _ hsz _
  have hval : ∀ (j : Nat) t v, Try.f5.params[j]? = some t → args[j]? = some v → Value.okWide Try.prog W .any base t v := hval0
  have hW' := hW
  obtain ⟨p, q, hA0, hV, rfl, hfz, hnd⟩ := hW
  have hA : DataW.TrodAll enc Try.prog W 0 (fun _ => true) true Try.f5.params.toList args.toList ds p := hA0
  rw [Try.params5] at hA hval
  obtain ⟨v0, vs0, d0, ds0, p0, q0, hargs, rfl, rfl, h0, r0⟩ := trodAll_cons hA
  obtain ⟨v1, vs1, d1, ds1, p1, q1, rfl, rfl, rfl, h1, r1⟩ := trodAll_cons r0
  obtain ⟨v2, vs2, d2, ds2, p2, q2, rfl, rfl, rfl, h2, r2⟩ := trodAll_cons r1
  obtain ⟨rfl, rfl, rfl⟩ := trodAll_nil r2
  obtain rfl : args = #[v0, v1, v2] := by cases args; simp_all
  obtain ⟨rfl, rfl⟩ := trodVars_none hV
  simp only [List.append_nil] at hW'
  have hlt0 : ∀ x ∈ p0, x.block < W.heap.size := fun x hx => hW'.lt x (by simp [hx])
  have hlt1 : ∀ x ∈ p1, x.block < W.heap.size := fun x hx => hW'.lt x (by simp [hx])
  have hlt2 : ∀ x ∈ p2, x.block < W.heap.size := fun x hx => hW'.lt x (by simp [hx])
  have hreach : reachBytes ≤ 140737488351232 := by decide
  obtain ⟨A0, cap0, xs, rfl, hR0, ok0, hd0⟩ := open_in64 (hval 0 50 v0 rfl rfl) h0
  have b0 : xs.length * 8 ≤ reachBytes := by
    rcases hd0 with h0 | ⟨el, sp, e, he⟩
    · rw [h0]; simp
    · have hs : (el.length + sp.length) * Try.prog.bytesOf 2 ≤ reachBytes := sized_slice hsz (j := 0) (t := 50) (e := 2) rfl (by rw [e]; rfl) Try.underlying50
      rw [show Try.prog.bytesOf 2 = 8 by kernel_rfl] at hs
      omega
  obtain ⟨A1, cap1, b, rfl, hR1, hc1, hn1, hd1⟩ := open_bytes (hval 1 26 v1 rfl rfl) h1
  have b1 : b.length * 1 ≤ reachBytes := by
    rcases hd1 with h0 | ⟨el, sp, e, he⟩
    · rw [h0]; simp
    · have hs : (el.length + sp.length) * Try.prog.bytesOf 5 ≤ reachBytes := sized_slice hsz (j := 1) (t := 26) (e := 5) rfl (by rw [e]; rfl) Try.underlying26
      rw [show Try.prog.bytesOf 5 = 1 by kernel_rfl] at hs
      omega
  obtain ⟨at0, rfl, -, -, w2⟩ := open_int Try.underlying51 (hval 2 51 v2 rfl rfl) h2
  have i2 : 0 ≤ at0 ∧ at0 ≤ 65535 := by simpa [Lit.wf, IntKind.min, IntKind.max, IntKind.signed, IntKind.bits] using w2
  clear hA0 hval0
  refine (codecSums_all A0 cap0 xs A1 cap1 b at0 W hR0 ok0 (by omega) hR1 hc1 hn1 (by omega) i2).mono fun e W' ⟨he, hg⟩ => ?_
  subst he
  have hpost : Rows.codecSumsSpec.post enc Try.prog Try.f5 false true false false W _ _ W' := post_of_below (pa := p0 ++ (p1 ++ (p2 ++ []))) (pv := []) hW' (fun _ _ _ => (trodAll_cons_mk (shut_bool Try.underlying4 _) trodAll_mk0)) (fun sp hsp => (trodAll_cons_mk (WideElems.Trod_stays laidOut (by kernel_rfl) (of_decide_eq_true (by kernel_rfl)) h0 (fun x hx => hg.same (hlt0 x hx)) (fun x hx => hsp x (by simp [hx]))) (trodAll_cons_mk (WideElems.Trod_stays laidOut (by kernel_rfl) (of_decide_eq_true (by kernel_rfl)) h1 (fun x hx => hg.same (hlt1 x hx)) (fun x hx => hsp x (by simp [hx]))) (trodAll_cons_mk (WideElems.Trod_stays laidOut (by kernel_rfl) (of_decide_eq_true (by kernel_rfl)) h2 (fun x hx => hg.same (hlt2 x hx)) (fun x hx => hsp x (by simp [hx]))) trodAll_mk0)))) (fun _ _ => rfl) (by simp) hg (ok_one (by kernel_rfl) rfl (okWide_bool_mk Try.underlying4 _))
  exact ⟨_, rfl, hpost⟩

theorem codecSums_holds : Rows.CodecSumsSaid :=
  OpenClaim.holds_of_wide 5 Try.f5 rfl rfl rfl rfl rfl rfl rfl ⟨rfl, rfl, rfl, rfl, rfl⟩ rfl rfl rfl rfl rfl (by kernel_rfl) Try.func5 (by kernel_rfl)
    (of_decide_eq_true (by kernel_rfl)) (by unfold Func.isWrapper; first | (rw [if_pos (by decide +kernel)]; kernel_rfl) | (rw [if_neg (by decide +kernel)]; exact ⟨rfl, rfl⟩))
    (fun os started H enc _ => codecSums_lifted os started H enc)
end Go.Proofs.Ytdjppchcnbfcoaa
