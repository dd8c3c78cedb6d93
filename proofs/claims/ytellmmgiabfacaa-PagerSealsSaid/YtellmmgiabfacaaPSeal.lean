/-
  Of pager: a block's bytes (sign, Seal).
-/
import Derived.Test.YtellmmgiabfacaaPLit
import Derived.Test.YtellmmgiabfacaaDRep
import Derived.Test.YtellmmgiabfacaaENow
namespace Go.Proofs.Ytellmmgiabfacaa
open Go.ChangeShapes Go.WideShapes Go.ChangeAt Go.RowKit Go.Deep
set_option linter.unusedVariables false

/-- The checksum of bytes. -/
def crcV (l : List UInt8) : Int := bits .xor .u32 4294967295 (crcL 4294967295 l)
def crcN32 (l : List UInt8) : Nat := (crcV l).toNat
theorem crcV_in (l : List UInt8) : In32 (crcV l) := xor32_in _ _
theorem crcV_nat (l : List UInt8) : crcV l = (crcN32 l : Int) := by
  have := (crcV_in l).1
  unfold crcN32
  omega
theorem crcN_lt (l : List UInt8) : crcN32 l < 4294967296 := by
  have := (crcV_in l).2
  have := crcV_nat l
  omega
/-- Bytes and their checksum. -/
def signB (l : List UInt8) : List UInt8 := l ++ leB (crcN32 l) 4
def blockB (b : List UInt8) : List UInt8 := leB b.length 2 ++ b ++ List.replicate (4090 - b.length) 0
def sealB (b : List UInt8) : List UInt8 := signB (blockB b)
theorem blockB_len (b : List UInt8) (h : b.length ≤ 4090) : (blockB b).length = 4092 := by simp [blockB, leB_len]; omega
theorem sealB_len (b : List UInt8) (h : b.length ≤ 4090) : (sealB b).length = 4096 := by
  unfold sealB signB
  rw [List.length_append, blockB_len b h, leB_len]
/-- What little answers, as bytes that are read. -/
theorem little_brd (m k : Nat) (w : World) (hm : m < 4294967296) (hk : k = 2 ∨ k = 4) : Calls Try.prog 52 #[.int .u32 m, .int .i64 k] w fun e w' => ∃ a c, e = .returned (.slice a k c) ∧ BRd w' a (leB m k) ∧ Below w.heap.size w w' := by
  refine (little_any m k w hm hk).mono ?_
  rintro e w' ⟨a, c, rfl, ho, -, hb⟩
  have h := ho.brd
  rw [leB_len]
  exact ⟨a, c, rfl, h, hb⟩
theorem brd_take' {w : World} {A : Option Addr} {l : List UInt8} (h : BRd w A l) (n : Nat) : BRd w A (l.take n) := fun h0 => by
  have h1 : 0 < l.length := by simp at h0; omega
  obtain ⟨g, off, hA, hg, hc⟩ := h h1
  refine ⟨g, off, hA, hg, fun i hi => ?_⟩
  have hi' : i < l.length := by simp at hi; omega
  rw [hc i hi']
  simp
theorem own_raise {w : World} {B g n cap : Nat} {l : List UInt8} (h : OwnB w 0 (.slice (some ⟨g, 0, none⟩) n cap) l) (hB : B ≤ g) : OwnB w B (.slice (some ⟨g, 0, none⟩) n cap) l := by
  refine ⟨h.1, ?_⟩
  rcases h.2 with ⟨hv, _⟩ | ⟨g', cap', cur, hv, hb, hz⟩
  · cases hv
  · refine .inr ⟨g', cap', cur, hv, ?_, hz⟩
    have : g = g' := by
      simp only [Value.slice.injEq, Option.some.injEq, Addr.mk.injEq] at hv
      exact hv.1.1
    omega
theorem own_copyN {w : World} {g cap n : Nat} {m : List UInt8} (hown : OwnB w 0 (.slice (some ⟨g, 0, none⟩) n cap) m) (hn : n = m.length) (h0 : 0 < n) {A : Option Addr} {b : List UInt8} (hA : BRd w A b) (hb : 0 < b.length) (pos : Nat) (hfit : pos + b.length ≤ n) :
    ∃ w1, (∀ ty dc sc dl, dl = n - pos → (Builtin.copy_ #[23, 23] ty #[.slice (some ⟨g, pos, none⟩) dl dc, .slice A b.length sc]).run Try.prog w = .ok (goInt b.length) w1) ∧
      OwnB w1 0 (.slice (some ⟨g, 0, none⟩) n cap) (m.take pos ++ b ++ m.drop (pos + b.length)) ∧ Fr (fun k => k = g) w w1 := by
  subst hn
  obtain ⟨w1, h1, h2, h3⟩ := own_copy hown h0 hA hb pos hfit
  exact ⟨w1, h1, h2, h3.os, h3.tape, h3.output, h3.size, fun k hk hn => h3.block k hk fun e => hn (by simpa using e)⟩
theorem copy_none (w : World) (ty : TypeId) (d : Value) (A : Option Addr) (c : Nat) (g n cap o : Nat) (hd : d = .slice (some ⟨g, o, none⟩) n cap) : (Builtin.copy_ #[23, 23] ty #[d, .slice A 0 c]).run Try.prog w = .ok (goInt 0) w := by
  obtain ⟨i, hi, hz, hs, hbb⟩ := info_parts byteInfo
  have ht := Try.underlying23
  subst hd
  cases A <;> simp [Builtin.copy_, run_underlying ht, sizeOf, typeInfo, hi, Builtin.lenOf, Builtin.firstCells, loadCells, loadCellsFrom, storeCells]
set_option maxHeartbeats 3200000 in
set_option maxRecDepth 100000 in
theorem sign_any (g cap E : Nat) (l : List UInt8) (w : World) (hown : OwnB w 0 (.slice (some ⟨g, 0, none⟩) l.length cap) l) (hE : l.length = E + 4) (hl : l.length ≤ 4194304) (hc : l.length ≤ cap) :
    Calls Try.prog 53 #[.slice (some ⟨g, 0, none⟩) l.length cap] w fun e w' => e = .returned (.tuple #[]) ∧ OwnB w' 0 (.slice (some ⟨g, 0, none⟩) l.length cap) (signB (l.take E)) ∧ Fr (fun k => k = g) w w' := by
  have hgl : g < w.heap.size := (World.ownsRow.lt hown g rfl).2
  obtain ⟨N, hN⟩ : ∃ N, N = l.length := ⟨_, rfl⟩
  have HN := Lib.hid hN
  have hEI : (N : Int) - 4 = (E : Int) := by omega
  have hE4 : (E : Int) ≤ 4194304 := by omega
  have hEc : E ≤ cap := by omega
  have hEcI : (E : Int) ≤ (cap : Int) := by omega
  have hEN : (E : Int) ≤ (N : Int) := by omega
  have hNI : (N : Int) ≤ 4194304 := by omega
  have htl : (l.take E).length = E := by rw [List.length_take]; omega
  have HSUM : Hid (∀ W, Below w.heap.size w W → ∀ q c, W.cell? ⟨q, 0, none⟩ = some (.slice (some ⟨g, 0, none⟩) E cap) → Calls Try.prog 88 #[.slice (some ⟨q, 0, none⟩) 1 c] W fun e w' => e = .returned (.int .u32 (crcN32 (l.take E))) ∧ W = w') := fun W hW q c hq => by
    have h := sum_any q 0 c [⟨some ⟨g, 0, none⟩, cap, l.take E⟩] W (fun i hi => by
      obtain rfl : i = 0 := by simpa using hi
      refine ⟨by simp only [List.getElem_cons_zero, htl]; exact hq, ?_, by simp only [List.getElem_cons_zero, htl]; omega⟩
      have hb := (brd_take' (hown.below hW).brd E)
      exact hb) (by simp)
    have e : bits .xor .u32 4294967295 (crcE [⟨some ⟨g, 0, none⟩, cap, l.take E⟩]) = (crcN32 (l.take E) : Int) := by
      rw [← crcV_nat]
      unfold crcV crcE
      simp
    rw [e] at h
    exact h
  have HLI := Lib.hid (fun W => little_brd (crcN32 (l.take E)) 4 W (crcN_lt _) (.inr rfl))
  have HO := Lib.hid hown
  rw [← hN]
  obtain ⟨C, hC⟩ : ∃ C, C = crcN32 (l.take E) := ⟨_, rfl⟩
  rw [← hC] at HSUM HLI
  have HC := Lib.hid hC
  have hne : ¬ cap = E := by omega
  have hEl : E < cap := by omega
  have HCM := Lib.hid hc
  have HE := Lib.hid hE
  clear hown hN hl hE htl hC hc
  go_enter Try.func53, Try.ntmps53
  go_wp2_with fail
  have hwd : Below w.heap.size w w.drew := (Below.refl _ _).drew
  go_region_law (first
    | (refine step_copy (by rfl) _ _ 23 23 (by rfl) (.slice (some ⟨g, E, none⟩) (N - E) (cap - E)) (.slice a3 4 k3) (by rfl) (by rfl) (hcp _ _ _ _ (by rw [HN.out])) ?_)
    | (go_simp; go_at_call 88; refine (HSUM.out _ (by first | exact alloc_below w _ | exact (alloc_below w _).drew | exact bt hwd (alloc_below _ _)) _ _ (by exact World.cell?_alloc_at _ _ _ _ rfl)).mono ?_; rintro e w2 ⟨rfl, rfl⟩)
    | (go_simp; go_at_call 52; refine (HLI.out _).mono ?_; rintro e w3 ⟨a3, k3, rfl, ho3, hb3⟩; have hbw := (show Below w.heap.size w w3 from (by first | exact bt (alloc_below w _) hb3 | exact bt (alloc_below w _).drew hb3 | exact bt (bt hwd (alloc_below _ _)) hb3)); obtain ⟨w4, hcp, hown4, hg4⟩ := own_copy (HO.out.below hbw) (by have := HE.out; omega) ho3 (by rw [leB_len]; omega) E (by rw [leB_len]; have := HE.out; omega); rw [leB_len] at hcp; have HO4 := Lib.hid hown4; have HG4 := Lib.hid hg4; have HBW := Lib.hid hbw; clear hown4 hg4 ho3 hb3 hbw))
  first | go_end0 | skip
  have hfr4 : Fr (fun k => k = g) w3 w4 := ⟨HG4.out.os, HG4.out.tape, HG4.out.output, HG4.out.size, fun k hk hn => HG4.out.block k hk fun e => hn (by simpa using e)⟩
  refine ⟨rfl, ?_, (Fr.of_below HBW.out).trans' hfr4 fun _ _ h => h⟩
  have h := HO4.out
  rw [leB_len, List.drop_eq_nil_of_le (by have := HE.out; omega), List.append_nil, HC.out] at h
  rw [HN.out]
  have e : (l.take E ++ leB (crcN32 (l.take E)) 4).length = l.length := by rw [List.length_append, List.length_take, leB_len]; have := HE.out; omega
  exact h
set_option maxHeartbeats 3200000 in
set_option maxRecDepth 100000 in
theorem seal_long (A : Option Addr) (c : Nat) (b : List UInt8) (w : World) (h : 4090 < b.length) : Calls Try.prog 11 #[.slice A b.length c] w fun e w' => e = .returned (.tuple #[.slice none 0 0, .int .i64 3]) ∧ w = w' := by
  have hI : (4090 : Int) < (b.length : Int) := by omega
  clear h
  go_enter Try.func11, Try.ntmps11
  go_wp2_with fail
  go_ret2
  exact ⟨rfl, rfl⟩
/-- What Seal answers. -/
def SealPost (b : List UInt8) (w : World) (e : Ending) (w' : World) : Prop := ∃ a k, e = .returned (.tuple #[.slice a 4096 k, .int .i64 0]) ∧ OwnB w' w.heap.size (.slice a 4096 k) (sealB b) ∧ Below w.heap.size w w'
set_option maxHeartbeats 3200000 in
set_option maxRecDepth 100000 in
theorem seal_any (A : Option Addr) (c : Nat) (b : List UInt8) (w : World) (hA : BRd w A b) (hb : b.length ≤ 4090) : Calls Try.prog 11 #[.slice A b.length c] w (SealPost b w) := by
  obtain ⟨n, hn⟩ : ∃ n, n = b.length := ⟨_, rfl⟩
  have HN := Lib.hid hn
  have hnI : (n : Int) ≤ 4090 := by omega
  have hn0 : (0 : Int) ≤ (n : Int) := by omega
  have HA := Lib.hid hA
  have HLI := Lib.hid (fun W => little_brd n 2 W (by omega) (.inl rfl))
  have hmk := run_make_row' (P := Try.prog) 23 5 (.int .u8 0) 1 Try.underlying23 byteInfo rfl .i64 .i64 4096 (by omega) (by omega)
  rw [show ((4096 : Nat) : Int) = 4096 from rfl] at hmk
  rw [← hn]
  have HO := Lib.hid (OwnB.made w 4096 (by omega))
  have HB := Lib.hid (alloc_below w (.cells (madeCells #[.int .u8 0] 4096) 5))
  clear hn hA hb
  go_enter Try.func11, Try.ntmps11
  go_wp2_with fail
  clear hmk
  generalize w.alloc (.cells (madeCells #[.int .u8 0] 4096) 5) = w1 at *
  refine (HLI.out _).mono ?_
  rintro e w2 ⟨a2, k2, rfl, ho2, hb2⟩
  have hO2 : OwnB w2 0 (.slice (some ⟨w.heap.size, 0, none⟩) 4096 4096) (List.replicate 4096 0) := (HO.out.below hb2).low (Nat.zero_le _)
  obtain ⟨w3, hcp, ho3, hf3⟩ := own_copyN hO2 (by simp) (by omega) ho2 (by rw [leB_len]; omega) 0 (by rw [leB_len]; omega)
  have e3 : (List.replicate 4096 (0 : UInt8)).take 0 ++ leB n 2 ++ (List.replicate 4096 (0 : UInt8)).drop (0 + (leB n 2).length) = leB n 2 ++ List.replicate 4094 0 := by rw [leB_len]; simp
  rw [e3] at ho3
  rw [leB_len] at hcp
  have hcp1 := hcp 3 4096 k2 4096 rfl
  have hb02 : Below w.heap.size w w2 := below_tr HB.out (hb2.mono HB.out.size)
  have HF3 : Hid (Below w.heap.size w w2 ∧ Fr (fun k => k = w.heap.size) w2 w3) := ⟨hb02, hf3⟩
  have HA3 : Hid (BRd w3 A b) := (HA.out.below hb02).fr' hf3 fun h0 x hx e => by
    obtain ⟨g', o', e', hl', _⟩ := HA.out h0
    rw [hx] at e'
    obtain rfl := Option.some.inj e'
    simp only at e
    omega
  have HO3 := Lib.hid ho3
  have hblen : (leB n 2 ++ List.replicate 4094 (0 : UInt8)).length = 4096 := by simp [leB_len]
  have main : ∀ w4 : World, Fr (fun k => k = w.heap.size) w3 w4 → OwnB w4 0 (.slice (some ⟨w.heap.size, 0, none⟩) 4096 4096) (leB n 2 ++ b ++ List.replicate (4094 - n) 0) → Calls Try.prog 53 #[.slice (some ⟨w.heap.size, 0, none⟩) 4096 4096] w4 fun e w' => e = .returned (.tuple #[]) ∧ OwnB w' w.heap.size (.slice (some ⟨w.heap.size, 0, none⟩) 4096 4096) (sealB b) ∧ Below w.heap.size w w' := by
    intro w4 hf4 ho4
    have hl4 : (leB n 2 ++ b ++ List.replicate (4094 - n) (0 : UInt8)).length = 4096 := by simp [leB_len, ← HN.out]; omega
    have h := sign_any w.heap.size 4096 4092 _ w4 (by rw [hl4]; exact ho4) hl4 (by rw [hl4]; omega) (by rw [hl4]; exact Nat.le_refl _)
    rw [hl4] at h
    refine h.mono ?_
    rintro e w' ⟨rfl, h1, h2⟩
    refine ⟨rfl, ?_, ?_⟩
    · have e5 : (leB n 2 ++ b ++ List.replicate (4094 - n) (0 : UInt8)).take 4092 = blockB b := by
        unfold blockB
        rw [← HN.out, List.take_append, List.take_of_length_le (by simp [leB_len, ← HN.out]; omega), List.take_replicate]
        congr 2
        simp [leB_len, ← HN.out]
        omega
      rw [e5] at h1
      exact own_raise h1 (Nat.le_refl _)
    · exact below_tr HF3.out.1 (((HF3.out.2.trans' hf4 fun _ _ h => h).trans' h2 fun _ _ h => h).below (fun k hk => by omega) hb02.size)
  have HM := Lib.hid main
  clear hcp ho3 hf3 e3 hO2 ho2 hb2 HO HB main hb02
  by_cases hn0 : 0 < n
  · obtain ⟨w4, hcp2, ho4, hf4⟩ := own_copyN HO3.out hblen.symm (by omega) HA3.out (by rw [← HN.out]; exact hn0) 2 (by rw [← HN.out]; omega)
    have e4 : (leB n 2 ++ List.replicate 4094 (0 : UInt8)).take 2 ++ b ++ (leB n 2 ++ List.replicate 4094 (0 : UInt8)).drop (2 + b.length) = leB n 2 ++ b ++ List.replicate (4094 - n) 0 := by
      rw [List.take_append_of_le_length (by rw [leB_len]; exact Nat.le_refl _), List.take_of_length_le (by rw [leB_len]; exact Nat.le_refl _), List.drop_append, leB_len, List.drop_eq_nil_of_le (by rw [leB_len]; omega), List.nil_append, List.drop_replicate, ← HN.out]
      congr 2
      omega
    rw [e4] at ho4
    rw [← HN.out] at hcp2
    have hcp3 := hcp2 3 4094 c 4094 rfl
    have HM4 := Lib.hid (HM.out w4 hf4 ho4)
    clear hcp2 ho4 hf4 e4 HM hblen
    go_wp2_with fail
    refine HM4.out.mono ?_
    rintro e w5 ⟨rfl, ho5, hb5⟩
    have HO5 := Lib.hid ho5
    have HB5 := Lib.hid hb5
    clear ho5 hb5 HM4
    go_wp2_with fail
    go_ret2
    exact ⟨_, _, rfl, HO5.out, HB5.out⟩
  · obtain rfl : n = 0 := by omega
    have hb0 : b = [] := List.length_eq_zero_iff.1 HN.out.symm
    have HM4 := Lib.hid (HM.out w3 (Fr.refl _ _) (by rw [hb0]; have h := HO3.out; simpa using h))
    have hcp3 := copy_none w3 3 (.slice (some ⟨w.heap.size, 2, none⟩) 4094 4094) A c w.heap.size 4094 4094 2 rfl
    have hz : ((0 : Nat) : Int) = 0 := rfl
    clear HM hblen hb0
    go_wp2_with fail
    refine HM4.out.mono ?_
    rintro e w5 ⟨rfl, ho5, hb5⟩
    have HO5 := Lib.hid ho5
    have HB5 := Lib.hid hb5
    clear ho5 hb5 HM4
    go_wp2_with fail
    go_ret2
    exact ⟨_, _, rfl, HO5.out, HB5.out⟩
end Go.Proofs.Ytellmmgiabfacaa
