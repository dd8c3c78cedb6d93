/-
  Casts: what a text is read as, the program's side.
  Casts: castToText, castToNumber.
-/
import Derived.Test.YtogdkhnakenbcaaGreatDoorVCast1
import Derived.Test.YtogdkhnakenbcaaGreatDoorVCast2
import Derived.Test.YtogdkhnakenbcaaGreatDoorRefDecs
import Derived.Test.YtogdkhnakenbcaaGreatDoorDaysRead
import Derived.Test.YtogdkhnakenbcaaGreatDoorVLaid
import Derived.Test.YtogdkhnakenbcaaGreatDoorVRefShow2
namespace Go.Proofs.YtogdkhnakenbcaaGreatDoor
section

open Go.ChangeShapes Go.WideShapes Go.ChangeAt Go.RowKit
set_option linter.unusedVariables false

def dcE (l : List UInt8) (s : Int) : Int := if dE l = 0 then scE (dV l) (dS l) s else dE l
def dcV (l : List UInt8) (s : Int) : Int := if dE l = 0 then scV (dV l) (dS l) s else 0
def fE (k : Int) (l : List UInt8) (s : Int) : Int := if k = 1 then bE l else if k = 2 then pE l else if k = 3 then dcE l s else tE l
def fV (k : Int) (l : List UInt8) (s : Int) : Int := if k = 1 then bV l else if k = 2 then pI l else if k = 3 then dcV l s else tV l
/-- What a text is as a value of a kind, and whether it is one. -/
def rdE (k : Int) (l : List UInt8) (s : Int) : Int := if fE k l s = 0 then 0 else 22
def rdN (k : Int) (l : List UInt8) (s : Int) : Int := if fE k l s = 0 then fV k l s else 0

theorem parseDecC_any (l : List UInt8) (s : Int) (hl : l.length ≤ 140737488355328) (w : World) (hV : VRange w) : Calls Tryz.prog 74 #[.string ⟨l.toArray⟩, .int .i64 s] w fun e w' => e = .returned (.tuple #[.int .i64 (dcV l s), .int .i64 (dcE l s)]) ∧ Below w.heap.size w w' := by
  have H1 := Lib.hid (fun W h => parseDec_any l hl W h)
  have H2 := Lib.hid (fun W => scale_any (dV l) (dS l) s W)
  have HE : Hid (dcE l s = if dE l = 0 then scE (dV l) (dS l) s else dE l) := rfl
  have HV : Hid (dcV l s = if dE l = 0 then scV (dV l) (dS l) s else 0) := rfl
  generalize scV (dV l) (dS l) s = x at *
  generalize scE (dV l) (dS l) s = y at *
  generalize dV l = dv at *
  generalize dS l = ds at *
  generalize dE l = de at *
  generalize dcE l s = ee at *
  generalize dcV l s = vv at *
  by_cases h : de = 0
  · subst h
    obtain rfl : vv = x := HV.out.trans (if_pos rfl)
    obtain rfl : ee = y := HE.out.trans (if_pos rfl)
    go_enter Tryz.func74, Tryz.ntmps74
    go_wp2_with fail
    refine (H1.out _ hV).mono ?_
    rintro e w1 ⟨rfl, hb⟩
    go_wp2_with fail
    refine (H2.out _).mono ?_
    rintro e w2 ⟨rfl, hb2⟩
    go_wp2
    go_ret2
    exact ⟨rfl, bt hb hb2⟩
  · obtain rfl : vv = 0 := HV.out.trans (if_neg h)
    obtain rfl : ee = de := HE.out.trans (if_neg h)
    go_enter Tryz.func74, Tryz.ntmps74
    go_wp2_with fail
    refine (H1.out _ hV).mono ?_
    rintro e w1 ⟨rfl, hb⟩
    go_wp2
    go_ret2
    exact ⟨rfl, hb⟩

set_option maxHeartbeats 1600000 in
theorem parse_1 (l : List UInt8) (s : Int) (hl : l.length ≤ 140737488355328) (w : World) (hV : VRange w) (hM : MLaid w) : Calls Tryz.prog 45 #[.string ⟨l.toArray⟩, .agg #[.int .i64 1, .int .i64 s]] w fun e w' => e = .returned (.tuple #[.int .i64 (rdN 1 l s), .int .i64 (rdE 1 l s)]) ∧ Below w.heap.size w w' := by
  have H1 := Lib.hid (fun W (h : Below w.heap.size w W) => parseBool_any l (by omega) W)
  have HE : Hid (rdE 1 l s = if bE l = 0 then 0 else 22) := rfl
  have HN : Hid (rdN 1 l s = if bE l = 0 then bV l else 0) := rfl
  generalize bV l = x at *
  generalize bE l = y at *
  generalize rdE 1 l s = ee at *
  generalize rdN 1 l s = vv at *
  by_cases h : y = 0
  · subst h
    obtain rfl : vv = x := HN.out.trans (if_pos rfl)
    obtain rfl : ee = 0 := HE.out.trans (if_pos rfl)
    go_enter Tryz.func45, Tryz.ntmps45
    go_wp2_with fail
    refine (H1.out _ (alloc_below _ _)).mono ?_
    rintro e w1 ⟨rfl, rfl⟩
    have hB1 := alloc_below w (.cells #[.int .i64 1, .int .i64 s] 23)
    go_wp2
    go_ret2
    exact ⟨rfl, hB1⟩
  · obtain rfl : vv = 0 := HN.out.trans (if_neg h)
    obtain rfl : ee = 22 := HE.out.trans (if_neg h)
    go_enter Tryz.func45, Tryz.ntmps45
    go_wp2_with fail
    refine (H1.out _ (alloc_below _ _)).mono ?_
    rintro e w1 ⟨rfl, rfl⟩
    have hB1 := alloc_below w (.cells #[.int .i64 1, .int .i64 s] 23)
    go_wp2
    go_ret2
    exact ⟨rfl, hB1⟩

set_option maxHeartbeats 1600000 in
theorem parse_2 (l : List UInt8) (s : Int) (hl : l.length ≤ 140737488355328) (w : World) (hV : VRange w) (hM : MLaid w) : Calls Tryz.prog 45 #[.string ⟨l.toArray⟩, .agg #[.int .i64 2, .int .i64 s]] w fun e w' => e = .returned (.tuple #[.int .i64 (rdN 2 l s), .int .i64 (rdE 2 l s)]) ∧ Below w.heap.size w w' := by
  have H1 := Lib.hid (fun W (h : Below w.heap.size w W) => parseInt_any l (by omega) W (hV.next h))
  have HE : Hid (rdE 2 l s = if pE l = 0 then 0 else 22) := rfl
  have HN : Hid (rdN 2 l s = if pE l = 0 then pI l else 0) := rfl
  generalize pI l = x at *
  generalize pE l = y at *
  generalize rdE 2 l s = ee at *
  generalize rdN 2 l s = vv at *
  by_cases h : y = 0
  · subst h
    obtain rfl : vv = x := HN.out.trans (if_pos rfl)
    obtain rfl : ee = 0 := HE.out.trans (if_pos rfl)
    go_enter Tryz.func45, Tryz.ntmps45
    go_wp2_with fail
    refine (H1.out _ (alloc_below _ _)).mono ?_
    rintro e w1 ⟨rfl, hb⟩
    have hB1 := b1 hb
    go_wp2
    go_ret2
    exact ⟨rfl, hB1⟩
  · obtain rfl : vv = 0 := HN.out.trans (if_neg h)
    obtain rfl : ee = 22 := HE.out.trans (if_neg h)
    go_enter Tryz.func45, Tryz.ntmps45
    go_wp2_with fail
    refine (H1.out _ (alloc_below _ _)).mono ?_
    rintro e w1 ⟨rfl, hb⟩
    have hB1 := b1 hb
    go_wp2
    go_ret2
    exact ⟨rfl, hB1⟩

set_option maxHeartbeats 1600000 in
theorem parse_3 (l : List UInt8) (s : Int) (hl : l.length ≤ 140737488355328) (w : World) (hV : VRange w) (hM : MLaid w) : Calls Tryz.prog 45 #[.string ⟨l.toArray⟩, .agg #[.int .i64 3, .int .i64 s]] w fun e w' => e = .returned (.tuple #[.int .i64 (rdN 3 l s), .int .i64 (rdE 3 l s)]) ∧ Below w.heap.size w w' := by
  have H1 := Lib.hid (fun W (h : Below w.heap.size w W) => parseDecC_any l s hl W (hV.next h))
  have HE : Hid (rdE 3 l s = if dcE l s = 0 then 0 else 22) := rfl
  have HN : Hid (rdN 3 l s = if dcE l s = 0 then dcV l s else 0) := rfl
  generalize dcV l s = x at *
  generalize dcE l s = y at *
  generalize rdE 3 l s = ee at *
  generalize rdN 3 l s = vv at *
  by_cases h : y = 0
  · subst h
    obtain rfl : vv = x := HN.out.trans (if_pos rfl)
    obtain rfl : ee = 0 := HE.out.trans (if_pos rfl)
    go_enter Tryz.func45, Tryz.ntmps45
    go_wp2_with fail
    refine (H1.out _ (alloc_below _ _)).mono ?_
    rintro e w1 ⟨rfl, hb⟩
    have hB1 := b1 hb
    go_wp2
    go_ret2
    exact ⟨rfl, hB1⟩
  · obtain rfl : vv = 0 := HN.out.trans (if_neg h)
    obtain rfl : ee = 22 := HE.out.trans (if_neg h)
    go_enter Tryz.func45, Tryz.ntmps45
    go_wp2_with fail
    refine (H1.out _ (alloc_below _ _)).mono ?_
    rintro e w1 ⟨rfl, hb⟩
    have hB1 := b1 hb
    go_wp2
    go_ret2
    exact ⟨rfl, hB1⟩

set_option maxHeartbeats 1600000 in
theorem parse_5 (l : List UInt8) (s : Int) (hl : l.length ≤ 140737488355328) (w : World) (hV : VRange w) (hM : MLaid w) : Calls Tryz.prog 45 #[.string ⟨l.toArray⟩, .agg #[.int .i64 5, .int .i64 s]] w fun e w' => e = .returned (.tuple #[.int .i64 (rdN 5 l s), .int .i64 (rdE 5 l s)]) ∧ Below w.heap.size w w' := by
  have H1 := Lib.hid (fun W (h : Below w.heap.size w W) => parseDay_any l hl W (hM.next h))
  have HE : Hid (rdE 5 l s = if tE l = 0 then 0 else 22) := rfl
  have HN : Hid (rdN 5 l s = if tE l = 0 then tV l else 0) := rfl
  generalize tV l = x at *
  generalize tE l = y at *
  generalize rdE 5 l s = ee at *
  generalize rdN 5 l s = vv at *
  by_cases h : y = 0
  · subst h
    obtain rfl : vv = x := HN.out.trans (if_pos rfl)
    obtain rfl : ee = 0 := HE.out.trans (if_pos rfl)
    go_enter Tryz.func45, Tryz.ntmps45
    go_wp2_with fail
    refine (H1.out _ (alloc_below _ _)).mono ?_
    rintro e w1 ⟨rfl, hb⟩
    have hB1 := b1 hb
    go_wp2
    go_ret2
    exact ⟨rfl, hB1⟩
  · obtain rfl : vv = 0 := HN.out.trans (if_neg h)
    obtain rfl : ee = 22 := HE.out.trans (if_neg h)
    go_enter Tryz.func45, Tryz.ntmps45
    go_wp2_with fail
    refine (H1.out _ (alloc_below _ _)).mono ?_
    rintro e w1 ⟨rfl, hb⟩
    have hB1 := b1 hb
    go_wp2
    go_ret2
    exact ⟨rfl, hB1⟩

end

section

open Go.ChangeShapes Go.WideShapes Go.ChangeAt Go.RowKit
set_option linter.unusedVariables false

theorem alloc2B (w : World) (a b : Obj) : Below w.heap.size w ((w.alloc a).alloc b) := (alloc_below w a).alloc (by simp) b
/-- What a value that is there holds as one of a kind other than Text, and the error. -/
def cnE (v : VR) (tk ts : Int) : Int := if v.k = 4 then rdE tk v.t.data.toList ts else if v.k = 2 ∧ tk = 3 then reE v.n 0 ts else if v.k = 3 then reE v.n v.s ts else 0
def cnV (v : VR) (tk ts : Int) : Int := if v.k = 4 then rdN tk v.t.data.toList ts else if v.k = 2 ∧ tk = 3 then reV v.n 0 ts else if v.k = 3 then reV v.n v.s ts else v.n

set_option maxHeartbeats 1600000 in
theorem castNum_4_1 (l : List UInt8) (s n ts : Int) (w : World) (hl : l.length ≤ 140737488355328) (hV : VRange w) (hM : MLaid w) : Calls Tryz.prog 22 #[.agg #[.int .i64 4, .int .i64 s, .bool false, .int .i64 n, .string ⟨l.toArray⟩], .agg #[.int .i64 1, .int .i64 ts]] w fun e w' => e = .returned (.tuple #[.int .i64 (cnV ⟨4, s, false, n, ⟨l.toArray⟩⟩ 1 ts), .int .i64 (cnE ⟨4, s, false, n, ⟨l.toArray⟩⟩ 1 ts)]) ∧ Below w.heap.size w w' := by
  have HV : Hid (cnV ⟨4, s, false, n, ⟨l.toArray⟩⟩ 1 ts = rdN 1 l ts) := rfl
  have HE : Hid (cnE ⟨4, s, false, n, ⟨l.toArray⟩⟩ 1 ts = rdE 1 l ts) := rfl
  rw [HV.out, HE.out]
  have H1 := Lib.hid (fun W (h : Below w.heap.size w W) => parse_1 l ts hl W (hV.next h) (hM.next h))
  go_enter Tryz.func22, Tryz.ntmps22
  go_wp2_with fail
  refine (H1.out _ (by first | exact alloc2B _ _ _ | exact below_drew (alloc2B _ _ _))).mono ?_
  rintro e w1 ⟨rfl, hb⟩
  have hB1 := bt (by first | exact alloc2B _ _ _ | exact below_drew (alloc2B _ _ _)) hb
  clear hb
  go_wp2
  go_ret2
  exact ⟨rfl, hB1⟩

set_option maxHeartbeats 1600000 in
theorem castNum_4_2 (l : List UInt8) (s n ts : Int) (w : World) (hl : l.length ≤ 140737488355328) (hV : VRange w) (hM : MLaid w) : Calls Tryz.prog 22 #[.agg #[.int .i64 4, .int .i64 s, .bool false, .int .i64 n, .string ⟨l.toArray⟩], .agg #[.int .i64 2, .int .i64 ts]] w fun e w' => e = .returned (.tuple #[.int .i64 (cnV ⟨4, s, false, n, ⟨l.toArray⟩⟩ 2 ts), .int .i64 (cnE ⟨4, s, false, n, ⟨l.toArray⟩⟩ 2 ts)]) ∧ Below w.heap.size w w' := by
  have HV : Hid (cnV ⟨4, s, false, n, ⟨l.toArray⟩⟩ 2 ts = rdN 2 l ts) := rfl
  have HE : Hid (cnE ⟨4, s, false, n, ⟨l.toArray⟩⟩ 2 ts = rdE 2 l ts) := rfl
  rw [HV.out, HE.out]
  have H1 := Lib.hid (fun W (h : Below w.heap.size w W) => parse_2 l ts hl W (hV.next h) (hM.next h))
  go_enter Tryz.func22, Tryz.ntmps22
  go_wp2_with fail
  refine (H1.out _ (by first | exact alloc2B _ _ _ | exact below_drew (alloc2B _ _ _))).mono ?_
  rintro e w1 ⟨rfl, hb⟩
  have hB1 := bt (by first | exact alloc2B _ _ _ | exact below_drew (alloc2B _ _ _)) hb
  clear hb
  go_wp2
  go_ret2
  exact ⟨rfl, hB1⟩

set_option maxHeartbeats 1600000 in
theorem castNum_4_3 (l : List UInt8) (s n ts : Int) (w : World) (hl : l.length ≤ 140737488355328) (hV : VRange w) (hM : MLaid w) : Calls Tryz.prog 22 #[.agg #[.int .i64 4, .int .i64 s, .bool false, .int .i64 n, .string ⟨l.toArray⟩], .agg #[.int .i64 3, .int .i64 ts]] w fun e w' => e = .returned (.tuple #[.int .i64 (cnV ⟨4, s, false, n, ⟨l.toArray⟩⟩ 3 ts), .int .i64 (cnE ⟨4, s, false, n, ⟨l.toArray⟩⟩ 3 ts)]) ∧ Below w.heap.size w w' := by
  have HV : Hid (cnV ⟨4, s, false, n, ⟨l.toArray⟩⟩ 3 ts = rdN 3 l ts) := rfl
  have HE : Hid (cnE ⟨4, s, false, n, ⟨l.toArray⟩⟩ 3 ts = rdE 3 l ts) := rfl
  rw [HV.out, HE.out]
  have H1 := Lib.hid (fun W (h : Below w.heap.size w W) => parse_3 l ts hl W (hV.next h) (hM.next h))
  go_enter Tryz.func22, Tryz.ntmps22
  go_wp2_with fail
  refine (H1.out _ (by first | exact alloc2B _ _ _ | exact below_drew (alloc2B _ _ _))).mono ?_
  rintro e w1 ⟨rfl, hb⟩
  have hB1 := bt (by first | exact alloc2B _ _ _ | exact below_drew (alloc2B _ _ _)) hb
  clear hb
  go_wp2
  go_ret2
  exact ⟨rfl, hB1⟩

set_option maxHeartbeats 1600000 in
theorem castNum_4_5 (l : List UInt8) (s n ts : Int) (w : World) (hl : l.length ≤ 140737488355328) (hV : VRange w) (hM : MLaid w) : Calls Tryz.prog 22 #[.agg #[.int .i64 4, .int .i64 s, .bool false, .int .i64 n, .string ⟨l.toArray⟩], .agg #[.int .i64 5, .int .i64 ts]] w fun e w' => e = .returned (.tuple #[.int .i64 (cnV ⟨4, s, false, n, ⟨l.toArray⟩⟩ 5 ts), .int .i64 (cnE ⟨4, s, false, n, ⟨l.toArray⟩⟩ 5 ts)]) ∧ Below w.heap.size w w' := by
  have HV : Hid (cnV ⟨4, s, false, n, ⟨l.toArray⟩⟩ 5 ts = rdN 5 l ts) := rfl
  have HE : Hid (cnE ⟨4, s, false, n, ⟨l.toArray⟩⟩ 5 ts = rdE 5 l ts) := rfl
  rw [HV.out, HE.out]
  have H1 := Lib.hid (fun W (h : Below w.heap.size w W) => parse_5 l ts hl W (hV.next h) (hM.next h))
  go_enter Tryz.func22, Tryz.ntmps22
  go_wp2_with fail
  refine (H1.out _ (by first | exact alloc2B _ _ _ | exact below_drew (alloc2B _ _ _))).mono ?_
  rintro e w1 ⟨rfl, hb⟩
  have hB1 := bt (by first | exact alloc2B _ _ _ | exact below_drew (alloc2B _ _ _)) hb
  clear hb
  go_wp2
  go_ret2
  exact ⟨rfl, hB1⟩

set_option maxHeartbeats 1600000 in
theorem castNum_2_3 (l : List UInt8) (s n ts : Int) (w : World) : Calls Tryz.prog 22 #[.agg #[.int .i64 2, .int .i64 s, .bool false, .int .i64 n, .string ⟨l.toArray⟩], .agg #[.int .i64 3, .int .i64 ts]] w fun e w' => e = .returned (.tuple #[.int .i64 (cnV ⟨2, s, false, n, ⟨l.toArray⟩⟩ 3 ts), .int .i64 (cnE ⟨2, s, false, n, ⟨l.toArray⟩⟩ 3 ts)]) ∧ Below w.heap.size w w' := by
  have HV : Hid (cnV ⟨2, s, false, n, ⟨l.toArray⟩⟩ 3 ts = reV n 0 ts) := rfl
  have HE : Hid (cnE ⟨2, s, false, n, ⟨l.toArray⟩⟩ 3 ts = reE n 0 ts) := rfl
  rw [HV.out, HE.out]
  have H1 := Lib.hid (fun W (h : Below w.heap.size w W) => rescale_any n 0 ts W)
  go_enter Tryz.func22, Tryz.ntmps22
  go_wp2_with fail
  refine (H1.out _ (by first | exact alloc2B _ _ _ | exact below_drew (alloc2B _ _ _))).mono ?_
  rintro e w1 ⟨rfl, hb⟩
  have hB1 := bt (by first | exact alloc2B _ _ _ | exact below_drew (alloc2B _ _ _)) hb
  clear hb
  go_wp2
  go_ret2
  exact ⟨rfl, hB1⟩

set_option maxHeartbeats 1600000 in
theorem castNum_3_2 (l : List UInt8) (s n ts : Int) (w : World) : Calls Tryz.prog 22 #[.agg #[.int .i64 3, .int .i64 s, .bool false, .int .i64 n, .string ⟨l.toArray⟩], .agg #[.int .i64 2, .int .i64 ts]] w fun e w' => e = .returned (.tuple #[.int .i64 (cnV ⟨3, s, false, n, ⟨l.toArray⟩⟩ 2 ts), .int .i64 (cnE ⟨3, s, false, n, ⟨l.toArray⟩⟩ 2 ts)]) ∧ Below w.heap.size w w' := by
  have HV : Hid (cnV ⟨3, s, false, n, ⟨l.toArray⟩⟩ 2 ts = reV n s ts) := rfl
  have HE : Hid (cnE ⟨3, s, false, n, ⟨l.toArray⟩⟩ 2 ts = reE n s ts) := rfl
  rw [HV.out, HE.out]
  have H1 := Lib.hid (fun W (h : Below w.heap.size w W) => rescale_any n s ts W)
  go_enter Tryz.func22, Tryz.ntmps22
  go_wp2_with fail
  refine (H1.out _ (by first | exact alloc2B _ _ _ | exact below_drew (alloc2B _ _ _))).mono ?_
  rintro e w1 ⟨rfl, hb⟩
  have hB1 := bt (by first | exact alloc2B _ _ _ | exact below_drew (alloc2B _ _ _)) hb
  clear hb
  go_wp2
  go_ret2
  exact ⟨rfl, hB1⟩

set_option maxHeartbeats 1600000 in
theorem castNum_3_3 (l : List UInt8) (s n ts : Int) (w : World) : Calls Tryz.prog 22 #[.agg #[.int .i64 3, .int .i64 s, .bool false, .int .i64 n, .string ⟨l.toArray⟩], .agg #[.int .i64 3, .int .i64 ts]] w fun e w' => e = .returned (.tuple #[.int .i64 (cnV ⟨3, s, false, n, ⟨l.toArray⟩⟩ 3 ts), .int .i64 (cnE ⟨3, s, false, n, ⟨l.toArray⟩⟩ 3 ts)]) ∧ Below w.heap.size w w' := by
  have HV : Hid (cnV ⟨3, s, false, n, ⟨l.toArray⟩⟩ 3 ts = reV n s ts) := rfl
  have HE : Hid (cnE ⟨3, s, false, n, ⟨l.toArray⟩⟩ 3 ts = reE n s ts) := rfl
  rw [HV.out, HE.out]
  have H1 := Lib.hid (fun W (h : Below w.heap.size w W) => rescale_any n s ts W)
  go_enter Tryz.func22, Tryz.ntmps22
  go_wp2_with fail
  refine (H1.out _ (by first | exact alloc2B _ _ _ | exact below_drew (alloc2B _ _ _))).mono ?_
  rintro e w1 ⟨rfl, hb⟩
  have hB1 := bt (by first | exact alloc2B _ _ _ | exact below_drew (alloc2B _ _ _)) hb
  clear hb
  go_wp2
  go_ret2
  exact ⟨rfl, hB1⟩

set_option maxHeartbeats 1600000 in
theorem castNum_1_1 (l : List UInt8) (s n ts : Int) (w : World) : Calls Tryz.prog 22 #[.agg #[.int .i64 1, .int .i64 s, .bool false, .int .i64 n, .string ⟨l.toArray⟩], .agg #[.int .i64 1, .int .i64 ts]] w fun e w' => e = .returned (.tuple #[.int .i64 (cnV ⟨1, s, false, n, ⟨l.toArray⟩⟩ 1 ts), .int .i64 (cnE ⟨1, s, false, n, ⟨l.toArray⟩⟩ 1 ts)]) ∧ Below w.heap.size w w' := by
  have HV : Hid (cnV ⟨1, s, false, n, ⟨l.toArray⟩⟩ 1 ts = n) := rfl
  have HE : Hid (cnE ⟨1, s, false, n, ⟨l.toArray⟩⟩ 1 ts = 0) := rfl
  rw [HV.out, HE.out]
  go_enter Tryz.func22, Tryz.ntmps22
  go_wp2
  go_ret2
  exact ⟨rfl, alloc2B _ _ _⟩

set_option maxHeartbeats 1600000 in
theorem castNum_2_2 (l : List UInt8) (s n ts : Int) (w : World) : Calls Tryz.prog 22 #[.agg #[.int .i64 2, .int .i64 s, .bool false, .int .i64 n, .string ⟨l.toArray⟩], .agg #[.int .i64 2, .int .i64 ts]] w fun e w' => e = .returned (.tuple #[.int .i64 (cnV ⟨2, s, false, n, ⟨l.toArray⟩⟩ 2 ts), .int .i64 (cnE ⟨2, s, false, n, ⟨l.toArray⟩⟩ 2 ts)]) ∧ Below w.heap.size w w' := by
  have HV : Hid (cnV ⟨2, s, false, n, ⟨l.toArray⟩⟩ 2 ts = n) := rfl
  have HE : Hid (cnE ⟨2, s, false, n, ⟨l.toArray⟩⟩ 2 ts = 0) := rfl
  rw [HV.out, HE.out]
  go_enter Tryz.func22, Tryz.ntmps22
  go_wp2
  go_ret2
  exact ⟨rfl, alloc2B _ _ _⟩

set_option maxHeartbeats 1600000 in
theorem castNum_5_5 (l : List UInt8) (s n ts : Int) (w : World) : Calls Tryz.prog 22 #[.agg #[.int .i64 5, .int .i64 s, .bool false, .int .i64 n, .string ⟨l.toArray⟩], .agg #[.int .i64 5, .int .i64 ts]] w fun e w' => e = .returned (.tuple #[.int .i64 (cnV ⟨5, s, false, n, ⟨l.toArray⟩⟩ 5 ts), .int .i64 (cnE ⟨5, s, false, n, ⟨l.toArray⟩⟩ 5 ts)]) ∧ Below w.heap.size w w' := by
  have HV : Hid (cnV ⟨5, s, false, n, ⟨l.toArray⟩⟩ 5 ts = n) := rfl
  have HE : Hid (cnE ⟨5, s, false, n, ⟨l.toArray⟩⟩ 5 ts = 0) := rfl
  rw [HV.out, HE.out]
  go_enter Tryz.func22, Tryz.ntmps22
  go_wp2
  go_ret2
  exact ⟨rfl, alloc2B _ _ _⟩

/-- The text of a value that is there. -/
def txL (v : VR) (L : List UInt8) : List UInt8 := if v.k = 4 then v.t.data.toList else showS v L
def tooLong (l : List UInt8) : Bool := decide (256 < l.length)
set_option maxHeartbeats 3200000 in
theorem castText_4 (l : List UInt8) (s n ts : Int) (w : World) : Calls Tryz.prog 21 #[.agg #[.int .i64 4, .int .i64 s, .bool false, .int .i64 n, .string ⟨l.toArray⟩], .agg #[.int .i64 4, .int .i64 ts]] w fun e w' => e = .returned (if tooLong l then .tuple #[.agg #[.int .i64 0, .int .i64 0, .bool false, .int .i64 0, .string ⟨#[]⟩], .int .i64 10] else .tuple #[.agg #[.int .i64 4, .int .i64 ts, .bool false, .int .i64 0, .string ⟨l.toArray⟩], .int .i64 0]) ∧ Below w.heap.size w w' := by
  cases h : tooLong l
  · have hx : ¬ (256 : Int) < (l.length : Int) := by simp [tooLong] at h; omega
    clear h
    go_enter Tryz.func21, Tryz.ntmps21
    go_wp2
    exact bodyPost_ret (v := .tuple #[.agg #[.int .i64 4, .int .i64 ts, .bool false, .int .i64 0, .string ⟨l.toArray⟩], .int .i64 0]) (by simp [results, Tryz.results21, go_sem]) rfl ⟨rfl, by first | exact alloc2B _ _ _ | exact (alloc2B _ _ _).alloc (by simp; omega) _ | (trace_state; fail)⟩
  · have hx : (256 : Int) < (l.length : Int) := by simp [tooLong] at h; omega
    clear h
    go_enter Tryz.func21, Tryz.ntmps21
    go_wp2
    exact bodyPost_ret (v := .tuple #[.agg #[.int .i64 0, .int .i64 0, .bool false, .int .i64 0, .string ⟨#[]⟩], .int .i64 10]) (by simp [results, Tryz.results21, go_sem]) rfl ⟨rfl, by first | exact alloc2B _ _ _ | exact (alloc2B _ _ _).alloc (by simp; omega) _ | (trace_state; fail)⟩

end
end Go.Proofs.YtogdkhnakenbcaaGreatDoor
