/-
  Contracts of ParseDec: the document's answer.
-/
import Derived.Test.YtogdkhnakenbcaaGreatDoorDecs
namespace Go.Proofs.YtogdkhnakenbcaaGreatDoor
open Go.ChangeShapes Go.WideShapes Go.ChangeAt Go.RowKit
set_option linter.unusedVariables false

theorem byte46 {u : List UInt8} {k : Nat} (h : k < u.length) : u[k]? = some 46 ↔ (u[k].toNat : Int) = 46 := by
  rw [List.getElem?_eq_getElem h]
  constructor
  · intro e
    have e' : u[k] = 46 := by simpa using e
    rw [e']; rfl
  · intro e
    have e2 : u[k].toNat = 46 := by omega
    have e3 : u[k] = 46 := UInt8.toNat_inj.1 e2
    rw [e3]
/-- No point stands ahead of place k. -/
def noPoint (u : List UInt8) (k : Nat) : Prop := ∀ j, j < k → u[j]? ≠ some 46
theorem noPoint_zero (u : List UInt8) : noPoint u 0 := fun j h => by omega
theorem noPoint_succ {u : List UInt8} {k : Nat} (h : noPoint u k) (hk : k < u.length) (hc : ¬ (u[k].toNat : Int) = 46) : noPoint u (k + 1) := fun j hj => by
  rcases Nat.lt_or_ge j k with h' | h'
  · exact h j h'
  · obtain rfl : j = k := by omega
    exact fun e => hc ((byte46 hk).1 e)
theorem cut_here {u : List UInt8} {k : Nat} (h : noPoint u k) (hk : k < u.length) (hc : (u[k].toNat : Int) = 46) :
    cutAt u = k ∧ decP u = true ∧ (⟨u.toArray⟩ : ByteArray).extract 0 k = ⟨(decD u).toArray⟩ ∧ (⟨u.toArray⟩ : ByteArray).extract (k + 1) u.length = ⟨(decF u).toArray⟩ := by
  have e := cutAt_uniq h (Nat.le_of_lt hk) (.inr ((byte46 hk).2 hc))
  refine ⟨e, by simp [decP, e, hk], ?_, ?_⟩
  · rw [bytes_ext]; simp [decD, e]
  · rw [bytes_ext, List.take_of_length_le (by simp)]; simp [decF, e]
theorem cut_none {u : List UInt8} {k : Nat} (h : noPoint u k) (hk : k = u.length) :
    decP u = false ∧ (⟨u.toArray⟩ : ByteArray).extract 0 u.length = ⟨(decD u).toArray⟩ := by
  have e := cutAt_uniq h (by omega) (.inl hk)
  refine ⟨by simp [decP, e, hk], ?_⟩
  rw [bytes_ext]; simp [decD, e, hk]
theorem bytes_app2 (a b : List UInt8) : (⟨a.toArray⟩ : ByteArray) ++ ⟨b.toArray⟩ = ⟨(a ++ b).toArray⟩ := bytes_app a b

set_option maxHeartbeats 1600000 in
theorem refParseDec_neg (l : List UInt8) (hl : l.length ≤ 140737488355328) (w : World) (hneg : negB l = true) :
    Calls Tryz.prog 50 #[.string ⟨l.toArray⟩] w fun e w' => e = .returned (.tuple #[.int .i64 (dV l), .int .i64 (dS l), .int .i64 (dE l)]) ∧ w = w' := by
  obtain ⟨h0, hs, hc⟩ := head_neg hneg
  have hE := unsig_ext hneg
  have s1 := sized_unsig l
  have s2 := sized_D (unsig l)
  have s3 := sized_F (unsig l)
  go_enter Tryz.func50, Tryz.ntmps50
  go_wp2
  go_loop [6] (fun i => ∃ k : Nat, k ≤ (unsig l).length ∧ i = .int .i64 k ∧ noPoint (unsig l) k) (fun i => (unsig l).length - (intOf i).toNat)
  case atStart => exact ⟨0, Nat.zero_le _, rfl, noPoint_zero _⟩
  case round =>
    obtain ⟨k, hk, rfl, hq⟩ := hrel
    by_cases hlt : k < (unsig l).length
    · have hs2 : k < (⟨(unsig l).toArray⟩ : ByteArray).size := by simpa [ByteArray.size] using hlt
      by_cases hc2 : ((⟨(unsig l).toArray⟩ : ByteArray)[k].toNat : Int) = 46
      · obtain ⟨_, hp, E1, E2⟩ := cut_here hq hlt hc2
        clear hq
        cases hf : digitsB (decF (unsig l))
        · obtain ⟨z1, z2, z3⟩ := dec_bad (l := l) (by simp [decBad, hp, hf])
          have Z1 := Lib.hid z1
          have Z2 := Lib.hid z2
          have Z3 := Lib.hid z3
          have HB := refDig (decF (unsig l)) false hf (by omega)
          clear hp hf z1 z2 z3
          go_wp2_with fail
          refine (HB _).mono ?_
          rintro e w2 ⟨rfl, rfl⟩
          go_wp2
          refine bodyPost_ret (v := .tuple #[.int .i64 0, .int .i64 0, .int .i64 12]) (by simp [results, Tryz.results50, go_sem]) rfl ?_
          exact ⟨ret_dec Z1.out Z2.out Z3.out, rfl⟩
        · have HB := refDig (decF (unsig l)) true hf (by omega)
          go_wp2_with fail
          refine (HB _).mono ?_
          rintro e w2 ⟨rfl, rfl⟩
          cases hd : digitsB (decD (unsig l))
          · obtain ⟨z1, z2, z3⟩ := dec_bad (l := l) (by simp [decBad, hd])
            have Z1 := Lib.hid z1
            have Z2 := Lib.hid z2
            have Z3 := Lib.hid z3
            have HA := refDig (decD (unsig l)) false hd (by omega)
            clear hp hd z1 z2 z3 hf
            go_wp2_with fail
            refine (HA _).mono ?_
            rintro e w2 ⟨rfl, rfl⟩
            go_wp2
            refine bodyPost_ret (v := .tuple #[.int .i64 0, .int .i64 0, .int .i64 12]) (by simp [results, Tryz.results50, go_sem]) rfl ?_
            exact ⟨ret_dec Z1.out Z2.out Z3.out, rfl⟩
          · have HA := refDig (decD (unsig l)) true hd (by omega)
            by_cases hn : (decF (unsig l)).length ≤ 18
            · skip
              have hb : decBad (unsig l) = false := by simp [decBad, hd, hp, hf]
              have hdd := digits_all (digits_app (a := (decD (unsig l))) (b := (decF (unsig l))) hd (digits_all hf).2)
              have s4 : ((decD (unsig l)) ++ (decF (unsig l))).length ≤ 9223372036854775807 := by rw [List.length_append]; omega
              have s5 : (decD (unsig l)).length + (decF (unsig l)).length ≤ 9223372036854775807 := by omega
              by_cases hv : valD ((decD (unsig l)) ++ (decF (unsig l))) ≤ 999999999999999999
              · obtain ⟨z1, z2, z3⟩ := dec_fit (l := l) hb (by simp only [decOk, hb]; simp [hv]; exact hn)
                rw [hneg] at z1
                have Z1 := Lib.hid z1
                have Z2 := Lib.hid z2
                have Z3 := Lib.hid z3
                have i1 := ((sv_fits (valD ((decD (unsig l)) ++ (decF (unsig l)))) true).1 hv).1
                have HR := read_yes ((decD (unsig l)) ++ (decF (unsig l))) 999999999999999999 hdd.2 s4 (by omega) (by omega) hv w
                have HS := signed_any (valD ((decD (unsig l)) ++ (decF (unsig l)))) true (by omega) w
                rw [okOr_in i1, errOr_in i1] at HS
                rw [← bytes_app2] at HR
                clear hp hb hdd i1 z1 z2 z3 s4 hf
                generalize valD ((decD (unsig l)) ++ (decF (unsig l))) = V at *
                generalize hD : (decD (unsig l)) = D at *
                generalize hF : (decF (unsig l)) = F at *
                go_wp2_with fail
                refine (HA _).mono ?_
                rintro e w2 ⟨rfl, rfl⟩
                go_wp2_with fail
                refine HR.mono ?_
                rintro e w2 ⟨rfl, rfl⟩
                go_wp2_with fail
                refine HS.mono ?_
                rintro e w2 ⟨rfl, rfl⟩
                go_wp2
                refine bodyPost_ret (v := .tuple #[.int .i64 (sv V true), .int .i64 F.length, .int .i64 0]) (by simp [results, Tryz.results50, go_sem]) rfl ?_
                exact ⟨ret_dec Z1.out Z2.out Z3.out, rfl⟩
              · obtain ⟨z1, z2, z3⟩ := dec_far (l := l) hb (by simp only [decOk, hb]; simp only [decide_eq_false hv, Bool.and_false])
                have Z1 := Lib.hid z1
                have Z2 := Lib.hid z2
                have Z3 := Lib.hid z3
                have HR := read_no ((decD (unsig l)) ++ (decF (unsig l))) 999999999999999999 hdd.2 s4 (by omega) (by omega) hv w
                rw [← bytes_app2] at HR
                clear hp hb hdd z1 z2 z3 s4 hv hf
                generalize hD : (decD (unsig l)) = D at *
                generalize hF : (decF (unsig l)) = F at *
                go_wp2_with fail
                refine (HA _).mono ?_
                rintro e w2 ⟨rfl, rfl⟩
                go_wp2_with fail
                refine HR.mono ?_
                rintro e w2 ⟨rfl, rfl⟩
                go_wp2
                refine bodyPost_ret (v := .tuple #[.int .i64 0, .int .i64 0, .int .i64 10]) (by simp [results, Tryz.results50, go_sem]) rfl ?_
                exact ⟨ret_dec Z1.out Z2.out Z3.out, rfl⟩
            · obtain ⟨z1, z2, z3⟩ := dec_far (l := l) (by simp [decBad, hd, hp, hf]) (by simp only [decOk]; simp only [decide_eq_false hn, Bool.false_and, Bool.and_false])
              have Z1 := Lib.hid z1
              have Z2 := Lib.hid z2
              have Z3 := Lib.hid z3
              clear hp hd hf z1 z2 z3
              have hn2 : 18 < (decF (unsig l)).length := by omega
              go_wp2_with fail
              refine (HA _).mono ?_
              rintro e w2 ⟨rfl, rfl⟩
              go_wp2
              refine bodyPost_ret (v := .tuple #[.int .i64 0, .int .i64 0, .int .i64 10]) (by simp [results, Tryz.results50, go_sem]) rfl ?_
              exact ⟨ret_dec Z1.out Z2.out Z3.out, rfl⟩
      · have HN := Lib.hid (noPoint_succ hq hlt hc2)
        clear hq
        go_wp2
        go_round
        case rel => exact ⟨k + 1, by omega, by go_num, HN.out⟩
        case measure => simp [intOf]; omega
    · obtain rfl : k = (unsig l).length := by omega
      obtain ⟨hp, E1⟩ := cut_none hq rfl
      clear hq
      cases hd : digitsB (decD (unsig l))
      · obtain ⟨z1, z2, z3⟩ := dec_bad (l := l) (by simp [decBad, hd])
        have Z1 := Lib.hid z1
        have Z2 := Lib.hid z2
        have Z3 := Lib.hid z3
        have HA := refDig (decD (unsig l)) false hd (by omega)
        clear hp hd z1 z2 z3
        go_wp2_with fail
        refine (HA _).mono ?_
        rintro e w2 ⟨rfl, rfl⟩
        go_wp2
        refine bodyPost_ret (v := .tuple #[.int .i64 0, .int .i64 0, .int .i64 12]) (by simp [results, Tryz.results50, go_sem]) rfl ?_
        exact ⟨ret_dec Z1.out Z2.out Z3.out, rfl⟩
      · have HA := refDig (decD (unsig l)) true hd (by omega)
        have hb : decBad (unsig l) = false := by simp [decBad, hd, hp]
        have hdd := digits_all (digits_app (a := (decD (unsig l))) (b := (decF (unsig l))) hd (by rw [decF_none hp]; simp))
        have s4 : ((decD (unsig l)) ++ (decF (unsig l))).length ≤ 9223372036854775807 := by rw [List.length_append]; omega
        have s5 : (decD (unsig l)).length + (decF (unsig l)).length ≤ 9223372036854775807 := by omega
        by_cases hv : valD ((decD (unsig l)) ++ (decF (unsig l))) ≤ 999999999999999999
        · obtain ⟨z1, z2, z3⟩ := dec_fit (l := l) hb (by simp only [decOk, hb]; simp [hv]; rw [decF_none hp]; simp)
          rw [hneg] at z1
          have Z1 := Lib.hid z1
          have Z2 := Lib.hid z2
          have Z3 := Lib.hid z3
          have i1 := ((sv_fits (valD ((decD (unsig l)) ++ (decF (unsig l)))) true).1 hv).1
          have HR := read_yes ((decD (unsig l)) ++ (decF (unsig l))) 999999999999999999 hdd.2 s4 (by omega) (by omega) hv w
          have HS := signed_any (valD ((decD (unsig l)) ++ (decF (unsig l)))) true (by omega) w
          rw [okOr_in i1, errOr_in i1] at HS
          rw [← bytes_app2] at HR
          have hF := decF_none hp
          rw [hF] at HR HS Z1 Z2 s5 
          clear hp hb hdd i1 z1 z2 z3 s4
          generalize valD ((decD (unsig l)) ++ []) = V at *
          generalize hD : (decD (unsig l)) = D at *
          go_wp2_with fail
          refine (HA _).mono ?_
          rintro e w2 ⟨rfl, rfl⟩
          go_wp2_with fail
          refine HR.mono ?_
          rintro e w2 ⟨rfl, rfl⟩
          go_wp2_with fail
          refine HS.mono ?_
          rintro e w2 ⟨rfl, rfl⟩
          go_wp2
          refine bodyPost_ret (v := .tuple #[.int .i64 (sv V true), .int .i64 0, .int .i64 0]) (by simp [results, Tryz.results50, go_sem]) rfl ?_
          exact ⟨ret_dec Z1.out Z2.out Z3.out, rfl⟩
        · obtain ⟨z1, z2, z3⟩ := dec_far (l := l) hb (by simp only [decOk, hb]; simp only [decide_eq_false hv, Bool.and_false])
          have Z1 := Lib.hid z1
          have Z2 := Lib.hid z2
          have Z3 := Lib.hid z3
          have HR := read_no ((decD (unsig l)) ++ (decF (unsig l))) 999999999999999999 hdd.2 s4 (by omega) (by omega) hv w
          rw [← bytes_app2] at HR
          have hF := decF_none hp
          rw [hF] at HR s5
          clear hp hb hdd z1 z2 z3 s4 hv
          generalize hD : (decD (unsig l)) = D at *
          go_wp2_with fail
          refine (HA _).mono ?_
          rintro e w2 ⟨rfl, rfl⟩
          go_wp2_with fail
          refine HR.mono ?_
          rintro e w2 ⟨rfl, rfl⟩
          go_wp2
          refine bodyPost_ret (v := .tuple #[.int .i64 0, .int .i64 0, .int .i64 10]) (by simp [results, Tryz.results50, go_sem]) rfl ?_
          exact ⟨ret_dec Z1.out Z2.out Z3.out, rfl⟩

set_option maxHeartbeats 1600000 in
theorem refParseDec_pos (l : List UInt8) (hl : l.length ≤ 140737488355328) (w : World) (hneg : negB l = false) (h0 : 0 < l.length) :
    Calls Tryz.prog 50 #[.string ⟨l.toArray⟩] w fun e w' => e = .returned (.tuple #[.int .i64 (dV l), .int .i64 (dS l), .int .i64 (dE l)]) ∧ w = w' := by
  obtain ⟨hs, hc⟩ := head_pos hneg h0
  have hE := unsig_pos hneg
  have s2 := sized_D l
  have s3 := sized_F l
  go_enter Tryz.func50, Tryz.ntmps50
  go_wp2
  go_loop [6] (fun i => ∃ k : Nat, k ≤ l.length ∧ i = .int .i64 k ∧ noPoint l k) (fun i => l.length - (intOf i).toNat)
  case atStart => exact ⟨0, Nat.zero_le _, rfl, noPoint_zero _⟩
  case round =>
    obtain ⟨k, hk, rfl, hq⟩ := hrel
    by_cases hlt : k < l.length
    · have hs2 : k < (⟨l.toArray⟩ : ByteArray).size := by simpa [ByteArray.size] using hlt
      by_cases hc2 : ((⟨l.toArray⟩ : ByteArray)[k].toNat : Int) = 46
      · obtain ⟨_, hp, E1, E2⟩ := cut_here hq hlt hc2
        clear hq
        cases hf : digitsB (decF l)
        · obtain ⟨z1, z2, z3⟩ := dec_bad (l := l) (by rw [hE]; simp [decBad, hp, hf])
          have Z1 := Lib.hid z1
          have Z2 := Lib.hid z2
          have Z3 := Lib.hid z3
          have HB := refDig (decF l) false hf (by omega)
          clear hp hf z1 z2 z3
          go_wp2_with fail
          refine (HB _).mono ?_
          rintro e w2 ⟨rfl, rfl⟩
          go_wp2
          refine bodyPost_ret (v := .tuple #[.int .i64 0, .int .i64 0, .int .i64 12]) (by simp [results, Tryz.results50, go_sem]) rfl ?_
          exact ⟨ret_dec Z1.out Z2.out Z3.out, rfl⟩
        · have HB := refDig (decF l) true hf (by omega)
          go_wp2_with fail
          refine (HB _).mono ?_
          rintro e w2 ⟨rfl, rfl⟩
          cases hd : digitsB (decD l)
          · obtain ⟨z1, z2, z3⟩ := dec_bad (l := l) (by rw [hE]; simp [decBad, hd])
            have Z1 := Lib.hid z1
            have Z2 := Lib.hid z2
            have Z3 := Lib.hid z3
            have HA := refDig (decD l) false hd (by omega)
            clear hp hd z1 z2 z3 hf
            go_wp2_with fail
            refine (HA _).mono ?_
            rintro e w2 ⟨rfl, rfl⟩
            go_wp2
            refine bodyPost_ret (v := .tuple #[.int .i64 0, .int .i64 0, .int .i64 12]) (by simp [results, Tryz.results50, go_sem]) rfl ?_
            exact ⟨ret_dec Z1.out Z2.out Z3.out, rfl⟩
          · have HA := refDig (decD l) true hd (by omega)
            by_cases hn : (decF l).length ≤ 18
            · skip
              have hb : decBad (unsig l) = false := by rw [hE]; simp [decBad, hd, hp, hf]
              have hdd := digits_all (digits_app (a := (decD l)) (b := (decF l)) hd (digits_all hf).2)
              have s4 : ((decD l) ++ (decF l)).length ≤ 9223372036854775807 := by rw [List.length_append]; omega
              have s5 : (decD l).length + (decF l).length ≤ 9223372036854775807 := by omega
              by_cases hv : valD ((decD l) ++ (decF l)) ≤ 999999999999999999
              · obtain ⟨z1, z2, z3⟩ := dec_fit (l := l) hb (by simp only [decOk, hb]; rw [hE]; simp [hv]; exact hn)
                rw [hE] at z1 z2
                rw [hneg] at z1
                have Z1 := Lib.hid z1
                have Z2 := Lib.hid z2
                have Z3 := Lib.hid z3
                have i1 := ((sv_fits (valD ((decD l) ++ (decF l))) false).1 hv).1
                have HR := read_yes ((decD l) ++ (decF l)) 999999999999999999 hdd.2 s4 (by omega) (by omega) hv w
                have HS := signed_any (valD ((decD l) ++ (decF l))) false (by omega) w
                rw [okOr_in i1, errOr_in i1] at HS
                rw [← bytes_app2] at HR
                clear hp hb hdd i1 z1 z2 z3 s4 hf
                generalize valD ((decD l) ++ (decF l)) = V at *
                generalize hD : (decD l) = D at *
                generalize hF : (decF l) = F at *
                go_wp2_with fail
                refine (HA _).mono ?_
                rintro e w2 ⟨rfl, rfl⟩
                go_wp2_with fail
                refine HR.mono ?_
                rintro e w2 ⟨rfl, rfl⟩
                go_wp2_with fail
                refine HS.mono ?_
                rintro e w2 ⟨rfl, rfl⟩
                go_wp2
                refine bodyPost_ret (v := .tuple #[.int .i64 (sv V false), .int .i64 F.length, .int .i64 0]) (by simp [results, Tryz.results50, go_sem]) rfl ?_
                exact ⟨ret_dec Z1.out Z2.out Z3.out, rfl⟩
              · obtain ⟨z1, z2, z3⟩ := dec_far (l := l) hb (by simp only [decOk, hb]; rw [hE]; simp only [decide_eq_false hv, Bool.and_false])
                have Z1 := Lib.hid z1
                have Z2 := Lib.hid z2
                have Z3 := Lib.hid z3
                have HR := read_no ((decD l) ++ (decF l)) 999999999999999999 hdd.2 s4 (by omega) (by omega) hv w
                rw [← bytes_app2] at HR
                clear hp hb hdd z1 z2 z3 s4 hv hf
                generalize hD : (decD l) = D at *
                generalize hF : (decF l) = F at *
                go_wp2_with fail
                refine (HA _).mono ?_
                rintro e w2 ⟨rfl, rfl⟩
                go_wp2_with fail
                refine HR.mono ?_
                rintro e w2 ⟨rfl, rfl⟩
                go_wp2
                refine bodyPost_ret (v := .tuple #[.int .i64 0, .int .i64 0, .int .i64 10]) (by simp [results, Tryz.results50, go_sem]) rfl ?_
                exact ⟨ret_dec Z1.out Z2.out Z3.out, rfl⟩
            · obtain ⟨z1, z2, z3⟩ := dec_far (l := l) (by rw [hE]; simp [decBad, hd, hp, hf]) (by simp only [decOk]; rw [hE]; simp only [decide_eq_false hn, Bool.false_and, Bool.and_false])
              have Z1 := Lib.hid z1
              have Z2 := Lib.hid z2
              have Z3 := Lib.hid z3
              clear hp hd hf z1 z2 z3
              have hn2 : 18 < (decF l).length := by omega
              go_wp2_with fail
              refine (HA _).mono ?_
              rintro e w2 ⟨rfl, rfl⟩
              go_wp2
              refine bodyPost_ret (v := .tuple #[.int .i64 0, .int .i64 0, .int .i64 10]) (by simp [results, Tryz.results50, go_sem]) rfl ?_
              exact ⟨ret_dec Z1.out Z2.out Z3.out, rfl⟩
      · have HN := Lib.hid (noPoint_succ hq hlt hc2)
        clear hq
        go_wp2
        go_round
        case rel => exact ⟨k + 1, by omega, by go_num, HN.out⟩
        case measure => simp [intOf]; omega
    · obtain rfl : k = l.length := by omega
      obtain ⟨hp, E1⟩ := cut_none hq rfl
      clear hq
      cases hd : digitsB (decD l)
      · obtain ⟨z1, z2, z3⟩ := dec_bad (l := l) (by rw [hE]; simp [decBad, hd])
        have Z1 := Lib.hid z1
        have Z2 := Lib.hid z2
        have Z3 := Lib.hid z3
        have HA := refDig (decD l) false hd (by omega)
        clear hp hd z1 z2 z3
        go_wp2_with fail
        refine (HA _).mono ?_
        rintro e w2 ⟨rfl, rfl⟩
        go_wp2
        refine bodyPost_ret (v := .tuple #[.int .i64 0, .int .i64 0, .int .i64 12]) (by simp [results, Tryz.results50, go_sem]) rfl ?_
        exact ⟨ret_dec Z1.out Z2.out Z3.out, rfl⟩
      · have HA := refDig (decD l) true hd (by omega)
        have hb : decBad (unsig l) = false := by rw [hE]; simp [decBad, hd, hp]
        have hdd := digits_all (digits_app (a := (decD l)) (b := (decF l)) hd (by rw [decF_none hp]; simp))
        have s4 : ((decD l) ++ (decF l)).length ≤ 9223372036854775807 := by rw [List.length_append]; omega
        have s5 : (decD l).length + (decF l).length ≤ 9223372036854775807 := by omega
        by_cases hv : valD ((decD l) ++ (decF l)) ≤ 999999999999999999
        · obtain ⟨z1, z2, z3⟩ := dec_fit (l := l) hb (by simp only [decOk, hb]; rw [hE]; simp [hv]; rw [decF_none hp]; simp)
          rw [hE] at z1 z2
          rw [hneg] at z1
          have Z1 := Lib.hid z1
          have Z2 := Lib.hid z2
          have Z3 := Lib.hid z3
          have i1 := ((sv_fits (valD ((decD l) ++ (decF l))) false).1 hv).1
          have HR := read_yes ((decD l) ++ (decF l)) 999999999999999999 hdd.2 s4 (by omega) (by omega) hv w
          have HS := signed_any (valD ((decD l) ++ (decF l))) false (by omega) w
          rw [okOr_in i1, errOr_in i1] at HS
          rw [← bytes_app2] at HR
          have hF := decF_none hp
          rw [hF] at HR HS Z1 Z2 s5 
          clear hp hb hdd i1 z1 z2 z3 s4
          generalize valD ((decD l) ++ []) = V at *
          generalize hD : (decD l) = D at *
          go_wp2_with fail
          refine (HA _).mono ?_
          rintro e w2 ⟨rfl, rfl⟩
          go_wp2_with fail
          refine HR.mono ?_
          rintro e w2 ⟨rfl, rfl⟩
          go_wp2_with fail
          refine HS.mono ?_
          rintro e w2 ⟨rfl, rfl⟩
          go_wp2
          refine bodyPost_ret (v := .tuple #[.int .i64 (sv V false), .int .i64 0, .int .i64 0]) (by simp [results, Tryz.results50, go_sem]) rfl ?_
          exact ⟨ret_dec Z1.out Z2.out Z3.out, rfl⟩
        · obtain ⟨z1, z2, z3⟩ := dec_far (l := l) hb (by simp only [decOk, hb]; rw [hE]; simp only [decide_eq_false hv, Bool.and_false])
          have Z1 := Lib.hid z1
          have Z2 := Lib.hid z2
          have Z3 := Lib.hid z3
          have HR := read_no ((decD l) ++ (decF l)) 999999999999999999 hdd.2 s4 (by omega) (by omega) hv w
          rw [← bytes_app2] at HR
          have hF := decF_none hp
          rw [hF] at HR s5
          clear hp hb hdd z1 z2 z3 s4 hv
          generalize hD : (decD l) = D at *
          go_wp2_with fail
          refine (HA _).mono ?_
          rintro e w2 ⟨rfl, rfl⟩
          go_wp2_with fail
          refine HR.mono ?_
          rintro e w2 ⟨rfl, rfl⟩
          go_wp2
          refine bodyPost_ret (v := .tuple #[.int .i64 0, .int .i64 0, .int .i64 10]) (by simp [results, Tryz.results50, go_sem]) rfl ?_
          exact ⟨ret_dec Z1.out Z2.out Z3.out, rfl⟩

theorem refParseDec_any (l : List UInt8) (hl : l.length ≤ 140737488355328) (w : World) :
    Calls Tryz.prog 50 #[.string ⟨l.toArray⟩] w fun e w' => e = .returned (.tuple #[.int .i64 (dV l), .int .i64 (dS l), .int .i64 (dE l)]) ∧ w = w' := by
  cases hn : negB l
  · rcases Nat.eq_zero_or_pos l.length with h0 | h0
    · obtain rfl := List.length_eq_zero_iff.1 h0
      obtain ⟨z1, z2, z3⟩ := dec_bad (l := []) rfl
      have HA := refDig [] false rfl (by simp) w
      rw [z1, z2, z3]
      clear z1 z2 z3 hn h0
      go_enter Tryz.func50, Tryz.ntmps50
      go_wp2
      go_loop [6] (fun i => i = .int .i64 0) (fun i => 0)
      case atStart => rfl
      case round =>
        obtain rfl := hrel
        go_wp2_with fail
        refine HA.mono ?_
        rintro e w' ⟨rfl, rfl⟩
        go_wp2
        refine bodyPost_ret (v := .tuple #[.int .i64 0, .int .i64 0, .int .i64 12]) (by simp [results, Tryz.results50, go_sem]) rfl ?_
        exact ⟨rfl, rfl⟩
    · exact refParseDec_pos l hl w hn h0
  · exact refParseDec_neg l hl w hn
end Go.Proofs.YtogdkhnakenbcaaGreatDoor
