/-
  What is written is read as it was: plain lists, no program.
-/
import Derived.Test.YtogdkhnakenbcaaGreatDoorDecs
import Derived.Test.YtogdkhnakenbcaaGreatDoorDaysRead
import Derived.Test.YtogdkhnakenbcaaGreatDoorFormat
namespace Go.Proofs.YtogdkhnakenbcaaGreatDoor
open Go.ChangeShapes Go.WideShapes Go.ChangeAt Go.RowKit
open Cal
set_option linter.unusedVariables false

theorem digit_of (n : Nat) : isD (UInt8.ofNat (48 + n % 10)) = true ∧ (UInt8.ofNat (48 + n % 10)).toNat - 48 = n % 10 := by
  have e : (UInt8.ofNat (48 + n % 10)).toNat = 48 + n % 10 := by rw [UInt8.toNat_ofNat']; omega
  constructor
  · unfold isD; rw [e]; simp; omega
  · rw [e]; omega
theorem pad0_read : ∀ b n k, n + k ≤ b → (∀ c ∈ pad0 n k, isD c = true) ∧ valD (pad0 n k) = n := by
  intro b
  induction b with
  | zero =>
    intro n k h
    obtain rfl : n = 0 := by omega
    obtain rfl : k = 0 := by omega
    have e : pad0 0 0 = [] := rfl
    rw [e]
    exact ⟨fun c hc => by simp at hc, rfl⟩
  | succ b ih =>
    intro n k h
    by_cases hz : 0 < n ∨ 0 < k
    · obtain ⟨i1, i2⟩ := ih (n / 10) (k - 1) (by omega)
      have hd := digit_of n
      rw [pad0_step n k hz]
      constructor
      · intro c hc
        rcases List.mem_append.1 hc with hc | hc
        · exact i1 c hc
        · have e : c = UInt8.ofNat (48 + n % 10) := List.mem_singleton.1 hc
          rw [e]; exact hd.1
      · rw [valD_snoc, i2, hd.2]; omega
    · exact ih n k (by omega)
theorem pad0_fix : ∀ k n, n < 10 ^ k → (pad0 n k).length = k := by
  intro k
  induction k with
  | zero =>
    intro n h
    obtain rfl : n = 0 := by simpa using h
    rfl
  | succ k ih =>
    intro n h
    rw [pad0_step n (k + 1) (by omega), List.length_append, Nat.add_sub_cancel, ih (n / 10) (by rw [Nat.pow_succ] at h; omega)]
    rfl
theorem padL_read (u n : Nat) (h : 1 ≤ n) (hu : u < 18446744073709551616) (hn : n ≤ 100) : digitsB (padL u n) = true ∧ valD (padL u n) = u := by
  have h1 := pad0_read _ u n (Nat.le_refl _)
  have h2 := padL_len u n hu h hn
  rw [pad0_eq u n h] at h1
  exact ⟨digits_of (fun e => by rw [e] at h2; simp at h2; omega) h1.1, h1.2⟩
theorem padL_fix (u n : Nat) (h : 1 ≤ n) (hu : u < 10 ^ n) : (padL u n).length = n := by
  rw [← pad0_eq u n h]; exact pad0_fix n u hu

/-- A text that begins with a digit has no sign. -/
theorem unsig_digits {s : List UInt8} (h : digitsB s = true) : unsig s = s ∧ negB s = false := by
  obtain ⟨hne, hd⟩ := digits_all h
  match s, hne with
  | c :: r, _ =>
    have hc : ¬ c = 45 := by
      have := isD_bd (hd c (by simp))
      rintro rfl
      revert this; decide
    simp [unsig, negB, hc]
theorem unsig_cons (s : List UInt8) : unsig (45 :: s) = s ∧ negB (45 :: s) = true := by simp [unsig, negB]

theorem sv_abs (n : Int) : (n < 0 → sv n.natAbs true = n) ∧ (¬ n < 0 → sv n.natAbs false = n) := by
  unfold sv
  constructor <;> intro h <;> simp <;> omega

theorem itoa_read (n : Int) (h : In64 n) : pI (Lib.itoa n) = n ∧ pE (Lib.itoa n) = 0 := by
  have hu : n.natAbs < 18446744073709551616 := by unfold In64 at h; omega
  have hr := padL_read n.natAbs 1 (by omega) hu (by omega)
  rw [padL_one _ hu] at hr
  have hs := sv_abs n
  have hv : numV (Lib.itoa n) = n ∧ digitsB (unsig (Lib.itoa n)) = true := by
    rw [← sv_numV]
    by_cases hn : n < 0
    · have e : Lib.itoa n = 45 :: Lib.decDigits n.natAbs := if_pos hn
      have hc := unsig_cons (Lib.decDigits n.natAbs)
      rw [e, hc.1, hc.2, hr.2]
      exact ⟨hs.1 hn, hr.1⟩
    · have e : Lib.itoa n = Lib.decDigits n.natAbs := by
        have e2 : n.toNat = n.natAbs := by omega
        rw [← e2]
        exact if_neg hn
      have hc := unsig_digits hr.1
      rw [e, hc.1, hc.2, hr.2]
      exact ⟨hs.2 hn, hr.1⟩
  unfold pI pE
  rw [hv.2, if_pos rfl, if_pos rfl, hv.1, okOr_in h, errOr_in h]
  exact ⟨rfl, rfl⟩

theorem cut_app (A B : List UInt8) (hA : ∀ c ∈ A, isD c = true) : cutAt (A ++ 46 :: B) = A.length := by
  refine cutAt_uniq (fun j hj => ?_) (by simp) (.inr (by simp))
  rw [List.getElem?_append_left hj, List.getElem?_eq_getElem hj]
  intro e
  have e' : A[j] = 46 := by simpa using e
  have := isD_bd (hA A[j] (List.getElem_mem hj))
  rw [e'] at this
  revert this; decide
theorem cut_all (A : List UInt8) (hA : ∀ c ∈ A, isD c = true) : cutAt A = A.length := by
  refine cutAt_uniq (fun j hj => ?_) (Nat.le_refl _) (.inl rfl)
  rw [List.getElem?_eq_getElem hj]
  intro e
  have e' : A[j] = 46 := by simpa using e
  have := isD_bd (hA A[j] (List.getElem_mem hj))
  rw [e'] at this
  revert this; decide

/-- The parts of a written amount. -/
theorem pt_parts (S : List UInt8) (k : Nat) (hS : digitsB S = true) (hk : k + 1 ≤ S.length) :
    decBad (ptL S k) = false ∧ (decF (ptL S k)).length = k ∧ decD (ptL S k) ++ decF (ptL S k) = S := by
  obtain ⟨hne, hd⟩ := digits_all hS
  by_cases h0 : k = 0
  · subst h0
    have e : ptL S 0 = S := if_pos rfl
    have c := cut_all S hd
    rw [e]
    have hF : decF S = [] := by unfold decF; rw [c]; simp
    have hD : decD S = S := by unfold decD; rw [c]; simp
    have hP : decP S = false := by unfold decP; rw [c]; simp
    rw [hF, hD]
    exact ⟨by unfold decBad; rw [hD, hP, hS]; rfl, rfl, by simp⟩
  · have e : ptL S k = S.take (S.length - k) ++ 46 :: S.drop (S.length - k) := by unfold ptL; rw [if_neg h0]; simp
    have hdA : ∀ c ∈ S.take (S.length - k), isD c = true := fun c hc => hd c (List.mem_of_mem_take hc)
    have hdB : ∀ c ∈ S.drop (S.length - k), isD c = true := fun c hc => hd c (List.mem_of_mem_drop hc)
    have c := cut_app (S.take (S.length - k)) (S.drop (S.length - k)) hdA
    have la : (S.take (S.length - k)).length = S.length - k := by rw [List.length_take]; omega
    have lb : (S.drop (S.length - k)).length = k := by rw [List.length_drop]; omega
    have hA : digitsB (S.take (S.length - k)) = true := digits_of (fun e => by rw [e] at la; simp at la; omega) hdA
    have hB : digitsB (S.drop (S.length - k)) = true := digits_of (fun e => by rw [e] at lb; simp at lb; omega) hdB
    have hAB : S.take (S.length - k) ++ S.drop (S.length - k) = S := List.take_append_drop _ _
    rw [e]
    generalize S.take (S.length - k) = A at *
    generalize S.drop (S.length - k) = B at *
    have hF : decF (A ++ 46 :: B) = B := by unfold decF; rw [c]; simp
    have hD : decD (A ++ 46 :: B) = A := by unfold decD; rw [c]; simp
    have hP : decP (A ++ 46 :: B) = true := by unfold decP; rw [c]; simp
    rw [hF, hD]
    exact ⟨by unfold decBad; rw [hF, hD, hP, hA, hB]; rfl, lb, hAB⟩
theorem pt_head (S : List UInt8) (k : Nat) (hS : digitsB S = true) (hk : k + 1 ≤ S.length) : unsig (ptL S k) = ptL S k ∧ negB (ptL S k) = false := by
  obtain ⟨hne, hd⟩ := digits_all hS
  match S, hne with
  | c :: r, _ =>
    have hc : ¬ c = 45 := by
      have := isD_bd (hd c (by simp))
      rintro rfl
      revert this; decide
    have e : ∃ r', ptL (c :: r) k = c :: r' := by
      unfold ptL
      split
      · exact ⟨r, rfl⟩
      · obtain ⟨j, hj⟩ : ∃ j, (c :: r).length - k = j + 1 := ⟨(c :: r).length - k - 1, by omega⟩
        rw [hj]
        exact ⟨_, rfl⟩
    obtain ⟨r', e⟩ := e
    rw [e]
    simp [unsig, negB, hc]
theorem dec_read (v : Int) (k : Nat) (hv : fitsB v = true) (hk : k ≤ 18) : dV (decL v k) = v ∧ dS (decL v k) = k ∧ dE (decL v k) = 0 := by
  have hf := fits_in hv
  have hu : v.natAbs < 18446744073709551616 := by omega
  have hr := padL_read v.natAbs (k + 1) (by omega) hu (by omega)
  have hl := padL_len v.natAbs (k + 1) hu (by omega) (by omega)
  have hp := pt_parts (padL v.natAbs (k + 1)) k hr.1 hl.1
  have hs := sv_abs v
  have key : ∀ b : Bool, unsig (decL v k) = ptL (padL v.natAbs (k + 1)) k → negB (decL v k) = b → sv v.natAbs b = v → dV (decL v k) = v ∧ dS (decL v k) = k ∧ dE (decL v k) = 0 := by
    intro b e1 e2 e3
    have hb : decBad (unsig (decL v k)) = false := by rw [e1]; exact hp.1
    have hval : valD (decD (unsig (decL v k)) ++ decF (unsig (decL v k))) = v.natAbs := by rw [e1, hp.2.2]; exact hr.2
    have hok : decOk (decL v k) = true := by
      unfold decOk
      rw [hb, hval, e1, hp.2.1, decide_eq_true hk, decide_eq_true (show v.natAbs ≤ 999999999999999999 by omega)]
      rfl
    obtain ⟨z1, z2, z3⟩ := dec_fit hb hok
    rw [hval, e2, e3] at z1
    rw [e1, hp.2.1] at z2
    exact ⟨z1, z2, z3⟩
  have hpt : unsig (ptL (padL v.natAbs (k + 1)) k) = ptL (padL v.natAbs (k + 1)) k ∧ negB (ptL (padL v.natAbs (k + 1)) k) = false := by
    exact pt_head _ k hr.1 hl.1
  by_cases hn : v < 0
  · have e : decL v k = 45 :: ptL (padL v.natAbs (k + 1)) k := if_pos hn
    have hc := unsig_cons (ptL (padL v.natAbs (k + 1)) k)
    exact key true (by rw [e]; exact hc.1) (by rw [e]; exact hc.2) (hs.1 hn)
  · have e : decL v k = ptL (padL v.natAbs (k + 1)) k := if_neg hn
    exact key false (by rw [e]; exact hpt.1) (by rw [e]; exact hpt.2) (hs.2 hn)

theorem day_read (n : Int) (y m d : Nat) (hv : vld y m d) (hn : dayNum y m d = n) : tV (dayL y m d) = n ∧ tE (dayL y m d) = 0 ∧ (dayL y m d).length = 10 := by
  have hv' := hv
  obtain ⟨h1, h2, h3, h4, h5, h6⟩ := hv
  have hm := mlen_bd (y : Int) (m : Int)
  have ly := padL_fix y 4 (by omega) (by omega)
  have lm := padL_fix m 2 (by omega) (by omega)
  have ld := padL_fix d 2 (by omega) (by omega)
  have ry := padL_read y 4 (by omega) (by omega) (by omega)
  have rm := padL_read m 2 (by omega) (by omega) (by omega)
  have rd := padL_read d 2 (by omega) (by omega) (by omega)
  unfold dayL
  generalize padL y 4 = Y at *
  generalize padL m 2 = M at *
  generalize padL d 2 = D at *
  have eY : dayY (Y ++ [45] ++ M ++ [45] ++ D) = Y := by
    unfold dayY
    rw [List.append_assoc, List.append_assoc, List.append_assoc, ← ly, List.take_left]
  have e5 : (Y ++ [45] ++ M ++ [45] ++ D).drop 5 = M ++ [45] ++ D := by
    have e : Y ++ [45] ++ M ++ [45] ++ D = (Y ++ [45]) ++ (M ++ [45] ++ D) := by simp
    rw [e]
    exact List.drop_left' (by simp [ly])
  have eM : dayM (Y ++ [45] ++ M ++ [45] ++ D) = M := by
    unfold dayM
    rw [e5, List.append_assoc, ← lm, List.take_left]
  have eD : dayD (Y ++ [45] ++ M ++ [45] ++ D) = D := by
    unfold dayD
    exact List.drop_left' (by simp [ly, lm])
  have g4 : (Y ++ [45] ++ M ++ [45] ++ D)[4]? = some 45 := by
    rw [List.append_assoc, List.append_assoc, List.append_assoc, List.getElem?_append_right (by omega), ly]; rfl
  have g7 : (Y ++ [45] ++ M ++ [45] ++ D)[7]? = some 45 := by
    have e : Y ++ [45] ++ M ++ [45] ++ D = (Y ++ [45] ++ M) ++ ([45] ++ D) := by simp
    rw [e, List.getElem?_append_right (by simp [ly, lm])]
    simp [ly, lm]
  have l10 : (Y ++ [45] ++ M ++ [45] ++ D).length = 10 := by simp [ly, lm, ld]
  have hf : dayForm (Y ++ [45] ++ M ++ [45] ++ D) = true := by
    unfold dayForm
    rw [decide_eq_true l10, decide_eq_true g4, decide_eq_true g7, eY, eM, eD, ry.1, rm.1, rd.1]; rfl
  obtain ⟨z1, z2⟩ := t_form hf
  rw [eY, eM, eD, ry.2, rm.2, rd.2] at z1 z2
  refine ⟨?_, ?_, l10⟩
  · rw [z1]; unfold dN; rw [if_pos hv', hn]
  · rw [z2]; unfold dX; rw [if_pos hv']
end Go.Proofs.YtogdkhnakenbcaaGreatDoor
