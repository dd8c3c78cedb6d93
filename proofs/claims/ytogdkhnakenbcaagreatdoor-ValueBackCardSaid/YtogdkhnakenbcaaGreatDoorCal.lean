/-
  The calendar in plain numbers: no program in sight.
-/
import Derived.RowKit
namespace Go.Proofs.YtogdkhnakenbcaaGreatDoor.Cal

def lpB (y : Int) : Bool := decide (y % 4 = 0 ∧ (y % 100 ≠ 0 ∨ y % 400 = 0))
def lp (y : Int) : Int := if lpB y = true then 1 else 0
/-- The length of a month in a year that is no leap year. -/
def tabM (m : Int) : Int := if m = 2 then 28 else if m = 4 ∨ m = 6 ∨ m = 9 ∨ m = 11 then 30 else 31
def mlen (y m : Int) : Int := if m = 2 then 28 + lp y else tabM m
def dbf (y : Int) : Int := 365 * (y - 1) + (y - 1) / 4 - (y - 1) / 100 + (y - 1) / 400
/-- The days of a year that lie ahead of its month m. -/
def cum (y m : Int) : Int :=
  if m ≤ 1 then 0 else if m = 2 then 31 else lp y + (if m = 3 then 59 else if m = 4 then 90 else if m = 5 then 120 else if m = 6 then 151 else if m = 7 then 181 else
    if m = 8 then 212 else if m = 9 then 243 else if m = 10 then 273 else if m = 11 then 304 else if m = 12 then 334 else 365)
def vld (y m d : Int) : Prop := 1 ≤ y ∧ y ≤ 9999 ∧ 1 ≤ m ∧ m ≤ 12 ∧ 1 ≤ d ∧ d ≤ mlen y m
instance (y m d : Int) : Decidable (vld y m d) := by unfold vld; infer_instance
def dayNum (y m d : Int) : Int := dbf y + cum y m + d - 1 - 719162

theorem lp_01 (y : Int) : lp y = 0 ∨ lp y = 1 := by unfold lp; split <;> simp
theorem lp_eq (y : Int) : (lp y = 1 ∧ y % 4 = 0 ∧ (y % 100 ≠ 0 ∨ y % 400 = 0)) ∨ (lp y = 0 ∧ ¬ (y % 4 = 0 ∧ (y % 100 ≠ 0 ∨ y % 400 = 0))) := by
  by_cases h : y % 4 = 0 ∧ (y % 100 ≠ 0 ∨ y % 400 = 0)
  · left; exact ⟨by simp [lp, lpB, h], h⟩
  · right; exact ⟨by unfold lp lpB; rw [decide_eq_false h]; rfl, h⟩
theorem tabM_bd (m : Int) : 28 ≤ tabM m ∧ tabM m ≤ 31 := by unfold tabM; split <;> (try split) <;> omega
theorem mlen_bd (y m : Int) : 28 ≤ mlen y m ∧ mlen y m ≤ 31 := by
  have := tabM_bd m
  have := lp_01 y
  unfold mlen; split <;> omega
theorem dbf_succ (y : Int) : dbf (y + 1) = dbf y + 365 + lp y := by
  have := lp_eq y
  unfold dbf; omega
theorem dbf_bd (y : Int) (h0 : 1 ≤ y) (h : y ≤ 10000) : 0 ≤ dbf y ∧ dbf y ≤ 3652059 := by unfold dbf; omega
theorem dbf_mono (a b : Int) (h : a ≤ b) : dbf a ≤ dbf b := by unfold dbf; omega
theorem dbf_top : dbf 10000 = 3652059 := by decide
theorem months {m : Int} (h1 : 1 ≤ m) (h2 : m ≤ 12) : m = 1 ∨ m = 2 ∨ m = 3 ∨ m = 4 ∨ m = 5 ∨ m = 6 ∨ m = 7 ∨ m = 8 ∨ m = 9 ∨ m = 10 ∨ m = 11 ∨ m = 12 := by omega
theorem cum_succ (y m : Int) (h1 : 1 ≤ m) (h2 : m ≤ 12) : cum y (m + 1) = cum y m + mlen y m := by
  rcases months h1 h2 with rfl | rfl | rfl | rfl | rfl | rfl | rfl | rfl | rfl | rfl | rfl | rfl <;> simp [cum, mlen, tabM] <;> omega
theorem cum_1 (y : Int) : cum y 1 = 0 := rfl
theorem cum_13 (y : Int) : cum y 13 = 365 + lp y := by simp [cum]; omega
theorem cum_bd (y m : Int) (h1 : 1 ≤ m) (h2 : m ≤ 13) : 0 ≤ cum y m ∧ cum y m ≤ 366 := by
  have := lp_01 y
  rcases (show m = 13 ∨ m ≤ 12 by omega) with rfl | h
  · rw [cum_13]; omega
  · rcases months h1 h with rfl | rfl | rfl | rfl | rfl | rfl | rfl | rfl | rfl | rfl | rfl | rfl <;> simp [cum] <;> omega
theorem cum_le (y : Int) (a b : Int) (h0 : 1 ≤ a) (h : a ≤ b) (h1 : b ≤ 13) : cum y a ≤ cum y b := by
  have key : ∀ k : Nat, a + k ≤ 13 → cum y a ≤ cum y (a + k) := by
    intro k
    induction k with
    | zero => intro _; simp
    | succ k ih =>
      intro hk
      have h2 := ih (by omega)
      have h3 := cum_succ y (a + k) (by omega) (by omega)
      have h4 := mlen_bd y (a + k)
      have h5 : a + ((k + 1 : Nat) : Int) = a + k + 1 := by omega
      rw [h5]; omega
  have := key (b - a).toNat (by omega)
  rwa [show a + ((b - a).toNat : Int) = b by omega] at this
theorem within {y m d : Int} (h : vld y m d) : 0 ≤ cum y m + d - 1 ∧ cum y m + d - 1 < 365 + lp y := by
  obtain ⟨_, _, h1, h2, h3, h4⟩ := h
  have a := cum_succ y m h1 h2
  have b := cum_le y (m + 1) 13 (by omega) (by omega) (by omega)
  rw [cum_13] at b
  have c := cum_bd y m h1 (by omega)
  omega
theorem year_of {y m d y' m' d' : Int} (h : vld y m d) (h' : vld y' m' d') (e : dayNum y m d = dayNum y' m' d') : ¬ y < y' := by
  intro hlt
  have a := dbf_succ y
  have b := dbf_mono (y + 1) y' (by omega)
  have c := within h
  have c' := within h'
  unfold dayNum at e
  omega
theorem month_of {y m d m' d' : Int} (h : vld y m d) (h' : vld y m' d') (e : dayNum y m d = dayNum y m' d') : ¬ m < m' := by
  intro hlt
  obtain ⟨_, _, h1, h2, h3, h4⟩ := h
  obtain ⟨_, _, h1', h2', h3', h4'⟩ := h'
  have a := cum_succ y m h1 h2
  have b := cum_le y (m + 1) m' (by omega) (by omega) (by omega)
  unfold dayNum at e
  omega
theorem inj {y m d y' m' d' : Int} (h : vld y m d) (h' : vld y' m' d') (e : dayNum y m d = dayNum y' m' d') : y = y' ∧ m = m' ∧ d = d' := by
  have e1 : y = y' := by have := year_of h h' e; have := year_of h' h e.symm; omega
  subst e1
  have e2 : m = m' := by have := month_of h h' e; have := month_of h' h e.symm; omega
  subst e2
  refine ⟨rfl, rfl, ?_⟩
  unfold dayNum at e
  omega
theorem num_bd {y m d : Int} (h : vld y m d) : -719162 ≤ dayNum y m d ∧ dayNum y m d ≤ 2932896 := by
  have a := within h
  have b := dbf_bd y h.1 (by have := h.2.1; omega)
  have c := dbf_succ y
  have e := dbf_mono (y + 1) 10000 (by have := h.2.1; omega)
  rw [dbf_top] at e
  unfold dayNum
  omega
/-- The next day: over months' and years' ends. -/
theorem follows {y m d u v x : Int} (h : vld y m d) (h' : vld u v x) (e : dayNum u v x = dayNum y m d + 1) :
    (u = y ∧ v = m ∧ x = d + 1) ∨ (u = y ∧ v = m + 1 ∧ x = 1) ∨ (u = y + 1 ∧ m = 12 ∧ v = 1 ∧ x = 1 ∧ d = 31) := by
  have hb := num_bd h'
  obtain ⟨h0, h00, h1, h2, h3, h4⟩ := id h
  by_cases hd : d < mlen y m
  · left
    exact inj h' ⟨h0, h00, h1, h2, by omega, by omega⟩ (by rw [e]; unfold dayNum; omega)
  · have hd' : d = mlen y m := by omega
    by_cases hm : m < 12
    · right; left
      have hml := mlen_bd y (m + 1)
      exact inj h' ⟨h0, h00, by omega, by omega, by omega, by omega⟩ (by rw [e]; unfold dayNum; rw [cum_succ y m h1 h2]; omega)
    · right; right
      have hm' : m = 12 := by omega
      subst hm'
      have hl : mlen y 12 = 31 := rfl
      have c12 := cum_succ y 12 (by omega) (by omega)
      have c13 := cum_13 y
      have ds := dbf_succ y
      have hy : y < 9999 := by
        rcases (show y = 9999 ∨ y < 9999 by omega) with rfl | hh
        · exfalso
          have := dbf_top
          unfold dayNum at e hb
          have e9 : dbf (9999 + 1) = 3652059 := dbf_top
          have : cum 9999 (12 + 1) = cum 9999 13 := rfl
          omega
        · exact hh
      have hml := mlen_bd (y + 1) 1
      have hx : cum y (12 + 1) = cum y 13 := rfl
      obtain ⟨a, b, c⟩ := inj h' (y' := y + 1) (m' := 1) (d' := 1) ⟨by omega, by omega, by omega, by omega, by omega, by omega⟩ (by
        rw [e]; unfold dayNum; rw [ds, cum_1]; omega)
      exact ⟨a, rfl, b, c, by omega⟩
end Go.Proofs.YtogdkhnakenbcaaGreatDoor.Cal
