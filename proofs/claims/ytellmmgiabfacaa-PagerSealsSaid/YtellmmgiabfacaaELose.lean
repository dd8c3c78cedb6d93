/-
  The document's disk: lose, ends, Crash.
-/
import Derived.Test.YtellmmgiabfacaaEOps2
namespace Go.Proofs.Ytellmmgiabfacaa
open Go.ChangeShapes Go.WideShapes Go.ChangeAt Go.RowKit
set_option linter.unusedVariables false

/-- What is sure once some pieces are kept. -/
def suK (s : St) (l : List Bool) (ps : List Pc) (i : Nat) : List UInt8 := foldF i (kept l ps) (s.sure i)
theorem suK_nil (s : St) (l : List Bool) : suK s l [] = s.sure := by
  funext i
  unfold suK
  have : kept l [] = [] := by cases l <;> rfl
  rw [this]
  rfl
theorem suK_skip (s : St) (l : List Bool) (ps : List Pc) (j : Nat) (h : j < ps.length) (hk : l[j]?.getD false = false) : suK s l (ps.take (j + 1)) = suK s l (ps.take j) := by
  unfold suK
  rw [kept_take l ps j h, hk]
  rfl
theorem suK_step (s : St) (l : List Bool) (ps : List Pc) (j f : Nat) (p : Pc) (hp : ps[j]? = some p) (hk : l[j]?.getD false = true) (hf : p.file = f) : suK s l (ps.take (j + 1)) = upd (suK s l (ps.take j)) f (p.ap (suK s l (ps.take j) f)) := by
  obtain ⟨h, rfl⟩ := List.getElem?_eq_some_iff.1 hp
  have hkk : kept l (ps.take (j + 1)) = kept l (ps.take j) ++ [ps[j]] := by rw [kept_take l ps j h, hk]; rfl
  funext i
  unfold suK
  rw [hkk, foldF_app, foldF_one]
  by_cases hi : i = f
  · subst hi
    rw [upd_same, if_pos hf]
  · rw [upd_ne _ _ hi, if_neg (fun e => hi (e.symm.trans hf))]
theorem suK_ok {s : St} (hs : s.Ok) (l : List Bool) (j i : Nat) : (suK s l (s.pcs.take j) i).length ≤ maxFile := foldF_len (kept_ok fun p hp => hs.pcs p (List.mem_of_mem_take hp)) (hs.sure _)
theorem RTurn.none {w w' : World} {g : Nat} {pc pc' : Value} {R R' : Nat → Prop} (h : RTurn w w' g pc R pc' R') : RTurn w w' g pc R (.slice none 0 0) R' := ⟨h.fr, fun j _ hj => by simp [Value.ownBlock] at hj, h.newR⟩
end Go.Proofs.Ytellmmgiabfacaa
