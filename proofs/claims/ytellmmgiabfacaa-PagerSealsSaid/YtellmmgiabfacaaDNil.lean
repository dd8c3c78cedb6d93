/-
  Of disk: a method value of a piece: the receiver is no nil pointer.
-/
import Derived.Test.YtellmmgiabfacaaDParts
namespace Go.Proofs.Ytellmmgiabfacaa
open Go.ChangeShapes Go.WideShapes Go.ChangeAt Go.RowKit
set_option linter.unusedVariables false

theorem cutMethods : (Try.prog.info? 195).map (fun i => (i.methods.find? (·.name == "colonnade/disk.apply")).map fun m => (m.path.toList, m.func)) = some (some ([], some (173, false))) := by kernel_rfl
theorem patchMethods : (Try.prog.info? 175).map (fun i => (i.methods.find? (·.name == "colonnade/disk.apply")).map fun m => (m.path.toList, m.func)) = some (some ([], some (172, false))) := by kernel_rfl
theorem nilAhead_of {t : TypeId} {f : FuncId} {name : String} {P : Program} (h : (P.info? t).map (fun i => (i.methods.find? (·.name == name)).map fun m => (m.path.toList, m.func)) = some (some ([], some (f, false)))) {d : TypeDesc} (hu : P.underlying t = some d) (hd : ∀ e, d ≠ .pointer e) (n : Nat) (hn : 0 < n) (v : Value) (w : World) :
    (nilAhead n t v name).run P w = .ok (some false) w := by
  obtain ⟨k, rfl⟩ : ∃ k, n = k + 1 := ⟨n - 1, by omega⟩
  cases hi : P.info? t with
  | none => simp [hi] at h
  | some i =>
    simp only [hi, Option.map_some, Option.some.injEq] at h
    cases hm : i.methods.find? (·.name == name) with
    | none => simp [hm] at h
    | some m =>
      simp only [hm, Option.map_some, Option.some.injEq, Prod.mk.injEq] at h
      obtain ⟨hp, hf⟩ := h
      simp [nilAhead, typeInfo, hi, hm, hp, hf, followBlind, run_underlying hu]
      split <;> simp_all
theorem nil_cut (n : Nat) (hn : 0 < n) (v : Value) (w : World) : (nilAhead n 195 v "colonnade/disk.apply").run Try.prog w = .ok (some false) w := nilAhead_of cutMethods Try.underlying195 (by simp) n hn v w
theorem nil_patch (n : Nat) (hn : 0 < n) (v : Value) (w : World) : (nilAhead n 175 v "colonnade/disk.apply").run Try.prog w = .ok (some false) w := nilAhead_of patchMethods Try.underlying175 (by simp) n hn v w
end Go.Proofs.Ytellmmgiabfacaa
