/-
  Contracts of the document's own written numbers: amount, plain, FormatInt, FormatDec.
-/
import Derived.Test.YtglaikeaigbiiaaDoorText
import Derived.LoopTactic
namespace Go.Proofs.YtglaikeaigbiiaaDoor
open Go.ChangeShapes Go.WideShapes Go.ChangeAt Go.RowKit Go.Sort
set_option linter.unusedVariables false

/-- u's digits with noughts ahead of them, at least k in all; nothing of 0 itself. -/
def pad0 (n k : Nat) : List UInt8 := if n = 0 then Lib.repeatL [48] k else Lib.repeatL [48] (k - Lib.nDigits n) ++ Lib.decDigits n
theorem rep_snoc (k : Nat) : Lib.repeatL [48] (k + 1) = Lib.repeatL [48] k ++ [48] := by rw [Lib.repeatL_add, Lib.repeatL_one]
theorem pad0_step (n k : Nat) (h : 0 < n ∨ 0 < k) : pad0 n k = pad0 (n / 10) (k - 1) ++ [UInt8.ofNat (48 + n % 10)] := by
  by_cases h0 : n = 0
  · subst h0
    obtain ⟨j, rfl⟩ : ∃ j, k = j + 1 := ⟨k - 1, by omega⟩
    simp only [pad0, if_pos]
    exact rep_snoc j
  · by_cases h1 : n < 10
    · have e : n / 10 = 0 := by omega
      have e2 : n % 10 = n := by omega
      rw [pad0, if_neg h0, pad0, if_pos e, Lib.nDigits_small h1, Lib.decDigits_one h1, e2]
    · have e : ¬ n / 10 = 0 := by omega
      rw [pad0, if_neg h0, pad0, if_neg e, Lib.nDigits_big h1, Lib.decDigits, dif_neg h1, Nat.add_comm (Lib.nDigits (n / 10)) 1, Nat.sub_sub k 1]
      simp
theorem pad0_eq (u n : Nat) (h : 1 ≤ n) : pad0 u n = padL u n := by
  unfold pad0 padL
  by_cases h0 : u = 0
  · subst h0
    rw [if_pos rfl, Lib.decDigits_one (by omega)]
    obtain ⟨j, rfl⟩ : ∃ j, n = j + 1 := ⟨n - 1, by omega⟩
    rw [rep_snoc]; rfl
  · rw [if_neg h0, Lib.decDigits_length]

def strLen : Value → Nat
  | .string b => b.size
  | _ => 0

theorem amount_any (v : Int) (w : World) (hv : In64 v) :
    Calls Tryd.prog 52 #[.int .i64 v] w fun e w' => e = .returned (.int .u64 (v.natAbs : Int)) ∧ w = w' := by
  unfold In64 at hv
  by_cases h : v < 0
  · have H : Hid (IntKind.u64.wrap (-IntKind.u64.wrap v) = (v.natAbs : Int)) := by show _ = _; rw [IntKind.wrap_u64, IntKind.wrap_u64]; omega
    go_enter Tryd.func52, Tryd.ntmps52
    go_wp2
    go_ret
    refine ⟨?_, rfl⟩
    first | (rw [← H.out]; rfl) | (simp; omega)
  · go_enter Tryd.func52, Tryd.ntmps52
    go_wp2
    go_ret
    refine ⟨?_, rfl⟩
    first | rfl | (simp; omega)

theorem bytes_cons (c : UInt8) (l : List UInt8) : (⟨(c :: l).toArray⟩ : ByteArray) = ⟨#[c]⟩ ++ ⟨l.toArray⟩ := (bytes_app [c] l).symm
theorem byte_str (w : World) (k : Nat) : (convert 75 9 (.slice (some ⟨w.heap.size, 0, none⟩) 1 1)).run Tryd.prog (w.alloc (.cells #[.int .u8 (48 + (k : Int) % 10)] 5)) = .ok (.string ⟨#[UInt8.ofNat (48 + k % 10)]⟩) (w.alloc (.cells #[.int .u8 (48 + (k : Int) % 10)] 5)) := by
  have h := run_convert_bytes_back (P := Tryd.prog) (w.alloc (.cells #[.int .u8 (48 + (k : Int) % 10)] 5)) 75 9 5 ⟨w.heap.size, 0, none⟩ 1 [UInt8.ofNat (48 + k % 10)] Tryd.underlying75 Tryd.underlying5 Tryd.underlying9 (fun j hj => by
    obtain rfl : j = 0 := by simpa using hj
    rw [Lib.add_plain, World.cell?_alloc_new]
    simp
    omega)
  exact h

theorem byte_str0 (w : World) : (convert 75 9 (.slice (some ⟨w.heap.size, 0, none⟩) 1 1)).run Tryd.prog (w.alloc (.cells #[.int .u8 48] 5)) = .ok (.string ⟨#[48]⟩) (w.alloc (.cells #[.int .u8 48] 5)) := byte_str w 0

end Go.Proofs.YtglaikeaigbiiaaDoor
