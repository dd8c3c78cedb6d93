/-
  Of disk: contracts of New, Read, SetFuse; slices.Clone of truths.
-/
import Derived.Test.YtellmmgiabfacaaDSmall
namespace Go.Proofs.Ytellmmgiabfacaa
open Go.ChangeShapes Go.WideShapes Go.ChangeAt Go.RowKit
set_option linter.unusedVariables false

/-- What is new. -/
def New (w w' : World) : Nat → Prop := fun k => w.heap.size ≤ k ∧ k < w'.heap.size
theorem new_any (w : World) : Calls Try.prog 24 #[] w fun e w' => ∃ g, e = .returned (.pointer (some ⟨g, 0, none⟩)) ∧ Disk w' g (New w w') (New w w') St.new ∧ Below w.heap.size w w' := by
  go_enter Try.func24, Try.ntmps24
  go_wp2_with fail
  go_ret
  refine ⟨w.heap.size, rfl, ?_, alloc_below _ _⟩
  have hs : ∀ o : Obj, (w.alloc o).heap.size = w.heap.size + 1 := fun o => by simp
  refine ⟨fun _ => .slice none 0 0, .slice none 0 0, [], .slice none 0 0, ⟨heap_alloc_new w _, ⟨fun i hi => ?_, fun i j _ _ _ k h => by simp [Value.ownBlock] at h, World.ownsRow_nil _ _ _ _, fun q hq => by simp at hq, World.ownsRow_nil _ _ _ _, fun _ _ => by simp [Value.ownBlock], by simp [Value.ownBlock], by simp [Value.ownBlock], fun _ _ k h => by simp [Value.ownBlock] at h, fun k h => by simp [Value.ownBlock] at h, fun _ _ k h => by simp [Value.ownBlock] at h⟩, rfl, St.new_ok⟩, ?_, ?_, fun _ h => h, fun _ h => h.2⟩
  · have : St.new.ct i = [] := by unfold St.ct; split <;> rfl
    rw [this]
    exact OwnB.nil _ _
  · rintro k (rfl | h | ⟨_, _, h⟩)
    · exact ⟨Nat.le_refl _, by rw [hs]; omega⟩
    · simp [Value.ownBlock] at h
    · simp [Value.ownBlock] at h
  · rintro k ((rfl | h | ⟨_, _, h⟩) | h | ⟨_, h, _⟩)
    · exact ⟨Nat.le_refl _, by rw [hs]; omega⟩
    · simp [Value.ownBlock] at h
    · simp [Value.ownBlock] at h
    · simp [Value.ownBlock] at h
    · simp at h

def St.read (s : St) (f k n : Int) : List UInt8 × Int := if s.may f ≠ 0 then ([], s.may f) else if k < 0 ∨ n < 0 then ([], 1) else (((s.now f.toNat).drop k.toNat).take n.toNat, 0)
/-- What Read leaves: bytes of the caller's own. -/
def ReadPost (w : World) (x : List UInt8 × Int) (e : Ending) (w' : World) : Prop := ∃ v', e = .returned (.tuple #[v', .int .i64 x.2]) ∧ OwnB w' w.heap.size v' x.1 ∧ Below w.heap.size w w'
theorem read_not {p : Value} (f k n : Int) {w : World} (h : Mk w p false) : Calls Try.prog 34 #[p, .int .i64 f, .int .i64 k, .int .i64 n] w (ReadPost w ([], 2)) := by
  have HC := Lib.hid (reach_not f h)
  clear h
  go_enter Try.func34, Try.ntmps34
  go_wp2_with fail
  refine HC.out.mono ?_
  rintro e w' ⟨rfl, rfl⟩
  go_wp2_with fail
  go_ret2
  exact ⟨_, rfl, OwnB.nil _ _, Below.refl _ _⟩
theorem BRd.sub {w : World} {g off : Nat} {l : List UInt8} (h : BRd w (some ⟨g, off, none⟩) l) (m n : Nat) : BRd w (some ⟨g, off + m, none⟩) ((l.drop m).take n) := fun h0 => by
  have hl : 0 < l.length := by simp at h0; omega
  obtain ⟨g', off', hA, hg, hc⟩ := h hl
  obtain ⟨rfl, rfl⟩ : g = g' ∧ off = off' := by simpa using hA
  refine ⟨g, off + m, rfl, hg, fun i hi => ?_⟩
  have hi' : i < n ∧ i < l.length - m := by simp at hi; omega
  have := hc (m + i) (by omega)
  rw [show off + m + i = off + (m + i) by omega, this]
  simp
set_option maxHeartbeats 1600000 in
theorem read_any (g : Nat) (f k n : Int) {w : World} {F R : Nat → Prop} {s : St} (h : Disk w g F R s) : Calls Try.prog 34 #[.pointer (some ⟨g, 0, none⟩), .int .i64 f, .int .i64 k, .int .i64 n] w (ReadPost w (s.read f k n)) := by
  have HC := Lib.hid (reach_any g f h)
  obtain ⟨v, pc, qs, kp, hd, -⟩ := h
  obtain ⟨⟨-, -, -, -, -, c5, -, c7, -⟩, -⟩ := box10 hd.box
  have o0 := hd.core.own 0 (by omega)
  have o1 := hd.core.own 2 (by omega)
  have l0 : s.ct 0 = s.now 0 := rfl
  have l1 : s.ct 2 = s.now 1 := rfl
  rw [l0] at o0
  rw [l1] at o1
  have hlen0 := hd.ok.now 0
  have hlen1 := hd.ok.now 1
  unfold maxFile at hlen0 hlen1
  unfold St.read
  by_cases hm : s.may f = 0
  · rw [if_neg (by omega)]
    rw [hm] at HC
    obtain ⟨-, hf⟩ := may_file hm
    clear hm hd l0 l1
    by_cases hneg : k < 0 ∨ n < 0
    · rw [if_pos hneg]
      clear o0 o1 c5 c7
      by_cases hk : k < 0
      · go_enter Try.func34, Try.ntmps34
        go_wp2_with fail
        refine HC.out.mono ?_
        rintro e w' ⟨rfl, rfl⟩
        go_wp2_with fail
        go_ret2
        exact ⟨_, rfl, OwnB.nil _ _, Below.refl _ _⟩
      · have hn : n < 0 := by omega
        clear hneg
        go_enter Try.func34, Try.ntmps34
        go_wp2_with fail
        refine HC.out.mono ?_
        rintro e w' ⟨rfl, rfl⟩
        go_wp2_with fail
        go_ret2
        exact ⟨_, rfl, OwnB.nil _ _, Below.refl _ _⟩
    · rw [if_neg hneg]
      have main : ∀ (b : List UInt8) (x : Value) (i : Nat), b.length ≤ 4194304 → OwnB w 0 x b → ((f = 0 ∧ i = 5) ∨ (f = 1 ∧ i = 7)) → w.cell? ⟨g, i, none⟩ = some x →
          Calls Try.prog 34 #[.pointer (some ⟨g, 0, none⟩), .int .i64 f, .int .i64 k, .int .i64 n] w (ReadPost w ((b.drop k.toNat).take n.toNat, 0)) := by
        intro b x i hbl ho hfi hc
        obtain ⟨a, cap, rfl, hcap, hcn⟩ := ho.slice
        obtain ⟨m, hm, hmk⟩ : ∃ m : Nat, min k (b.length : Int) = (m : Int) ∧ m = min k.toNat b.length := ⟨_, by omega, rfl⟩
        obtain ⟨j, hj, hjk⟩ : ∃ j : Nat, min n ((b.length - m : Nat) : Int) = (j : Int) ∧ j = min n.toNat (b.length - m) := ⟨_, by omega, rfl⟩
        have hml : m ≤ b.length := by omega
        have hmc : m ≤ cap := by omega
        have hjl : j ≤ cap - m := by omega
        have hsub : ((b.drop k.toNat).take n.toNat) = (b.drop m).take j := by
          rw [hmk, hjk]
          apply List.ext_getElem?
          intro i
          simp only [List.getElem?_take, List.getElem?_drop]
          by_cases h1 : k.toNat ≤ b.length
          · rw [Nat.min_eq_left h1]
            by_cases h2 : i < n.toNat
            · by_cases h3 : i < b.length - k.toNat
              · rw [if_pos h2, if_pos (by omega)]
              · rw [if_pos h2, if_neg (by omega), List.getElem?_eq_none (by omega)]
            · rw [if_neg h2, if_neg (by omega)]
          · rw [if_neg (show ¬ i < min n.toNat (b.length - m) by omega)]
            split
            · rw [List.getElem?_eq_none (by omega)]
            · rfl
        have hlj : ((b.drop m).take j).length = j := by simp; omega
        have HO := Lib.hid ho
        have HS := Lib.hid hsub
        have HL := Lib.hid hlj
        have hk0 : ¬ k < 0 := by omega
        have hn0 : ¬ n < 0 := by omega
        have HB : ∀ A', (A' = a ∧ cap = m) ∨ A' = a.map (fun x => x.add m) → BRd w A' ((b.drop m).take j) := by
          intro A' hA'
          rcases hA' with ⟨rfl, hcm⟩ | rfl
          · intro h0
            rw [hlj] at h0
            omega
          · cases a with
            | none =>
              intro h0
              rw [hlj] at h0
              have := hcn rfl
              omega
            | some a =>
              intro h0
              have hb0 : 0 < b.length := by rw [hlj] at h0; omega
              obtain ⟨q, o, ha, -⟩ := ho.brd hb0
              obtain rfl := Option.some.inj ha
              have := (ho.brd).sub m j
              rw [Option.map_some, Go.WideShapes.add_plain]
              exact this h0
        have HCL : Hid (∀ A' c', (A' = a ∧ cap = m) ∨ A' = a.map (fun x => x.add m) → Calls Try.prog 16 #[.slice A' j c'] w fun e w' => ∃ v', e = .returned v' ∧ OwnB w' w.heap.size v' ((b.drop k.toNat).take n.toNat) ∧ Below w.heap.size w w') := by
          intro A' c' hA'
          have := clone_any A' c' ((b.drop m).take j) w (HB A' hA') (by rw [hlj]; omega)
          rw [hlj] at this
          rw [hsub]
          exact this
        have hj' : min n ((b.length : Int) - (m : Int)) = (j : Int) := by omega
        clear HB ho hsub hlj o0 o1 c5 c7 hlen0 hlen1 hmk hjk hneg hf
        rcases hfi with ⟨rfl, rfl⟩ | ⟨rfl, rfl⟩
        · go_enter Try.func34, Try.ntmps34
          go_wp2_with fail
          refine HC.out.mono ?_
          rintro e w' ⟨rfl, rfl⟩
          go_wp2_with fail
          · refine (HCL.out a 0 (.inl ⟨rfl, by assumption⟩)).mono ?_
            rintro e w' ⟨v', rfl, hv, hb⟩
            have HV := Lib.hid hv
            have HBL := Lib.hid hb
            clear hv hb
            go_wp2_with fail
            go_ret2
            exact ⟨_, rfl, HV.out, HBL.out⟩
          · refine (HCL.out (a.map (fun x => x.add m)) (cap - m) (.inr rfl)).mono ?_
            rintro e w' ⟨v', rfl, hv, hb⟩
            have HV := Lib.hid hv
            have HBL := Lib.hid hb
            clear hv hb
            go_wp2_with fail
            go_ret2
            exact ⟨_, rfl, HV.out, HBL.out⟩
        · go_enter Try.func34, Try.ntmps34
          go_wp2_with fail
          refine HC.out.mono ?_
          rintro e w' ⟨rfl, rfl⟩
          go_wp2_with fail
          · refine (HCL.out a 0 (.inl ⟨rfl, by assumption⟩)).mono ?_
            rintro e w' ⟨v', rfl, hv, hb⟩
            have HV := Lib.hid hv
            have HBL := Lib.hid hb
            clear hv hb
            go_wp2_with fail
            go_ret2
            exact ⟨_, rfl, HV.out, HBL.out⟩
          · refine (HCL.out (a.map (fun x => x.add m)) (cap - m) (.inr rfl)).mono ?_
            rintro e w' ⟨v', rfl, hv, hb⟩
            have HV := Lib.hid hv
            have HBL := Lib.hid hb
            clear hv hb
            go_wp2_with fail
            go_ret2
            exact ⟨_, rfl, HV.out, HBL.out⟩
      rcases hf with rfl | rfl
      · exact main _ _ 5 hlen0 o0 (.inl ⟨rfl, rfl⟩) c5
      · exact main _ _ 7 hlen1 o1 (.inr ⟨rfl, rfl⟩) c7
  · rw [if_pos hm]
    generalize s.may f = m at *
    clear hd o0 o1 l0 l1 c5 c7
    go_enter Try.func34, Try.ntmps34
    go_wp2_with fail
    refine HC.out.mono ?_
    rintro e w' ⟨rfl, rfl⟩
    go_wp2_with fail
    go_ret2
    exact ⟨_, rfl, OwnB.nil _ _, Below.refl _ _⟩
end Go.Proofs.Ytellmmgiabfacaa
