/-
  Of disk, without the model: pieces, what a file has, what a call of a disk does.
-/
import Derived.Lib.Bytealg
namespace Go.Proofs.Ytellmmgiabfacaa
set_option linter.unusedVariables false

/-- A piece: bytes at a place of a file, or a cut to a size. -/
structure Pc where
  file : Nat
  cut : Bool
  pos : Nat
  b : List UInt8

def pad (n : Nat) (l : List UInt8) : List UInt8 := l ++ List.replicate (n - l.length) 0
def putAt (k : Nat) (b l : List UInt8) : List UInt8 := (pad (k + b.length) l).take k ++ b ++ (pad (k + b.length) l).drop (k + b.length)
def Pc.ap (p : Pc) (l : List UInt8) : List UInt8 := if p.cut then l.take p.pos else putAt p.pos p.b l
theorem pad_len (n : Nat) (l : List UInt8) : (pad n l).length = max l.length n := by simp [pad]; omega
theorem pad_id {n : Nat} {l : List UInt8} (h : n ≤ l.length) : pad n l = l := by simp [pad, Nat.sub_eq_zero_of_le h]
theorem putAt_len (k : Nat) (b l : List UInt8) : (putAt k b l).length = max l.length (k + b.length) := by
  simp [putAt, pad_len]
  omega
theorem pad_get {n : Nat} {l : List UInt8} {i : Nat} (h : i < n) : (pad n l)[i]? = some (l[i]?.getD 0) := by
  unfold pad
  rw [List.getElem?_append]
  split
  · next hl => rw [List.getElem?_eq_getElem hl]; rfl
  · next hl =>
    rw [List.getElem?_replicate, if_pos (by omega), List.getElem?_eq_none (by omega)]
    rfl
theorem putAt_in {k : Nat} {b l : List UInt8} {i : Nat} (h : k ≤ i) (h' : i < k + b.length) : (putAt k b l)[i]? = b[i - k]? := by
  have h1 : ((pad (k + b.length) l).take k).length = k := by simp [pad_len]; omega
  unfold putAt
  rw [List.append_assoc, List.getElem?_append_right (by omega), h1, List.getElem?_append_left (by omega)]
theorem putAt_out {k : Nat} {b l : List UInt8} {i : Nat} (h : i < k ∨ k + b.length ≤ i) (hl : i < l.length) : (putAt k b l)[i]? = l[i]? := by
  have h1 : ((pad (k + b.length) l).take k).length = k := by simp [pad_len]; omega
  have hp : (pad (k + b.length) l)[i]? = l[i]? := by
    unfold pad
    rw [List.getElem?_append_left hl]
  unfold putAt
  rw [List.append_assoc]
  rcases h with h | h
  · rw [List.getElem?_append_left (by omega), List.getElem?_take, if_pos h, hp]
  · rw [List.getElem?_append_right (by omega), h1, List.getElem?_append_right (by omega), List.getElem?_drop, ← hp]
    congr 1
    omega
theorem putAt_nil (k : Nat) (l : List UInt8) (h : k ≤ l.length) : putAt k [] l = l := by
  simp [putAt, pad_id (n := k) h]

/-- What a file has, behind these pieces. -/
def foldF (f : Nat) : List Pc → List UInt8 → List UInt8
  | [], l => l
  | p :: ps, l => foldF f ps (if p.file = f then p.ap l else l)
theorem foldF_app (f : Nat) (ps qs : List Pc) (l : List UInt8) : foldF f (ps ++ qs) l = foldF f qs (foldF f ps l) := by
  induction ps generalizing l with
  | nil => rfl
  | cons p ps ih => exact ih _
theorem foldF_one (f : Nat) (p : Pc) (l : List UInt8) : foldF f [p] l = if p.file = f then p.ap l else l := rfl
theorem foldF_take (f : Nat) (ps : List Pc) (k : Nat) (h : k < ps.length) (l : List UInt8) : foldF f (ps.take (k + 1)) l = if ps[k].file = f then ps[k].ap (foldF f (ps.take k) l) else foldF f (ps.take k) l := by
  rw [List.take_succ_eq_append_getElem h, foldF_app, foldF_one]
def others (f : Nat) (ps : List Pc) : List Pc := ps.filter fun p => p.file != f
theorem foldF_others (f : Nat) (ps : List Pc) (l : List UInt8) : foldF f (others f ps) l = l := by
  induction ps with
  | nil => rfl
  | cons p ps ih =>
    unfold others at *
    by_cases h : p.file = f
    · simpa [h] using ih
    · simp [h, foldF, ih]
theorem foldF_others_ne {f f' : Nat} (hf : f' ≠ f) (ps : List Pc) (l : List UInt8) : foldF f' (others f ps) l = foldF f' ps l := by
  induction ps generalizing l with
  | nil => rfl
  | cons p ps ih =>
    unfold others at *
    by_cases h : p.file = f
    · have h' : ¬ p.file = f' := fun e => hf (e.symm.trans h)
      simp only [List.filter_cons, h, bne_self_eq_false, Bool.false_eq_true, if_false, foldF]
      rw [ih, if_neg (fun e : f = f' => hf e.symm)]
    · simp [h, foldF, ih]

def maxFile : Nat := 4194304
structure Pc.Ok (p : Pc) : Prop where
  file : p.file < 2
  fits : p.pos + p.b.length ≤ maxFile
  bare : p.cut = true → p.b = []
  full : p.cut = false → 0 < p.b.length
theorem Pc.ap_len {p : Pc} (h : p.Ok) {l : List UInt8} (hl : l.length ≤ maxFile) : (p.ap l).length ≤ maxFile := by
  have := h.fits
  unfold Pc.ap
  split
  · simp; omega
  · rw [putAt_len]; omega
theorem foldF_len {f : Nat} {ps : List Pc} (h : ∀ p ∈ ps, p.Ok) {l : List UInt8} (hl : l.length ≤ maxFile) : (foldF f ps l).length ≤ maxFile := by
  induction ps generalizing l with
  | nil => exact hl
  | cons p ps ih =>
    refine ih (fun q hq => h q (List.mem_cons_of_mem _ hq)) ?_
    split
    · exact Pc.ap_len (h p (List.mem_cons_self ..)) hl
    · exact hl

/-- The parts of bytes at an offset, one for each sector. -/
def partsN (f : Nat) : Nat → Nat → List UInt8 → List Pc
  | 0, _, _ => []
  | n + 1, k, b => if b.length = 0 then [] else ⟨f, false, k, b.take (min b.length (512 - k % 512))⟩ :: partsN f n (k + min b.length (512 - k % 512)) (b.drop (min b.length (512 - k % 512)))
def parts (f k : Nat) (b : List UInt8) : List Pc := partsN f b.length k b
theorem partsN_fuel (f : Nat) (n m k : Nat) (b : List UInt8) (hn : b.length ≤ n) (hm : b.length ≤ m) : partsN f n k b = partsN f m k b := by
  induction n generalizing m k b with
  | zero =>
    have : b = [] := List.length_eq_zero_iff.1 (by omega)
    subst this
    cases m <;> simp [partsN]
  | succ n ih =>
    cases m with
    | zero =>
      have : b = [] := List.length_eq_zero_iff.1 (by omega)
      subst this
      simp [partsN]
    | succ m =>
      unfold partsN
      by_cases h0 : b.length = 0
      · rw [if_pos h0, if_pos h0]
      · rw [if_neg h0, if_neg h0]
        have : k % 512 < 512 := Nat.mod_lt _ (by decide)
        rw [ih m _ _ (by simp; omega) (by simp; omega)]
theorem parts_nil (f k : Nat) : parts f k [] = [] := rfl
theorem parts_step (f k : Nat) (b : List UInt8) (h : 0 < b.length) : parts f k b = ⟨f, false, k, b.take (min b.length (512 - k % 512))⟩ :: parts f (k + min b.length (512 - k % 512)) (b.drop (min b.length (512 - k % 512))) := by
  unfold parts
  obtain ⟨n, hn⟩ : ∃ n, b.length = n + 1 := ⟨b.length - 1, by omega⟩
  have : k % 512 < 512 := Nat.mod_lt _ (by decide)
  conv => lhs; rw [hn]; unfold partsN
  rw [if_neg (by omega)]
  rw [partsN_fuel f n _ _ _ (by simp; omega) (Nat.le_refl _)]
theorem parts_len (f : Nat) : ∀ (n k : Nat) (b : List UInt8), b.length ≤ n → (parts f k b).length ≤ b.length := by
  intro n
  induction n with
  | zero =>
    intro k b h
    have : b = [] := List.length_eq_zero_iff.1 (by omega)
    subst this
    simp [parts_nil]
  | succ n ih =>
    intro k b h
    by_cases h0 : 0 < b.length
    · have : k % 512 < 512 := Nat.mod_lt _ (by decide)
      rw [parts_step f k b h0, List.length_cons]
      have := ih (k + min b.length (512 - k % 512)) (b.drop (min b.length (512 - k % 512))) (by simp; omega)
      simp at this ⊢
      omega
    · have : b = [] := List.length_eq_zero_iff.1 (by omega)
      subst this
      simp [parts_nil]
theorem parts_le (f k : Nat) (b : List UInt8) : (parts f k b).length ≤ b.length := parts_len f b.length k b (Nat.le_refl _)
theorem parts_ok (f : Nat) (hf : f < 2) : ∀ (n k : Nat) (b : List UInt8), b.length ≤ n → k + b.length ≤ maxFile → ∀ p ∈ parts f k b, p.Ok := by
  intro n
  induction n with
  | zero =>
    intro k b h _ p hp
    have : b = [] := List.length_eq_zero_iff.1 (by omega)
    subst this
    simp [parts_nil] at hp
  | succ n ih =>
    intro k b h hk p hp
    by_cases h0 : 0 < b.length
    · have : k % 512 < 512 := Nat.mod_lt _ (by decide)
      rw [parts_step f k b h0] at hp
      rcases List.mem_cons.1 hp with rfl | hp
      · exact ⟨hf, by simp; omega, (fun h => by cases h), fun _ => by simp; omega⟩
      · exact ih _ _ (by simp; omega) (by simp; omega) p hp
    · have : b = [] := List.length_eq_zero_iff.1 (by omega)
      subst this
      simp [parts_nil] at hp

/-- The pieces that remain. -/
def kept : List Bool → List Pc → List Pc
  | k :: ks, p :: ps => if k then p :: kept ks ps else kept ks ps
  | _, _ => []
theorem kept_take (ks : List Bool) (ps : List Pc) (i : Nat) (h : i < ps.length) : kept ks (ps.take (i + 1)) = if ks[i]?.getD false then kept ks (ps.take i) ++ [ps[i]] else kept ks (ps.take i) := by
  induction ps generalizing ks i with
  | nil => simp at h
  | cons p ps ih =>
    cases ks with
    | nil => simp [kept]
    | cons k ks =>
      cases i with
      | zero => cases k <;> simp [kept]
      | succ i =>
        have hi : i < ps.length := by simpa using h
        simp only [List.take_succ_cons, kept, ih ks i hi, List.getElem?_cons_succ, List.getElem_cons_succ]
        cases k <;> simp <;> split <;> simp
theorem kept_ok {ks : List Bool} {ps : List Pc} (h : ∀ p ∈ ps, p.Ok) : ∀ p ∈ kept ks ps, p.Ok := by
  induction ps generalizing ks with
  | nil => cases ks <;> simp [kept]
  | cons p ps ih =>
    cases ks with
    | nil => simp [kept]
    | cons k ks =>
      have ih' := ih (ks := ks) fun q hq => h q (List.mem_cons_of_mem _ hq)
      cases k
      · simpa [kept] using ih'
      · intro q hq
        simp [kept] at hq
        rcases hq with rfl | hq
        · exact h _ (List.mem_cons_self ..)
        · exact ih' q hq

/-- A disk. -/
structure St where
  sure : Nat → List UInt8
  pcs : List Pc
  fuse : Nat
  keep : List Bool
  calls : Int
  down : Bool
def St.now (s : St) (f : Nat) : List UInt8 := foldF f s.pcs (s.sure f)
def St.new : St := ⟨fun _ => [], [], 0, [], 0, false⟩
structure St.Ok (s : St) : Prop where
  sure : ∀ f, (s.sure f).length ≤ maxFile
  pcs : ∀ p ∈ s.pcs, p.Ok
  fuse : s.fuse ≤ 9223372036854775807
  calls : -9223372036854775808 ≤ s.calls ∧ s.calls ≤ 9223372036854775807
theorem St.Ok.now {s : St} (h : s.Ok) (f : Nat) : (s.now f).length ≤ maxFile := foldF_len h.pcs (h.sure f)
theorem St.new_ok : St.new.Ok := ⟨fun _ => by simp [St.new, maxFile], fun _ h => by simp [St.new] at h, by simp [St.new], by simp [St.new]⟩
def St.crash (ks : List Bool) (s : St) : St := { sure := fun f => foldF f (kept ks s.pcs) (s.sure f), pcs := [], fuse := 0, keep := [], calls := s.calls, down := true }
theorem St.Ok.crash {s : St} (h : s.Ok) (ks : List Bool) : (s.crash ks).Ok := ⟨fun f => foldF_len (kept_ok h.pcs) (h.sure f), fun _ h => by simp [St.crash] at h, by simp [St.crash], h.calls⟩
/-- One more call. -/
def next64 (c : Int) : Int := if c = 9223372036854775807 then -9223372036854775808 else c + 1
def St.count (s : St) : St × Int := if s.fuse = 1 then (({ s with calls := next64 s.calls } : St).crash s.keep, 6) else ({ s with calls := next64 s.calls, fuse := s.fuse - 1 }, 0)
theorem St.Ok.ticked {s : St} (h : s.Ok) : ({ s with calls := next64 s.calls } : St).Ok := ⟨h.sure, h.pcs, h.fuse, by have := h.calls; unfold next64; simp only; split <;> omega⟩
theorem St.Ok.count {s : St} (h : s.Ok) : s.count.1.Ok := by
  unfold St.count
  split
  · exact h.ticked.crash _
  · exact ⟨h.sure, h.pcs, by have := h.fuse; simp only; omega, h.ticked.calls⟩
def St.may (s : St) (f : Int) : Int := if s.down then 6 else if f = 0 ∨ f = 1 then 0 else 1
def St.add (s : St) (l : List Pc) : St := { s with pcs := s.pcs ++ l }
theorem St.Ok.add {s : St} (h : s.Ok) {l : List Pc} (hl : ∀ p ∈ l, p.Ok) : (s.add l).Ok := ⟨h.sure, fun p hp => (List.mem_append.1 hp).elim (h.pcs p) (hl p), h.fuse, h.calls⟩
def St.settle (s : St) (f : Nat) : St := { s with sure := fun f' => if f' = f then s.now f else s.sure f', pcs := others f s.pcs }
theorem St.Ok.settle {s : St} (h : s.Ok) (f : Nat) : (s.settle f).Ok := ⟨fun f' => by unfold St.settle; simp only; split; exact h.now f; exact h.sure f', fun p hp => h.pcs p (List.mem_filter.1 hp).1, h.fuse, h.calls⟩
theorem St.settle_now (s : St) (f f' : Nat) : (s.settle f).now f' = s.now f' := by
  unfold St.settle St.now
  simp only
  split
  · next e => subst e; exact foldF_others _ _ _
  · next e => exact foldF_others_ne e _ _
def St.write (s : St) (f k : Int) (b : List UInt8) : St × Int :=
  if s.may f ≠ 0 then (s, s.may f) else if k < 0 then (s, 1) else if 0 < b.length ∧ (4194304 : Int) - b.length < k then (s, 5) else (s.add (parts f.toNat k.toNat b)).count
def St.truncate (s : St) (f n : Int) : St × Int :=
  if s.may f ≠ 0 then (s, s.may f) else if n < 0 ∨ ((s.now f.toNat).length : Int) < n then (s, 1) else (s.add [⟨f.toNat, true, n.toNat, []⟩]).count
def St.sync (s : St) (f : Int) : St × Int :=
  if s.may f ≠ 0 then (s, s.may f) else if s.fuse = 1 then s.count else (s.settle f.toNat).count
def St.crashed (s : St) (ks : List Bool) : St × Int := if s.down then (s, 6) else (s.crash ks, 0)
def St.setFuse (s : St) (n : Int) (ks : List Bool) : St × Int := if n < 0 then (s, 1) else ({ s with fuse := n.toNat, keep := ks }, 0)
def St.restart (s : St) : St := { s with down := false }
theorem may_file {s : St} {f : Int} (h : s.may f = 0) : s.down = false ∧ (f = 0 ∨ f = 1) := by
  unfold St.may at h
  split at h
  · omega
  · split at h
    · next h1 h2 => exact ⟨by simpa using h1, h2⟩
    · omega
theorem St.Ok.write {s : St} (h : s.Ok) (f k : Int) (b : List UInt8) : (s.write f k b).1.Ok := by
  unfold St.write
  split
  · exact h
  · next hm =>
    have hf := (may_file (s := s) (f := f) (by omega)).2
    split
    · exact h
    · split
      · exact h
      · next h1 h2 =>
        refine (h.add ?_).count
        by_cases h0 : 0 < b.length
        · exact parts_ok _ (by omega) b.length _ _ (Nat.le_refl _) (by unfold maxFile; omega)
        · have : b = [] := List.length_eq_zero_iff.1 (by omega)
          subst this
          simp [parts_nil]
theorem St.Ok.truncate {s : St} (h : s.Ok) (f n : Int) : (s.truncate f n).1.Ok := by
  unfold St.truncate
  split
  · exact h
  · next hm =>
    have hf := (may_file (s := s) (f := f) (by omega)).2
    have hn := h.now f.toNat
    split
    · exact h
    · refine (h.add fun p hp => ?_).count
      simp at hp
      subst hp
      exact ⟨by simp only; omega, by simp; unfold maxFile at *; omega, fun _ => rfl, fun h => by cases h⟩
theorem St.Ok.sync {s : St} (h : s.Ok) (f : Int) : (s.sync f).1.Ok := by
  unfold St.sync
  split
  · exact h
  · split
    · exact h.count
    · exact (h.settle _).count
end Go.Proofs.Ytellmmgiabfacaa
