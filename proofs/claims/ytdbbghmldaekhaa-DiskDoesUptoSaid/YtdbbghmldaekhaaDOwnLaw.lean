/-
  DiskOwn: what is handed in is left as it is, and what is answered is nobody's else. No condition beyond the form's own.
-/
import Derived.Test.YtdbbghmldaekhaaDOpen
import Derived.Test.YtdbbghmldaekhaaDMath2
import Derived.Laws.OwnMore
namespace Go.Proofs.Ytdbbghmldaekhaa
open Go.ChangeShapes Go.WideShapes Go.ChangeAt Go.RowKit Go.Deep
set_option linter.unusedVariables false

/-- A slice of the call's own, of whatever bytes. -/
def Any8 (w : World) (B n cap : Nat) (a : Option Addr) : Prop := ∃ xs : List Value, w.ownsRow B 5 1 (.slice a n cap) n xs ∧ ∀ x ∈ xs, ∃ z, x = .int .u8 z
theorem OwnB.any8 {w : World} {B n cap : Nat} {a : Option Addr} {l : List UInt8} (h : OwnB w B (.slice a n cap) l) (hn : n = l.length) : Any8 w B n cap a := by
  subst hn
  exact ⟨_, h, fun x hx => by simp [Lib.byteCells] at hx; obtain ⟨c, _, rfl⟩ := hx; exact ⟨_, rfl⟩⟩
theorem Any8.at {w : World} {B n cap : Nat} {a : Option Addr} (h : Any8 w B n cap a) (i : Nat) (hi : i < n) : ∃ g z, a = some ⟨g, 0, none⟩ ∧ B ≤ g ∧ w.cell? ⟨g, i, none⟩ = some (.int .u8 z) ∧ w.frozen? ⟨g, i, none⟩ = false ∧ ∀ z', Any8 (w.setCell ⟨g, i, none⟩ (.int .u8 z')) B n cap a := by
  obtain ⟨xs, h1, h2⟩ := h
  obtain ⟨g, cap', hv, hb, hg⟩ := World.ownsRow.form h1 (by omega)
  obtain ⟨rfl, rfl⟩ : a = some ⟨g, 0, none⟩ ∧ cap = cap' := by simpa using hv
  have hl : xs.length = n := by have := h1.1; omega
  obtain ⟨z, hz⟩ := h2 xs[i] (List.getElem_mem (by omega))
  have hc := World.ownsRow.cells h1 (g := g) rfl i xs[i] (List.getElem?_eq_getElem (by omega))
  rw [Go.WideShapes.add_plain, Nat.zero_add, hz] at hc
  refine ⟨g, z, rfl, hb, hc, World.ownsRow.frozenAt h1 i, fun z' => ⟨_, (World.ownsRow.stored h1 i (.int .u8 z')).1, fun x hx => ?_⟩⟩
  rcases List.mem_or_eq_of_mem_set hx with hx | rfl
  · exact h2 x hx
  · exact ⟨_, rfl⟩
theorem Any8.same {w w' : World} {B n cap : Nat} {a : Option Addr} (h : Any8 w B n cap a) (hs : ∀ k, k < w.heap.size → (Value.slice a n cap).ownBlock = some k → w'.heap[k]? = w.heap[k]?) : Any8 w' B n cap a := by
  obtain ⟨xs, h1, h2⟩ := h
  exact ⟨xs, ownsRow_same h1 hs, h2⟩
theorem own_write (l : List UInt8) (hl : l.length ≤ 2000) : (St.new.write 0 0 l).2 = 0 ∧ (St.new.write 0 0 l).1.read 0 0 2000 = (l, 0) := by
  have h := write_plain (s := St.new) 0 0 l (.inl rfl) rfl rfl (by omega)
  have h' : St.new.write 0 0 l = _ := h
  rw [h']
  refine ⟨rfl, ?_⟩
  have hnow := now_write (s := St.new) 0 0 l (next64 St.new.calls)
  have h0 : St.new.now 0 = [] := rfl
  obtain ⟨h1, h2⟩ := foldF_parts 0 l.length 0 l [] (Nat.le_refl _)
  have hx : foldF 0 (parts 0 0 l) [] = l := eq_of_getD (by rw [h1]; split <;> simp <;> omega) fun i hi => by
    rw [h2 i]
    split
    · rfl
    · next hn =>
      rw [getD_none (a := l) (by omega)]
      rfl
  unfold St.read
  rw [if_neg (by show ¬ (0 : Int) ≠ 0; omega), if_neg (by omega)]
  show ((List.drop 0 (St.now _ 0)).take 2000, (0 : Int)) = (l, 0)
  rw [hnow, h0, hx, List.drop_zero, List.take_of_length_le hl]
/-- A disk behind w0; the blocks of X it does not read. -/
def AtX (w0 w : World) (g : Nat) (s : St) (X : Nat → Prop) : Prop := ∃ v pc qs kp, DSt w g v pc qs kp s ∧ (∀ k, DF g v pc k → w0.heap.size ≤ k) ∧ Below w0.heap.size w0 w ∧ ∀ k, X k → ¬ DR g v pc qs kp k
theorem AtX.at {w0 w : World} {g : Nat} {s : St} {X : Nat → Prop} (h : AtX w0 w g s X) : At w0 w g s := by
  obtain ⟨v, pc, qs, kp, h1, h2, h3, _⟩ := h
  exact ⟨v, pc, qs, kp, h1, h2, h3⟩
theorem At.x {w0 w w' : World} {g : Nat} {s : St} (h : At w0 w g s) (hb : Below w.heap.size w w') : AtX w0 w' g s (fun k => w.heap.size ≤ k) := by
  obtain ⟨v, pc, qs, kp, h1, h2, h3⟩ := h
  exact ⟨v, pc, qs, kp, h1.below hb, h2, bt h3 hb, fun k hk hd => by
    have := h1.core.lt (Array.getElem?_eq_some_iff.1 h1.box).1 k hd
    omega⟩
theorem AtX.turned {w0 w w' : World} {g : Nat} {v : Nat → Value} {pc : Value} {qs : List PV} {kp : Value} {x : St × Int} {e : Ending} {X : Nat → Prop} (hF : ∀ k, DF g v pc k → w0.heap.size ≤ k) (hb : Below w0.heap.size w0 w) (hX : ∀ k, X k → ¬ DR g v pc qs kp k) (h : Turned w g v pc qs kp x e w') : e = .returned (.int .i64 x.2) ∧ AtX w0 w' g x.1 (fun k => X k ∧ k < w.heap.size) ∧ Fr (DF g v pc) w w' := by
  obtain ⟨he, v', pc', qs', kp', hd, hr⟩ := h
  refine ⟨he, ⟨v', pc', qs', kp', hd, fun k hk => ?_, below_tr hb (hr.turn.fr.below hF hb.size), fun k hk hd' => hX k hk.1 (hr.newR k hk.2 hd')⟩, hr.turn.fr⟩
  by_cases hkw : k < w.heap.size
  · exact hF k (hr.turn.new k hkw hk)
  · have := hb.size
    omega
theorem AtX.fr {w0 w w' : World} {g : Nat} {s : St} {X G : Nat → Prop} (h : AtX w0 w g s X) (hf : Fr G w w') (hG : ∀ k, k < w.heap.size → G k → X k ∧ w0.heap.size ≤ k) : AtX w0 w' g s X := by
  obtain ⟨v, pc, qs, kp, h1, h2, h3, h4⟩ := h
  refine ⟨v, pc, qs, kp, h1.same hf.size fun k hk hd => hf.block k hk fun hg => h4 k (hG k hk hg).1 hd, h2, below_tr h3 ⟨hf.os, hf.tape, hf.output, hf.size, fun k hk => hf.block k (Nat.lt_of_lt_of_le hk h3.size) fun hg => ?_⟩, h4⟩
  have := (hG k (Nat.lt_of_lt_of_le hk h3.size) hg).2
  omega
theorem writeX {w0 w : World} {g : Nat} {s : St} {X : Nat → Prop} (f k : Int) (A : Option Addr) (c n : Nat) (b : List UInt8) (h : AtX w0 w g s X) (hA : BRd w A b) (hn : n = b.length) (hb : b.length ≤ 140737488355328) (hlim : s.pcs.length + 4194304 ≤ 8000000000000) :
    Calls Try.prog 12 #[.pointer (some ⟨g, 0, none⟩), .int .i64 f, .int .i64 k, .slice A n c] w fun e w' => e = .returned (.int .i64 (s.write f k b).2) ∧ AtX w0 w' g (s.write f k b).1 (fun k => X k ∧ k < w.heap.size) ∧ ∀ k, k < w.heap.size → X k → w'.heap[k]? = w.heap[k]? := by
  subst hn
  obtain ⟨v, pc, qs, kp, hd, hF, h0, hX⟩ := h
  have hq : s.pcs.length = qs.length := by rw [hd.names, List.length_map]
  refine (write_any g f k A c b w v pc qs kp s hd hA hb (by omega)).mono fun e w' h => ?_
  obtain ⟨h1, h2, h3⟩ := AtX.turned hF h0 hX h
  exact ⟨h1, h2, fun k hk hx => h3.block k hk fun hf => hX k hx (.inl hf)⟩
theorem min2000 (n : Nat) : min (n : Int) 2000 = ((min n 2000 : Nat) : Int) := by omega

end Go.Proofs.Ytdbbghmldaekhaa
