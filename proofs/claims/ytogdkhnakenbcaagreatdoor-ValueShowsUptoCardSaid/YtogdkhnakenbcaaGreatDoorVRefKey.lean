/-
  Contracts of the document's Key.
-/
import Derived.Test.YtogdkhnakenbcaaGreatDoorVHash
import Derived.Test.YtogdkhnakenbcaaGreatDoorVRefShow2
namespace Go.Proofs.YtogdkhnakenbcaaGreatDoor
open Go.ChangeShapes Go.WideShapes Go.ChangeAt Go.RowKit Go.Sort
set_option linter.unusedVariables false

theorem conv2 (w : World) (x y : Int) (c d : UInt8) (hx : x = c.toNat) (hy : y = d.toNat) : (convert 61 9 (.slice (some ⟨w.heap.size, 0, none⟩) 2 2)).run Tryz.prog (w.alloc (.cells #[.int .u8 x, .int .u8 y] 5)) = .ok (.string ⟨[c, d].toArray⟩) (w.alloc (.cells #[.int .u8 x, .int .u8 y] 5)) := by
  subst hx hy
  refine run_convert_bytes_back _ _ _ 5 ⟨w.heap.size, 0, none⟩ 2 [c, d] Tryz.underlying61 Tryz.underlying5 Tryz.underlying9 (fun j hj => ?_)
  match j, hj with
  | 0, _ => simp [Addr.add]
  | 1, _ => simp [Addr.add]

set_option maxHeartbeats 3200000 in
set_option maxRecDepth 100000 in
theorem refKey_any (A : Option Addr) (ca : Nat) (xs : List VR) (w : World) (hA : VRd w A xs) (ox : ∀ x ∈ xs, x.Ok) (lx : xs.length ≤ maxLen) (hlim : (keyL xs).length + 100 ≤ 140737488355328) :
    Calls Tryz.prog 13 #[.slice A xs.length ca] w fun e w' => e = .returned (.string ⟨(keyL xs).toArray⟩) ∧ Below w.heap.size w w' := by
  unfold maxLen at lx
  go_enter Tryz.func13, Tryz.ntmps13
  go_wp2_with fail
  go_loopw [3, 4] (fun s i wr => ∃ k : Nat, k ≤ xs.length ∧ i = .int .i64 k ∧ Below w.heap.size w wr ∧ s = .string ⟨(keyL (xs.take k)).toArray⟩) (fun _ i _ => xs.length - (intOf i).toNat)
  case atStart => exact ⟨0, Nat.zero_le _, rfl, Below.refl _ _, rfl⟩
  case round =>
    obtain ⟨k, kx, rfl, hw, rfl⟩ := hrel
    by_cases hx : k < xs.length
    · obtain ⟨g, off, rfl, hg, hW⟩ := (hA.below hw) (by omega)
      obtain ⟨a0, a1, a2, a3, a4⟩ := hW k hx
      have hok := ox _ (List.getElem_mem hx)
      have hle := keyL_take_le xs (k + 1)
      rw [keyL_take xs k hx] at hle
      have HT := Lib.hid (keyL_take xs k hx)
      have x0 : (0 : Int) ≤ (k : Int) := by omega
      have x1 : (k : Int) < (xs.length : Int) := by omega
      have x2 : 0 < xs.length := by omega
      have HA := Lib.hid hA
      have hsz : w.heap.size ≤ wr.heap.size := hw.size
      clear hA hW
      generalize xs[k] = vx at *
      obtain ⟨vk, vs, vnl, vn, vt⟩ := vx
      simp only at a0 a1 a2 a3 a4
      have hk := hok.k
      have hn := hok.n
      generalize keyL (xs.take k) = L at *
      have HL := Lib.hid hle
      have hL : L.length + 30 ≤ 140737488355328 + 0 := by simp only [List.length_append] at hle; omega
      have hI : (Lib.itoa vk).length ≤ 21 := Lib.itoa_length_le vk hk.1 hk.2
      have c1 : (⟨L.toArray⟩ : ByteArray) ++ ⟨(Lib.itoa vk).toArray⟩ = ⟨(L ++ Lib.itoa vk).toArray⟩ := bytes_app _ _
      have q1 : L.length + (Lib.itoa vk).length ≤ 9223372036854775807 := by omega
      clear hle hok
      cases vnl
      · by_cases hk3 : vk = 3
        · skip
          subst hk3
          have HX : Hid (keyV ⟨3, vs, false, vn, vt⟩ = Lib.itoa 3 ++ (sc2 vs ++ 118 :: (Lib.itoa vn ++ [59]))) := by show _ = _; simp [keyV, headK, bodyK]
          obtain ⟨S, hS⟩ : ∃ S, sc2 vs = S := ⟨_, rfl⟩
          rw [hS] at HX
          have hS2 : S.length = 2 := by rw [← hS]; rfl
          have c2 : (⟨(L ++ Lib.itoa 3).toArray⟩ : ByteArray) ++ ⟨S.toArray⟩ = ⟨(L ++ Lib.itoa 3 ++ S).toArray⟩ := bytes_app _ _
          have q3 : ¬9223372036854775807 < L.length + (Lib.itoa 3).length + S.length := by omega
          have hI2 : (Lib.itoa vn).length ≤ 21 := Lib.itoa_length_le vn hn.1 hn.2
          have c3 : (⟨#[118]⟩ : ByteArray) ++ ⟨(Lib.itoa vn).toArray⟩ = ⟨([118] ++ Lib.itoa vn).toArray⟩ := bytes_app [118] _
          have c4 : (⟨([118] ++ Lib.itoa vn).toArray⟩ : ByteArray) ++ ⟨#[59]⟩ = ⟨([118] ++ Lib.itoa vn ++ [59]).toArray⟩ := bytes_app _ [59]
          have c5 : (⟨(L ++ Lib.itoa 3 ++ S).toArray⟩ : ByteArray) ++ ⟨([118] ++ Lib.itoa vn ++ [59]).toArray⟩ = ⟨(L ++ Lib.itoa 3 ++ S ++ ([118] ++ Lib.itoa vn ++ [59])).toArray⟩ := bytes_app _ _
          have q4 : L.length + 30 + (Lib.itoa 3).length + (Lib.itoa vn).length + S.length ≤ 9223372036854775807 := by omega
          by_cases s0 : vs < 0
          · skip
            have hS1 : sc2 vs = [57, 57] := by unfold sc2 scI; rw [if_pos (by omega)]; rfl
            have hcv : ∀ w : World, (convert 61 9 (.slice (some ⟨w.heap.size, 0, none⟩) 2 2)).run Tryz.prog (w.alloc (.cells #[.int .u8 57, .int .u8 57] 5)) = .ok (.string ⟨S.toArray⟩) (w.alloc (.cells #[.int .u8 57, .int .u8 57] 5)) := fun w => by
              rw [← hS, hS1]; exact conv2 w 57 57 57 57 rfl rfl
            clear hS1
            clear hS
            go_wp2_with fail
            refine (refFormatInt_any 3 (by unfold In64; omega) _).mono ?_
            rintro e w3 ⟨rfl, hb3⟩
            have z0 : w3.cell? ⟨wr.heap.size, 0, none⟩ = some (.int .i64 3) := by rw [(bcell hb3).1 _ _ (by simp)]; simp
            have z1 : w3.cell? ⟨wr.heap.size, 1, none⟩ = some (.int .i64 vs) := by rw [(bcell hb3).1 _ _ (by simp)]; simp
            have z2 : w3.cell? ⟨wr.heap.size, 2, none⟩ = some (.bool false) := by rw [(bcell hb3).1 _ _ (by simp)]; simp
            have z3 : w3.cell? ⟨wr.heap.size, 3, none⟩ = some (.int .i64 vn) := by rw [(bcell hb3).1 _ _ (by simp)]; simp
            have hlt3 : wr.heap.size < w3.heap.size := World.block_lt_of_cell? _ _ z0
            have hw3 := Lib.hid (bt (hw.alloc hsz _) hb3)
            clear hb3
            go_wp2_with fail
            refine (refFormatInt_any vn hn _).mono ?_
            rintro e w4 ⟨rfl, hb4⟩
            have hw4 := Lib.hid (bt (hw3.out.alloc (by have := hw3.out.size; omega) _) hb4)
            clear hb4
            go_wp2_with fail
            refine ⟨⟨k + 1, by omega, by go_num, hw4.out, ?_⟩, ?_⟩
            · rw [HT.out, HX.out]; congr 1; apply ByteArray.ext; simp
            · simp [intOf]; omega
          · by_cases s18 : 18 < vs
            · skip
              have hS1 : sc2 vs = [57, 57] := by unfold sc2 scI; rw [if_pos (by omega)]; rfl
              have hcv : ∀ w : World, (convert 61 9 (.slice (some ⟨w.heap.size, 0, none⟩) 2 2)).run Tryz.prog (w.alloc (.cells #[.int .u8 57, .int .u8 57] 5)) = .ok (.string ⟨S.toArray⟩) (w.alloc (.cells #[.int .u8 57, .int .u8 57] 5)) := fun w => by
                rw [← hS, hS1]; exact conv2 w 57 57 57 57 rfl rfl
              clear hS1
              clear hS
              go_wp2_with fail
              refine (refFormatInt_any 3 (by unfold In64; omega) _).mono ?_
              rintro e w3 ⟨rfl, hb3⟩
              have z0 : w3.cell? ⟨wr.heap.size, 0, none⟩ = some (.int .i64 3) := by rw [(bcell hb3).1 _ _ (by simp)]; simp
              have z1 : w3.cell? ⟨wr.heap.size, 1, none⟩ = some (.int .i64 vs) := by rw [(bcell hb3).1 _ _ (by simp)]; simp
              have z2 : w3.cell? ⟨wr.heap.size, 2, none⟩ = some (.bool false) := by rw [(bcell hb3).1 _ _ (by simp)]; simp
              have z3 : w3.cell? ⟨wr.heap.size, 3, none⟩ = some (.int .i64 vn) := by rw [(bcell hb3).1 _ _ (by simp)]; simp
              have hlt3 : wr.heap.size < w3.heap.size := World.block_lt_of_cell? _ _ z0
              have hw3 := Lib.hid (bt (hw.alloc hsz _) hb3)
              clear hb3
              go_wp2_with fail
              refine (refFormatInt_any vn hn _).mono ?_
              rintro e w4 ⟨rfl, hb4⟩
              have hw4 := Lib.hid (bt (hw3.out.alloc (by have := hw3.out.size; omega) _) hb4)
              clear hb4
              go_wp2_with fail
              refine ⟨⟨k + 1, by omega, by go_num, hw4.out, ?_⟩, ?_⟩
              · rw [HT.out, HX.out]; congr 1; apply ByteArray.ext; simp
              · simp [intOf]; omega
            · skip
              have hS1 : ∃ c d : UInt8, sc2 vs = [c, d] ∧ (48 + vs / 10 : Int) = c.toNat ∧ (48 + vs % 10 : Int) = d.toNat := by
                refine ⟨_, _, by unfold sc2 scI; rw [if_neg (by omega)], ?_, ?_⟩ <;> (rw [UInt8.toNat_ofNat']; omega)
              obtain ⟨c, d, hS1, hc, hd⟩ := hS1
              have hcv : ∀ w : World, (convert 61 9 (.slice (some ⟨w.heap.size, 0, none⟩) 2 2)).run Tryz.prog (w.alloc (.cells #[.int .u8 (48 + vs / 10), .int .u8 (48 + vs % 10)] 5)) = .ok (.string ⟨S.toArray⟩) (w.alloc (.cells #[.int .u8 (48 + vs / 10), .int .u8 (48 + vs % 10)] 5)) := fun w => by
                rw [← hS, hS1]; exact conv2 w _ _ c d hc hd
              clear hc hd hS1
              clear hS
              go_wp2_with fail
              refine (refFormatInt_any 3 (by unfold In64; omega) _).mono ?_
              rintro e w3 ⟨rfl, hb3⟩
              have z0 : w3.cell? ⟨wr.heap.size, 0, none⟩ = some (.int .i64 3) := by rw [(bcell hb3).1 _ _ (by simp)]; simp
              have z1 : w3.cell? ⟨wr.heap.size, 1, none⟩ = some (.int .i64 vs) := by rw [(bcell hb3).1 _ _ (by simp)]; simp
              have z2 : w3.cell? ⟨wr.heap.size, 2, none⟩ = some (.bool false) := by rw [(bcell hb3).1 _ _ (by simp)]; simp
              have z3 : w3.cell? ⟨wr.heap.size, 3, none⟩ = some (.int .i64 vn) := by rw [(bcell hb3).1 _ _ (by simp)]; simp
              have hlt3 : wr.heap.size < w3.heap.size := World.block_lt_of_cell? _ _ z0
              have hw3 := Lib.hid (bt (hw.alloc hsz _) hb3)
              clear hb3
              go_wp2_with fail
              refine (refFormatInt_any vn hn _).mono ?_
              rintro e w4 ⟨rfl, hb4⟩
              have hw4 := Lib.hid (bt (hw3.out.alloc (by have := hw3.out.size; omega) _) hb4)
              clear hb4
              go_wp2_with fail
              refine ⟨⟨k + 1, by omega, by go_num, hw4.out, ?_⟩, ?_⟩
              · rw [HT.out, HX.out]; congr 1; apply ByteArray.ext; simp
              · simp [intOf]; omega
        · by_cases hk4 : vk = 4
          · subst hk4
            have HX : Hid (keyV ⟨4, vs, false, vn, vt⟩ = Lib.itoa 4 ++ 118 :: (Lib.itoa vt.size ++ 58 :: vt.data.toList)) := by show _ = _; simp [keyV, headK, bodyK]
            have hts : L.length + vt.size + 30 ≤ 140737488355328 := by have h1 := HL.out; simp only [List.length_append] at h1; have := text_le vs vn vt; omega
            obtain ⟨T, rfl⟩ : ∃ T : List UInt8, vt = ⟨T.toArray⟩ := ⟨vt.data.toList, rfl⟩
            rw [bytes_size] at *
            have hI2 : (Lib.itoa (T.length : Int)).length ≤ 21 := Lib.itoa_length_le _ (by omega) (by omega)
            have hT64 : In64 (T.length : Int) := by unfold In64; omega
            have c2 : (⟨#[118]⟩ : ByteArray) ++ ⟨(Lib.itoa (T.length : Int)).toArray⟩ = ⟨([118] ++ Lib.itoa (T.length : Int)).toArray⟩ := bytes_app [118] _
            have c3 : (⟨([118] ++ Lib.itoa (T.length : Int)).toArray⟩ : ByteArray) ++ ⟨#[58]⟩ = ⟨([118] ++ Lib.itoa (T.length : Int) ++ [58]).toArray⟩ := bytes_app _ [58]
            have c4 : (⟨([118] ++ Lib.itoa (T.length : Int) ++ [58]).toArray⟩ : ByteArray) ++ ⟨T.toArray⟩ = ⟨([118] ++ Lib.itoa (T.length : Int) ++ [58] ++ T).toArray⟩ := bytes_app _ _
            have c5 : (⟨(L ++ Lib.itoa 4).toArray⟩ : ByteArray) ++ ⟨([118] ++ Lib.itoa (T.length : Int) ++ [58] ++ T).toArray⟩ = ⟨(L ++ Lib.itoa 4 ++ ([118] ++ Lib.itoa (T.length : Int) ++ [58] ++ T)).toArray⟩ := bytes_app _ _
            have q2 : L.length + 30 + (Lib.itoa 4).length + (Lib.itoa (T.length : Int)).length + T.length ≤ 9223372036854775807 := by omega
            go_wp2_with fail
            refine (refFormatInt_any 4 hk _).mono ?_
            rintro e w3 ⟨rfl, hb3⟩
            have z0 : w3.cell? ⟨wr.heap.size, 0, none⟩ = some (.int .i64 4) := by rw [(bcell hb3).1 _ _ (by simp)]; simp
            have z2 : w3.cell? ⟨wr.heap.size, 2, none⟩ = some (.bool false) := by rw [(bcell hb3).1 _ _ (by simp)]; simp
            have z4 : w3.cell? ⟨wr.heap.size, 4, none⟩ = some (.string ⟨T.toArray⟩) := by rw [(bcell hb3).1 _ _ (by simp)]; simp
            have hw3 := Lib.hid (bt (hw.alloc hsz _) hb3)
            clear hb3
            go_wp2_with fail
            have p5 : ¬9223372036854775807 < 1 + (Lib.itoa (T.length : Int)).length := by omega
            have p6 : ¬9223372036854775807 < (Lib.itoa (T.length : Int)).length + 1 + 1 := by omega
            have p9 : ¬9223372036854775807 < (Lib.itoa (T.length : Int)).length + 1 + 1 + T.length := by omega
            have p10 : ¬9223372036854775807 < L.length + (Lib.itoa 4).length + ((Lib.itoa (T.length : Int)).length + 1 + 1 + T.length) := by omega
            have hB3 := hw3.out
            have hs3 : wr.heap.size < w3.heap.size := World.block_lt_of_cell? _ _ z0
            go_region_held3 (fun w' => w'.cell? ⟨wr.heap.size, 4, none⟩ = some (.string ⟨T.toArray⟩) ∧ wr.heap.size < w'.heap.size ∧ Below w.heap.size w w')
              (((try go_split_ands); refine ⟨?_, ?_, ?_⟩ <;> first | assumption | (with_reducible exact below_drew hB3) | (rw [(bcell hb5).1 _ _ (by omega)]; assumption) | (have := hb5.size; omega) | (with_reducible refine bt ?_ hb5; assumption) | go_keep))
              (first | (go_at_call 39; refine (refFormatInt_any _ hT64 _).mono ?_; rintro e w5 ⟨rfl, hb5⟩))
            rename_i hH
            obtain ⟨-, -, hw5⟩ := hH
            go_wp2
            refine ⟨⟨k + 1, by omega, by go_num, hw5, ?_⟩, ?_⟩
            · rw [HT.out, HX.out]; congr 1; apply ByteArray.ext; simp
            · simp [intOf]; omega
          · have e3 : (vk == 3) = false := by simpa using hk3
            have e4 : (vk == 4) = false := by simpa using hk4
            have HX : Hid (keyV ⟨vk, vs, false, vn, vt⟩ = Lib.itoa vk ++ 118 :: (Lib.itoa vn ++ [59])) := by show _ = _; simp [keyV, headK, bodyK, hk3, hk4]
            have hI2 : (Lib.itoa vn).length ≤ 21 := Lib.itoa_length_le vn hn.1 hn.2
            have c2 : (⟨#[118]⟩ : ByteArray) ++ ⟨(Lib.itoa vn).toArray⟩ = ⟨([118] ++ Lib.itoa vn).toArray⟩ := bytes_app [118] _
            have c3 : (⟨([118] ++ Lib.itoa vn).toArray⟩ : ByteArray) ++ ⟨#[59]⟩ = ⟨([118] ++ Lib.itoa vn ++ [59]).toArray⟩ := bytes_app _ [59]
            have c4 : (⟨(L ++ Lib.itoa vk).toArray⟩ : ByteArray) ++ ⟨([118] ++ Lib.itoa vn ++ [59]).toArray⟩ = ⟨(L ++ Lib.itoa vk ++ ([118] ++ Lib.itoa vn ++ [59])).toArray⟩ := bytes_app _ _
            have q2 : L.length + 30 + (Lib.itoa vk).length + (Lib.itoa vn).length ≤ 9223372036854775807 := by omega
            clear hk3 hk4
            go_wp2_with fail
            refine (refFormatInt_any vk hk _).mono ?_
            rintro e w3 ⟨rfl, hb3⟩
            have z0 : w3.cell? ⟨wr.heap.size, 0, none⟩ = some (.int .i64 vk) := by rw [(bcell hb3).1 _ _ (by simp)]; simp
            have z1 : w3.cell? ⟨wr.heap.size, 1, none⟩ = some (.int .i64 vs) := by rw [(bcell hb3).1 _ _ (by simp)]; simp
            have z2 : w3.cell? ⟨wr.heap.size, 2, none⟩ = some (.bool false) := by rw [(bcell hb3).1 _ _ (by simp)]; simp
            have z3 : w3.cell? ⟨wr.heap.size, 3, none⟩ = some (.int .i64 vn) := by rw [(bcell hb3).1 _ _ (by simp)]; simp
            have hw3 := Lib.hid (bt (hw.alloc hsz _) hb3)
            clear hb3
            go_wp2_with fail
            refine (refFormatInt_any vn hn _).mono ?_
            rintro e w4 ⟨rfl, hb4⟩
            have hw4 := Lib.hid (bt hw3.out hb4)
            clear hb4
            go_wp2_with fail
            refine ⟨⟨k + 1, by omega, by go_num, hw4.out, ?_⟩, ?_⟩
            · rw [HT.out, HX.out]; congr 1; apply ByteArray.ext; simp
            · simp [intOf]; omega
      · by_cases hk3 : vk = 3
        · skip
          subst hk3
          have HX : Hid (keyV ⟨3, vs, true, vn, vt⟩ = Lib.itoa 3 ++ (sc2 vs ++ [110])) := by show _ = _; simp [keyV, headK, bodyK]
          obtain ⟨S, hS⟩ : ∃ S, sc2 vs = S := ⟨_, rfl⟩
          rw [hS] at HX
          have hS2 : S.length = 2 := by rw [← hS]; rfl
          have c2 : (⟨(L ++ Lib.itoa 3).toArray⟩ : ByteArray) ++ ⟨S.toArray⟩ = ⟨(L ++ Lib.itoa 3 ++ S).toArray⟩ := bytes_app _ _
          have q3 : ¬9223372036854775807 < L.length + (Lib.itoa 3).length + S.length := by omega
          have c3 : (⟨(L ++ Lib.itoa 3 ++ S).toArray⟩ : ByteArray) ++ ⟨#[110]⟩ = ⟨(L ++ Lib.itoa 3 ++ S ++ [110]).toArray⟩ := bytes_app _ [110]
          have q4 : ¬9223372036854775807 < L.length + (Lib.itoa 3).length + S.length + 1 := by omega
          by_cases s0 : vs < 0
          · skip
            have hS1 : sc2 vs = [57, 57] := by unfold sc2 scI; rw [if_pos (by omega)]; rfl
            have hcv : ∀ w : World, (convert 61 9 (.slice (some ⟨w.heap.size, 0, none⟩) 2 2)).run Tryz.prog (w.alloc (.cells #[.int .u8 57, .int .u8 57] 5)) = .ok (.string ⟨S.toArray⟩) (w.alloc (.cells #[.int .u8 57, .int .u8 57] 5)) := fun w => by
              rw [← hS, hS1]; exact conv2 w 57 57 57 57 rfl rfl
            clear hS1
            clear hS
            go_wp2_with fail
            refine (refFormatInt_any 3 (by unfold In64; omega) _).mono ?_
            rintro e w3 ⟨rfl, hb3⟩
            have z0 : w3.cell? ⟨wr.heap.size, 0, none⟩ = some (.int .i64 3) := by rw [(bcell hb3).1 _ _ (by simp)]; simp
            have z1 : w3.cell? ⟨wr.heap.size, 1, none⟩ = some (.int .i64 vs) := by rw [(bcell hb3).1 _ _ (by simp)]; simp
            have z2 : w3.cell? ⟨wr.heap.size, 2, none⟩ = some (.bool true) := by rw [(bcell hb3).1 _ _ (by simp)]; simp
            have z3 : w3.cell? ⟨wr.heap.size, 3, none⟩ = some (.int .i64 vn) := by rw [(bcell hb3).1 _ _ (by simp)]; simp
            have hlt3 : wr.heap.size < w3.heap.size := World.block_lt_of_cell? _ _ z0
            have hw3 := Lib.hid (bt (hw.alloc hsz _) hb3)
            clear hb3
            go_wp2_with fail
            refine ⟨⟨k + 1, by omega, by go_num, hw3.out.alloc (by have := hw3.out.size; omega) _, ?_⟩, ?_⟩
            · rw [HT.out, HX.out]; congr 1; apply ByteArray.ext; simp
            · simp [intOf]; omega
          · by_cases s18 : 18 < vs
            · skip
              have hS1 : sc2 vs = [57, 57] := by unfold sc2 scI; rw [if_pos (by omega)]; rfl
              have hcv : ∀ w : World, (convert 61 9 (.slice (some ⟨w.heap.size, 0, none⟩) 2 2)).run Tryz.prog (w.alloc (.cells #[.int .u8 57, .int .u8 57] 5)) = .ok (.string ⟨S.toArray⟩) (w.alloc (.cells #[.int .u8 57, .int .u8 57] 5)) := fun w => by
                rw [← hS, hS1]; exact conv2 w 57 57 57 57 rfl rfl
              clear hS1
              clear hS
              go_wp2_with fail
              refine (refFormatInt_any 3 (by unfold In64; omega) _).mono ?_
              rintro e w3 ⟨rfl, hb3⟩
              have z0 : w3.cell? ⟨wr.heap.size, 0, none⟩ = some (.int .i64 3) := by rw [(bcell hb3).1 _ _ (by simp)]; simp
              have z1 : w3.cell? ⟨wr.heap.size, 1, none⟩ = some (.int .i64 vs) := by rw [(bcell hb3).1 _ _ (by simp)]; simp
              have z2 : w3.cell? ⟨wr.heap.size, 2, none⟩ = some (.bool true) := by rw [(bcell hb3).1 _ _ (by simp)]; simp
              have z3 : w3.cell? ⟨wr.heap.size, 3, none⟩ = some (.int .i64 vn) := by rw [(bcell hb3).1 _ _ (by simp)]; simp
              have hlt3 : wr.heap.size < w3.heap.size := World.block_lt_of_cell? _ _ z0
              have hw3 := Lib.hid (bt (hw.alloc hsz _) hb3)
              clear hb3
              go_wp2_with fail
              refine ⟨⟨k + 1, by omega, by go_num, hw3.out.alloc (by have := hw3.out.size; omega) _, ?_⟩, ?_⟩
              · rw [HT.out, HX.out]; congr 1; apply ByteArray.ext; simp
              · simp [intOf]; omega
            · skip
              have hS1 : ∃ c d : UInt8, sc2 vs = [c, d] ∧ (48 + vs / 10 : Int) = c.toNat ∧ (48 + vs % 10 : Int) = d.toNat := by
                refine ⟨_, _, by unfold sc2 scI; rw [if_neg (by omega)], ?_, ?_⟩ <;> (rw [UInt8.toNat_ofNat']; omega)
              obtain ⟨c, d, hS1, hc, hd⟩ := hS1
              have hcv : ∀ w : World, (convert 61 9 (.slice (some ⟨w.heap.size, 0, none⟩) 2 2)).run Tryz.prog (w.alloc (.cells #[.int .u8 (48 + vs / 10), .int .u8 (48 + vs % 10)] 5)) = .ok (.string ⟨S.toArray⟩) (w.alloc (.cells #[.int .u8 (48 + vs / 10), .int .u8 (48 + vs % 10)] 5)) := fun w => by
                rw [← hS, hS1]; exact conv2 w _ _ c d hc hd
              clear hc hd hS1
              clear hS
              go_wp2_with fail
              refine (refFormatInt_any 3 (by unfold In64; omega) _).mono ?_
              rintro e w3 ⟨rfl, hb3⟩
              have z0 : w3.cell? ⟨wr.heap.size, 0, none⟩ = some (.int .i64 3) := by rw [(bcell hb3).1 _ _ (by simp)]; simp
              have z1 : w3.cell? ⟨wr.heap.size, 1, none⟩ = some (.int .i64 vs) := by rw [(bcell hb3).1 _ _ (by simp)]; simp
              have z2 : w3.cell? ⟨wr.heap.size, 2, none⟩ = some (.bool true) := by rw [(bcell hb3).1 _ _ (by simp)]; simp
              have z3 : w3.cell? ⟨wr.heap.size, 3, none⟩ = some (.int .i64 vn) := by rw [(bcell hb3).1 _ _ (by simp)]; simp
              have hlt3 : wr.heap.size < w3.heap.size := World.block_lt_of_cell? _ _ z0
              have hw3 := Lib.hid (bt (hw.alloc hsz _) hb3)
              clear hb3
              go_wp2_with fail
              refine ⟨⟨k + 1, by omega, by go_num, hw3.out.alloc (by have := hw3.out.size; omega) _, ?_⟩, ?_⟩
              · rw [HT.out, HX.out]; congr 1; apply ByteArray.ext; simp
              · simp [intOf]; omega
        · have e3 : (vk == 3) = false := by simpa using hk3
          have HX : Hid (keyV ⟨vk, vs, true, vn, vt⟩ = Lib.itoa vk ++ [110]) := by show _ = _; simp [keyV, headK, bodyK, hk3]
          have c2 : (⟨(L ++ Lib.itoa vk).toArray⟩ : ByteArray) ++ ⟨#[110]⟩ = ⟨(L ++ Lib.itoa vk ++ [110]).toArray⟩ := bytes_app _ [110]
          clear hk3
          go_wp2_with fail
          refine (refFormatInt_any vk hk _).mono ?_
          rintro e w3 ⟨rfl, hb3⟩
          have z0 : w3.cell? ⟨wr.heap.size, 0, none⟩ = some (.int .i64 vk) := by rw [(bcell hb3).1 _ _ (by simp)]; simp
          have z1 : w3.cell? ⟨wr.heap.size, 1, none⟩ = some (.int .i64 vs) := by rw [(bcell hb3).1 _ _ (by simp)]; simp
          have z2 : w3.cell? ⟨wr.heap.size, 2, none⟩ = some (.bool true) := by rw [(bcell hb3).1 _ _ (by simp)]; simp
          have hw3 := Lib.hid (bt (hw.alloc hsz _) hb3)
          clear hb3
          go_wp2_with fail
          refine ⟨⟨k + 1, by omega, by go_num, hw3.out, ?_⟩, ?_⟩
          · rw [HT.out, HX.out]
          · simp [intOf]; omega
    · have hxI : ¬ (k : Int) < (xs.length : Int) := by omega
      have hkx : k = xs.length := by omega
      subst hkx
      rw [List.take_length]
      go_wp2
      go_ret
      exact ⟨rfl, hw⟩
end Go.Proofs.YtogdkhnakenbcaaGreatDoor
