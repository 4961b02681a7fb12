/-
  spec.RoomApply: a room in which something happened.
-/
import Derived.Test.YtgjlgddglgffmaaGreatDoorAppV
namespace Go.Proofs.YtgjlgddglgffmaaGreatDoor.Hub
open Go.RowKit
set_option linter.unusedVariables false

/-- What RoomApply answers: of a room that is not ok nothing; where the entry cannot be the room, and false; else the room behind it, and true. -/
def Applied (w w' : World) (e : Ending) (nm : ByteArray) (nx : Int) (sb : ByteArray) (n : Nat) (U N : Nat → ByteArray) (R : Nat → Int) (z : Nat) (KU : Nat → ByteArray) (KR : Nat → Int) (r : ByteArray) (q kd : Int) (u nk t i fr : ByteArray) (m : Int) : Prop :=
  ∃ v b, e = .returned (.tuple #[v, .bool b]) ∧
    ((roomT nm nx sb n U N R z KU KR = false ∧ b = false ∧ v = roomV ⟨#[]⟩ 0 (.slice none 0 0) (.slice none 0 0) ⟨#[]⟩) ∨
     (roomT nm nx sb n U N R z KU KR = true ∧ canT nm nx sb n U N R z KU KR r q kd u nk t i fr m = false ∧ b = false ∧ NewRoom w w' v nm nx sb n U N R z KU KR) ∨
     (roomT nm nx sb n U N R z KU KR = true ∧ canT nm nx sb n U N R z KU KR r q kd u nk t i fr m = true ∧ b = true ∧ NewRoom w w' v nm (q + 1) (aftS kd sb t) (aftN kd n) (aftU kd n (ofN n U u) u U) (aftU kd n (ofN n U u) nk N) (aftR kd n (ofN n U u) m R) (aftZ kd z (lessTo KU u z) (foundT z KU u) m) (aftKU kd (lessTo KU u z) (foundT z KU u) u m KU) (aftKR kd (lessTo KU u z) (foundT z KU u) m KR)))
theorem room_small {nm : ByteArray} {nx : Int} {sb : ByteArray} {n : Nat} {U N : Nat → ByteArray} {R : Nat → Int} {z : Nat} {KU : Nat → ByteArray} {KR : Nat → Int} (h : roomT nm nx sb n U N R z KU KR = true) : n ≤ 5 ∧ z ≤ 6 ∧ Asc z KU ∧ 0 ≤ nx ∧ nx ≤ 9999 := by
  unfold roomT at h
  rw [Bool.and_eq_true, Bool.and_eq_true, Bool.and_eq_true, Bool.and_eq_true, Bool.and_eq_true] at h
  obtain ⟨-, h1, -, h2, h3, -⟩ := h
  have hA := asc_of z KU KR h3
  unfold memsT at h2
  unfold ranksT at h3
  unfold inI at h1
  rw [Bool.and_eq_true, decide_eq_true_eq] at h2 h3
  rw [Bool.and_eq_true, decide_eq_true_eq, decide_eq_true_eq] at h1
  exact ⟨h2.2, h3.2, hA, h1⟩
theorem NewRoom.of {w w0 w' : World} {v : Value} {nm sb : ByteArray} {nx : Int} {n : Nat} {U N : Nat → ByteArray} {R : Nat → Int} {z : Nat} {KU : Nat → ByteArray} {KR : Nat → Int} (h : NewRoom w0 w' v nm nx sb n U N R z KU KR) (hw : w.heap.size ≤ w0.heap.size) : NewRoom w w' v nm nx sb n U N R z KU KR := by
  obtain ⟨vm, vk, e, a, b, c⟩ := h
  exact ⟨vm, vk, e, OwnL.mono a hw, OwnL.mono b hw, c⟩

set_option maxRecDepth 100000 in
set_option maxHeartbeats 8000000 in
theorem specApply_any (nm sb : ByteArray) (nx : Int) (vm vk : Value) (n : Nat) (U N : Nat → ByteArray) (R : Nat → Int) (z : Nat) (KU : Nat → ByteArray) (KR : Nat → Int) (r : ByteArray) (q kd : Int) (u nk t i fr : ByteArray) (m : Int) (w : World) (hm : MemAt w vm n U N R) (hk : RankAt w vk z KU KR)
    (hnm : nm.size ≤ 1048600) (hsb : sb.size ≤ 1048600) (hs : ∀ j, j < n → (U j).size ≤ 1048600 ∧ (N j).size ≤ 1048600) (hzs : ∀ j, j < z → (KU j).size ≤ 1048600) (hr : r.size ≤ 1048600) (hu : u.size ≤ 1048600) (hnk : nk.size ≤ 1048600) (ht : t.size ≤ 1048600) (hi : i.size ≤ 1048600) (hfr : fr.size ≤ 1048600) :
    Calls Tryz.prog 6 #[roomV nm nx vm vk sb, entV r q kd u nk t i fr m] w fun e w' => Applied w w' e nm nx sb n U N R z KU KR r q kd u nk t i fr m ∧ Below w.heap.size w w' := by
  have cO := fun (W : World) (bb : Below w.heap.size w W) => l6Ok_any nm sb nx vm vk n U N R z KU KR W (hm.below bb) (hk.below bb) (by omega) (by omega) (fun j hj => by have := hs j hj; omega) (fun j hj => by have := hzs j hj; omega)
  have cC := fun (g : roomT nm nx sb n U N R z KU KR = true) (W : World) (bb : Below w.heap.size w W) => l6Can_any nm sb nx vm vk n U N R z KU KR r q kd u nk t i fr m W (hm.below bb) (hk.below bb) (by have := room_small g; omega) (by have := room_small g; omega) (room_small g).2.2.1 hnm hsb hs hzs hr hu hnk ht hi hfr
  have cY := fun (g : roomT nm nx sb n U N R z KU KR = true) (W : World) (bb : Below w.heap.size w W) => l6Copy_any nm sb nx vm vk n U N R z KU KR W (hm.below bb) (hk.below bb) (by have := room_small g; omega) (by have := room_small g; omega)
  have cA : roomT nm nx sb n U N R z KU KR = true → canT nm nx sb n U N R z KU KR r q kd u nk t i fr m = true → ∀ W, Below w.heap.size w W → Calls Tryz.prog 18 #[roomV nm nx vm vk sb, entV r q kd u nk t i fr m] W fun e w' => (∃ v, e = .returned v ∧ NewRoom W w' v nm (q + 1) (aftS kd sb t) (aftN kd n) (aftU kd n (ofN n U u) u U) (aftU kd n (ofN n U u) nk N) (aftR kd n (ofN n U u) m R) (aftZ kd z (lessTo KU u z) (foundT z KU u) m) (aftKU kd (lessTo KU u z) (foundT z KU u) u m KU) (aftKR kd (lessTo KU u z) (foundT z KU u) m KR)) ∧ Below W.heap.size W w' := fun g g2 W bb => by
    obtain ⟨h5, h6, hA, -⟩ := room_small g
    unfold canT nextT at g2
    rw [Bool.and_eq_true, Bool.and_eq_true, Bool.and_eq_true, Bool.and_eq_true] at g2
    obtain ⟨⟨g3, -, -, g4⟩, -⟩ := g2
    obtain ⟨hp, h1, h2, h3, h4⟩ := asc_place KU u z hA
    refine l6Apply_any nm sb nx vm vk n U N R z KU KR r q kd u nk t i fr m W (hm.below bb) (hk.below bb) (by omega) (by omega) (ent_kind g3).2 (ofN n U u) (lessTo KU u z) (foundT z KU u) (ent_kind g3).1 (fun hkd => ?_) hp h1 h2 h3 h4
    have h7 : (decide (kd = 6) || decide (kd = 1)) = false := by rcases hkd with rfl | rfl <;> decide
    rw [h7, Bool.false_or] at g4
    exact ofN_is g4
  have hm' := hm
  have hk' := hk
  obtain ⟨mo, mc, rfl, -⟩ := hm'
  obtain ⟨ko, kc, rfl, -⟩ := hk'
  obtain ⟨W3, hW3⟩ : ∃ W3, W3 = (((w.alloc (.cells #[.string nm, .int .i64 nx, .slice mo n mc, .slice ko z kc, .string sb] 33)).alloc (.cells #[.string r, .int .i64 q, .int .i64 kd, .string u, .string nk, .string t, .string i, .string fr, .int .i64 m] 37)).alloc (.cells #[.string ⟨#[]⟩, .int .i64 0, .slice none 0 0, .slice none 0 0, .string ⟨#[]⟩] 33)) := ⟨_, rfl⟩
  have b3 : Below w.heap.size w W3 := by rw [hW3]; exact (((Below.refl _ w).alloc (Nat.le_refl _) _).alloc (by simp) _).alloc (by simp <;> omega) _
  have s3 : W3.heap.size = w.heap.size + 3 := by rw [hW3]; simp
  have hA : W3.heap[w.heap.size]? = some (.cells #[.string nm, .int .i64 nx, .slice mo n mc, .slice ko z kc, .string sb] 33 (0, 0)) := by
    rw [hW3, Below.heap_alloc _ _ _ (by simp <;> omega), Below.heap_alloc _ _ _ (by simp)]
    exact World.alloc_heap_new w _
  have hE : W3.heap[w.heap.size + 1]? = some (.cells #[.string r, .int .i64 q, .int .i64 kd, .string u, .string nk, .string t, .string i, .string fr, .int .i64 m] 37 (0, 0)) := by
    rw [hW3, Below.heap_alloc _ _ _ (by simp)]
    have := World.alloc_heap_new (w.alloc (.cells #[.string nm, .int .i64 nx, .slice mo n mc, .slice ko z kc, .string sb] 33)) (.cells #[.string r, .int .i64 q, .int .i64 kd, .string u, .string nk, .string t, .string i, .string fr, .int .i64 m] 37)
    simpa using this
  have hZ : W3.heap[w.heap.size + 1 + 1]? = some (.cells #[.string ⟨#[]⟩, .int .i64 0, .slice none 0 0, .slice none 0 0, .string ⟨#[]⟩] 33 (0, 0)) := by
    rw [hW3]
    have := World.alloc_heap_new ((w.alloc (.cells #[.string nm, .int .i64 nx, .slice mo n mc, .slice ko z kc, .string sb] 33)).alloc (.cells #[.string r, .int .i64 q, .int .i64 kd, .string u, .string nk, .string t, .string i, .string fr, .int .i64 m] 37)) (.cells #[.string ⟨#[]⟩, .int .i64 0, .slice none 0 0, .slice none 0 0, .string ⟨#[]⟩] 33)
    simpa using this
  have BA : Hid (∀ W, Below W3.heap.size W3 W → W.heap[w.heap.size]? = some (.cells #[.string nm, .int .i64 nx, .slice mo n mc, .slice ko z kc, .string sb] 33 (0, 0))) := fun W bb => (bb.block _ (by omega)).trans hA
  have BE : Hid (∀ W, Below W3.heap.size W3 W → W.heap[w.heap.size + 1]? = some (.cells #[.string r, .int .i64 q, .int .i64 kd, .string u, .string nk, .string t, .string i, .string fr, .int .i64 m] 37 (0, 0))) := fun W bb => (bb.block _ (by omega)).trans hE
  have BZ : Hid (∀ W, Below W3.heap.size W3 W → W.heap[w.heap.size + 1 + 1]? = some (.cells #[.string ⟨#[]⟩, .int .i64 0, .slice none 0 0, .slice none 0 0, .string ⟨#[]⟩] 33 (0, 0))) := fun W bb => (bb.block _ (by omega)).trans hZ
  have cO3 := cO W3 b3
  have HW3 : Hid (W3 = (((w.alloc (.cells #[.string nm, .int .i64 nx, .slice mo n mc, .slice ko z kc, .string sb] 33)).alloc (.cells #[.string r, .int .i64 q, .int .i64 kd, .string u, .string nk, .string t, .string i, .string fr, .int .i64 m] 37)).alloc (.cells #[.string ⟨#[]⟩, .int .i64 0, .slice none 0 0, .slice none 0 0, .string ⟨#[]⟩] 33))) := hW3
  clear hW3 hA hE hZ cO
  unfold Applied
  obtain ⟨T, hT⟩ : ∃ T, roomT nm nx sb n U N R z KU KR = T := ⟨_, rfl⟩
  obtain ⟨C, hC⟩ : ∃ C, canT nm nx sb n U N R z KU KR r q kd u nk t i fr m = C := ⟨_, rfl⟩
  rw [hT, hC] at cA ⊢
  rw [hT] at cO3 cC cY
  rw [hC] at cC
  obtain ⟨SB, hSB⟩ : ∃ SB, aftS kd sb t = SB := ⟨_, rfl⟩
  obtain ⟨N2, hN2⟩ : ∃ N2, aftN kd n = N2 := ⟨_, rfl⟩
  obtain ⟨Z2, hZ2⟩ : ∃ Z2, aftZ kd z (lessTo KU u z) (foundT z KU u) m = Z2 := ⟨_, rfl⟩
  rw [hSB, hN2, hZ2] at cA ⊢
  have hq : T = true → C = true → True := fun _ _ => trivial
  clear hT hC hm hk hs hzs hSB hN2 hZ2
  cases T
  · clear cC cY cA
    go_enter Tryz.func6, Tryz.ntmps6
    go_wp2_with (go_at_call 15; rw [← HW3.out]; go_fit cO3; rintro e w4 ⟨rfl, b4⟩; have B4 := b3.trans (b4.mono b3.size); obtain ⟨a0, a1, a2, a3, a4⟩ := rm_cells (BA.out w4 b4); obtain ⟨n0, n1, n2, n3, n4, n5, n6, n7, n8⟩ := nine_at (BE.out w4 b4); obtain ⟨z0, z1, z2, z3, z4⟩ := rm_cells (BZ.out w4 b4); have zf : ∀ j, w4.frozen? ⟨w.heap.size + 1 + 1, j, none⟩ = false := (fun j => (by simp [World.frozen?, BZ.out w4 b4])))
    have N9 := rm_cells (roomW_heap (BZ.out w4 b4) ⟨#[]⟩ (0) (.slice none 0 0) (.slice none 0 0) ⟨#[]⟩)
    have b9 := roomW_below B4 (show w.heap.size ≤ w.heap.size + 1 + 1 by omega) ⟨#[]⟩ (0) (.slice none 0 0) (.slice none 0 0) ⟨#[]⟩
    obtain ⟨W9, hW9⟩ : ∃ W9, roomW w4 (w.heap.size + 1 + 1) ⟨#[]⟩ (0) (.slice none 0 0) (.slice none 0 0) ⟨#[]⟩ = W9 := ⟨_, rfl⟩
    rw [hW9] at N9 b9
    unfold roomW at hW9
    rw [hW9]
    obtain ⟨g0, g1, g2, g3, g4⟩ := N9
    exact bodyPost_ret (v := .tuple #[roomV ⟨#[]⟩ (0) (.slice none 0 0) (.slice none 0 0) ⟨#[]⟩, .bool false]) (by simp [results, Tryz.results6, go_sem, g0, g1, g2, g3, g4]) rfl ⟨⟨_, _, rfl, .inl ⟨by first | trivial | rfl, rfl, rfl⟩⟩, b9⟩
  · have cC2 := cC rfl
    have cY2 := cY rfl
    have cA2 := cA rfl
    clear cC cY cA hq
    cases C
    · clear cA2
      go_enter Tryz.func6, Tryz.ntmps6
      go_wp2_with first
        | (go_at_call 17; refine (cY2 w5 B5).mono ?_; rintro e w6 ⟨⟨v6, rfl, vm6, vk6, rfl, OM6, OK6, AP6⟩, b6⟩; have c6 := c5.trans (b6.mono c5.size); have B6 := b3.trans (c6.mono b3.size); obtain ⟨o6, k6, rfl⟩ := OwnL.shape OM6; obtain ⟨o7, k7, rfl⟩ := OwnL.shape OK6; obtain ⟨a0, a1, a2, a3, a4⟩ := rm_cells (BA.out w6 c6); obtain ⟨n0, n1, n2, n3, n4, n5, n6, n7, n8⟩ := nine_at (BE.out w6 c6); obtain ⟨z0, z1, z2, z3, z4⟩ := rm_cells (BZ.out w6 c6); have zf : ∀ j, w6.frozen? ⟨w.heap.size + 1 + 1, j, none⟩ = false := (fun j => (by simp [World.frozen?, BZ.out w6 c6])))
        | (go_at_call 16; refine (cC2 w4 B4).mono ?_; rintro e w5 ⟨rfl, b5⟩; have c5 := b4.trans (b5.mono b4.size); have B5 := b3.trans (c5.mono b3.size); obtain ⟨a0, a1, a2, a3, a4⟩ := rm_cells (BA.out w5 c5); obtain ⟨n0, n1, n2, n3, n4, n5, n6, n7, n8⟩ := nine_at (BE.out w5 c5); obtain ⟨z0, z1, z2, z3, z4⟩ := rm_cells (BZ.out w5 c5); have zf : ∀ j, w5.frozen? ⟨w.heap.size + 1 + 1, j, none⟩ = false := (fun j => (by simp [World.frozen?, BZ.out w5 c5])))
        | (go_at_call 15; rw [← HW3.out]; go_fit cO3; rintro e w4 ⟨rfl, b4⟩; have B4 := b3.trans (b4.mono b3.size); obtain ⟨a0, a1, a2, a3, a4⟩ := rm_cells (BA.out w4 b4); obtain ⟨n0, n1, n2, n3, n4, n5, n6, n7, n8⟩ := nine_at (BE.out w4 b4); obtain ⟨z0, z1, z2, z3, z4⟩ := rm_cells (BZ.out w4 b4); have zf : ∀ j, w4.frozen? ⟨w.heap.size + 1 + 1, j, none⟩ = false := (fun j => (by simp [World.frozen?, BZ.out w4 b4])))
      have N9 := rm_cells (roomW_heap (BZ.out w6 c6) nm (nx) (.slice o6 n k6) (.slice o7 z k7) sb)
      have b9 := roomW_below B6 (show w.heap.size ≤ w.heap.size + 1 + 1 by omega) nm (nx) (.slice o6 n k6) (.slice o7 z k7) sb
      have S5 := b4.size
      have S6 := b5.size
      have M9 := OwnL.roomW OM6 (show w.heap.size + 1 + 1 < w5.heap.size by omega) nm (nx) (.slice o6 n k6) (.slice o7 z k7) sb
      have K9 := OwnL.roomW OK6 (show w.heap.size + 1 + 1 < w5.heap.size by omega) nm (nx) (.slice o6 n k6) (.slice o7 z k7) sb
      obtain ⟨W9, hW9⟩ : ∃ W9, roomW w6 (w.heap.size + 1 + 1) nm (nx) (.slice o6 n k6) (.slice o7 z k7) sb = W9 := ⟨_, rfl⟩
      rw [hW9] at N9 b9 M9 K9
      unfold roomW at hW9
      rw [hW9]
      obtain ⟨g0, g1, g2, g3, g4⟩ := N9
      exact bodyPost_ret (v := .tuple #[roomV nm (nx) (.slice o6 n k6) (.slice o7 z k7) sb, .bool false]) (by simp [results, Tryz.results6, go_sem, g0, g1, g2, g3, g4]) rfl ⟨⟨_, _, rfl, .inr (.inl ⟨by first | trivial | rfl, by first | trivial | rfl, rfl, _, _, rfl, OwnL.mono M9 (by omega), OwnL.mono K9 (by omega), AP6⟩)⟩, b9⟩
    · have cA3 := cA2 rfl
      clear cA2 cY2
      go_enter Tryz.func6, Tryz.ntmps6
      go_wp2_with first
        | (go_at_call 18; refine (cA3 w5 B5).mono ?_; rintro e w6 ⟨⟨v6, rfl, vm6, vk6, rfl, OM6, OK6, AP6⟩, b6⟩; have c6 := c5.trans (b6.mono c5.size); have B6 := b3.trans (c6.mono b3.size); obtain ⟨o6, k6, rfl⟩ := OwnL.shape OM6; obtain ⟨o7, k7, rfl⟩ := OwnL.shape OK6; obtain ⟨a0, a1, a2, a3, a4⟩ := rm_cells (BA.out w6 c6); obtain ⟨n0, n1, n2, n3, n4, n5, n6, n7, n8⟩ := nine_at (BE.out w6 c6); obtain ⟨z0, z1, z2, z3, z4⟩ := rm_cells (BZ.out w6 c6); have zf : ∀ j, w6.frozen? ⟨w.heap.size + 1 + 1, j, none⟩ = false := (fun j => (by simp [World.frozen?, BZ.out w6 c6])))
        | (go_at_call 16; refine (cC2 w4 B4).mono ?_; rintro e w5 ⟨rfl, b5⟩; have c5 := b4.trans (b5.mono b4.size); have B5 := b3.trans (c5.mono b3.size); obtain ⟨a0, a1, a2, a3, a4⟩ := rm_cells (BA.out w5 c5); obtain ⟨n0, n1, n2, n3, n4, n5, n6, n7, n8⟩ := nine_at (BE.out w5 c5); obtain ⟨z0, z1, z2, z3, z4⟩ := rm_cells (BZ.out w5 c5); have zf : ∀ j, w5.frozen? ⟨w.heap.size + 1 + 1, j, none⟩ = false := (fun j => (by simp [World.frozen?, BZ.out w5 c5])))
        | (go_at_call 15; rw [← HW3.out]; go_fit cO3; rintro e w4 ⟨rfl, b4⟩; have B4 := b3.trans (b4.mono b3.size); obtain ⟨a0, a1, a2, a3, a4⟩ := rm_cells (BA.out w4 b4); obtain ⟨n0, n1, n2, n3, n4, n5, n6, n7, n8⟩ := nine_at (BE.out w4 b4); obtain ⟨z0, z1, z2, z3, z4⟩ := rm_cells (BZ.out w4 b4); have zf : ∀ j, w4.frozen? ⟨w.heap.size + 1 + 1, j, none⟩ = false := (fun j => (by simp [World.frozen?, BZ.out w4 b4])))
      have N9 := rm_cells (roomW_heap (BZ.out w6 c6) nm (q + 1) (.slice o6 N2 k6) (.slice o7 Z2 k7) SB)
      have b9 := roomW_below B6 (show w.heap.size ≤ w.heap.size + 1 + 1 by omega) nm (q + 1) (.slice o6 N2 k6) (.slice o7 Z2 k7) SB
      have S5 := b4.size
      have S6 := b5.size
      have M9 := OwnL.roomW OM6 (show w.heap.size + 1 + 1 < w5.heap.size by omega) nm (q + 1) (.slice o6 N2 k6) (.slice o7 Z2 k7) SB
      have K9 := OwnL.roomW OK6 (show w.heap.size + 1 + 1 < w5.heap.size by omega) nm (q + 1) (.slice o6 N2 k6) (.slice o7 Z2 k7) SB
      obtain ⟨W9, hW9⟩ : ∃ W9, roomW w6 (w.heap.size + 1 + 1) nm (q + 1) (.slice o6 N2 k6) (.slice o7 Z2 k7) SB = W9 := ⟨_, rfl⟩
      rw [hW9] at N9 b9 M9 K9
      unfold roomW at hW9
      rw [hW9]
      obtain ⟨g0, g1, g2, g3, g4⟩ := N9
      exact bodyPost_ret (v := .tuple #[roomV nm (q + 1) (.slice o6 N2 k6) (.slice o7 Z2 k7) SB, .bool true]) (by simp [results, Tryz.results6, go_sem, g0, g1, g2, g3, g4]) rfl ⟨⟨_, _, rfl, .inr (.inr ⟨by first | trivial | rfl, by first | trivial | rfl, rfl, _, _, rfl, OwnL.mono M9 (by omega), OwnL.mono K9 (by omega), AP6⟩)⟩, b9⟩
end Go.Proofs.YtgjlgddglgffmaaGreatDoor.Hub
