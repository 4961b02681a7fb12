/-
  spec.l6Can and spec.RoomApply: what can be the next entry of a room, and the room behind it.
-/
import Derived.Test.YtgjlgddglgffmaaGreatDoorAppU
namespace Go.Proofs.YtgjlgddglgffmaaGreatDoor.Hub
open Go.RowKit
set_option linter.unusedVariables false

/-- Where a user stands among members, as a number (0 if nowhere). -/
def ofN (n : Nat) (U : Nat → ByteArray) (u : ByteArray) : Nat := (firstI n (fun j => (U j).toList == u.toList)).toNat
/-- An entry is one that could come next, be the room behind it ok or not. -/
def nextT (nm : ByteArray) (nx : Int) (n : Nat) (U N : Nat → ByteArray) (r : ByteArray) (q kd : Int) (u nk t i fr : ByteArray) (m : Int) : Bool :=
  entT r q kd u nk t i fr m && ((r.toList == nm.toList) && (decide (q = nx) && ((decide (kd = 6) || decide (kd = 1)) || isT n U N u nk)))
/-- The room behind it is ok. -/
def behT (nm : ByteArray) (sb : ByteArray) (n : Nat) (U N : Nat → ByteArray) (R : Nat → Int) (z : Nat) (KU : Nat → ByteArray) (KR : Nat → Int) (q kd : Int) (u nk t : ByteArray) (m : Int) : Bool :=
  roomT nm (q + 1) (aftS kd sb t) (aftN kd n) (aftU kd n (ofN n U u) u U) (aftU kd n (ofN n U u) nk N) (aftR kd n (ofN n U u) m R) (aftZ kd z (lessTo KU u z) (foundT z KU u) m) (aftKU kd (lessTo KU u z) (foundT z KU u) u m KU) (aftKR kd (lessTo KU u z) (foundT z KU u) m KR)
def canT (nm : ByteArray) (nx : Int) (sb : ByteArray) (n : Nat) (U N : Nat → ByteArray) (R : Nat → Int) (z : Nat) (KU : Nat → ByteArray) (KR : Nat → Int) (r : ByteArray) (q kd : Int) (u nk t i fr : ByteArray) (m : Int) : Bool :=
  nextT nm nx n U N r q kd u nk t i fr m && behT nm sb n U N R z KU KR q kd u nk t m
theorem ent_kind {r u nk t i fr : ByteArray} {q kd m : Int} (h : entT r q kd u nk t i fr m = true) : (kd = 1 ∨ kd = 2 ∨ kd = 3 ∨ kd = 4 ∨ kd = 5 ∨ kd = 6) ∧ 0 ≤ q ∧ q ≤ 9998 := by
  unfold entT at h
  rw [Bool.and_eq_true, Bool.and_eq_true, Bool.and_eq_true] at h
  obtain ⟨-, -, h1, h2⟩ := h
  refine ⟨?_, ?_⟩
  · rcases kinds kd with h | h | h | h | h | h | h
    · exact .inl h
    · exact .inr (.inl h)
    · exact .inr (.inr (.inl h))
    · exact .inr (.inr (.inr (.inl h)))
    · exact .inr (.inr (.inr (.inr (.inl h))))
    · exact .inr (.inr (.inr (.inr (.inr h))))
    · rw [bareT_no kd h] at h2; cases h2
  · unfold inI at h1
    rw [Bool.and_eq_true, decide_eq_true_eq, decide_eq_true_eq] at h1
    exact h1
theorem ofN_is {n : Nat} {U N : Nat → ByteArray} {u nk : ByteArray} (h : isT n U N u nk = true) : ofN n U u < n ∧ firstI n (fun j => (U j).toList == u.toList) = ((ofN n U u : Nat) : Int) := by
  unfold isT at h
  unfold ofN
  rw [Bool.and_eq_true] at h
  rcases first_cases n (fun j => (U j).toList == u.toList) with h1 | ⟨k, hk, h1⟩
  · rw [h1] at h
    exact absurd (of_decide_eq_true h.1) (by omega)
  · rw [h1]
    simp [hk]
theorem aft_sizes {B : Nat} {kd : Int} {n k : Nat} {x : ByteArray} {U : Nat → ByteArray} (hU : ∀ j, j < n → (U j).size ≤ B) (hx : x.size ≤ B) : ∀ j, j < aftN kd n → (aftU kd n k x U j).size ≤ B := fun j hj => by
  unfold aftN at hj
  unfold aftU
  split at hj
  · rw [if_pos ‹_›]
    unfold putAt
    split
    · exact hx
    · exact hU j (by omega)
  · split at hj
    · rw [if_neg ‹_›, if_pos ‹_›]
      unfold cutAt
      split
      · exact hU j (by omega)
      · exact hU (j + 1) (by omega)
    · rw [if_neg ‹_›, if_neg ‹_›]
      exact hU j hj
theorem aftK_sizes {B : Nat} {kd : Int} {z p : Nat} {f : Bool} {m : Int} {u : ByteArray} {KU : Nat → ByteArray} (hp : p ≤ z) (hU : ∀ j, j < z → (KU j).size ≤ B) (hx : u.size ≤ B) : ∀ j, j < aftZ kd z p f m → (aftKU kd p f u m KU j).size ≤ B := fun j hj => by
  unfold aftZ at hj
  unfold aftKU
  split at hj
  · rw [if_pos ‹_›]
    unfold rankN at hj
    unfold rankU
    generalize decide (m = 1) = d at *
    cases d <;> cases f <;> simp only [↓reduceIte, Bool.false_eq_true] at hj ⊢
    · unfold insAt
      split
      · exact hU j (by omega)
      · split
        · exact hx
        · exact hU (j - 1) (by omega)
    · exact hU j hj
    · exact hU j hj
    · unfold cutAt
      split
      · exact hU j (by omega)
      · exact hU (j + 1) (by omega)
  · rw [if_neg ‹_›]
    exact hU j hj

set_option maxRecDepth 100000 in
set_option maxHeartbeats 8000000 in
theorem l6Can_any (nm sb : ByteArray) (nx : Int) (vm vk : Value) (n : Nat) (U N : Nat → ByteArray) (R : Nat → Int) (z : Nat) (KU : Nat → ByteArray) (KR : Nat → Int) (r : ByteArray) (q kd : Int) (u nk t i fr : ByteArray) (m : Int) (w : World) (hm : MemAt w vm n U N R) (hk : RankAt w vk z KU KR) (hn : n ≤ 1048500) (hz : z ≤ 1048500) (hA : Asc z KU)
    (hnm : nm.size ≤ 1048600) (hsb : sb.size ≤ 1048600) (hs : ∀ j, j < n → (U j).size ≤ 1048600 ∧ (N j).size ≤ 1048600) (hzs : ∀ j, j < z → (KU j).size ≤ 1048600) (hr : r.size ≤ 1048600) (hu : u.size ≤ 1048600) (hnk : nk.size ≤ 1048600) (ht : t.size ≤ 1048600) (hi : i.size ≤ 1048600) (hfr : fr.size ≤ 1048600) :
    Calls Tryz.prog 16 #[roomV nm nx vm vk sb, entV r q kd u nk t i fr m] w fun e w' => e = .returned (.bool (canT nm nx sb n U N R z KU KR r q kd u nk t i fr m)) ∧ Below w.heap.size w w' := by
  have cE := fun (W : World) => l6EntryOk_any r q kd u nk t i fr m W (by omega) (by omega) (by omega) (by omega) (by omega) (by omega)
  have cI := fun (W : World) (bb : Below w.heap.size w W) => l6Is_any nm sb nx vm vk n U N R r q kd u nk t i fr m W (hm.below bb)
  obtain ⟨hp, h1, h2, h3, h4⟩ := asc_place KU u z hA
  have cA := fun (W : World) (bb : Below w.heap.size w W) (g : entT r q kd u nk t i fr m = true) (g2 : kd = 2 ∨ kd = 5 → isT n U N u nk = true) => l6Apply_any nm sb nx vm vk n U N R z KU KR r q kd u nk t i fr m W (hm.below bb) (hk.below bb) hn hz (ent_kind g).2 (ofN n U u) (lessTo KU u z) (foundT z KU u) (ent_kind g).1 (fun g3 => ofN_is (g2 g3)) hp h1 h2 h3 h4
  have hm' := hm
  have hk' := hk
  obtain ⟨mo, mc, rfl, -⟩ := hm'
  obtain ⟨ko, kc, rfl, -⟩ := hk'
  obtain ⟨W2, hW2⟩ : ∃ W2, W2 = (w.alloc (.cells #[.string nm, .int .i64 nx, .slice mo n mc, .slice ko z kc, .string sb] 33)).alloc (.cells #[.string r, .int .i64 q, .int .i64 kd, .string u, .string nk, .string t, .string i, .string fr, .int .i64 m] 37) := ⟨_, rfl⟩
  have b2 : Below w.heap.size w W2 := by rw [hW2]; exact ((Below.refl _ w).alloc (Nat.le_refl _) _).alloc (by simp) _
  have s2 : W2.heap.size = w.heap.size + 2 := by rw [hW2]; simp
  have eA : W2.heap[w.heap.size]? = some (.cells #[.string nm, .int .i64 nx, .slice mo n mc, .slice ko z kc, .string sb] 33 (0, 0)) := by
    rw [hW2, Below.heap_alloc _ _ _ (by simp)]
    exact World.alloc_heap_new w _
  have eE : W2.heap[w.heap.size + 1]? = some (.cells #[.string r, .int .i64 q, .int .i64 kd, .string u, .string nk, .string t, .string i, .string fr, .int .i64 m] 37 (0, 0)) := by
    rw [hW2]
    have := World.alloc_heap_new (w.alloc (.cells #[.string nm, .int .i64 nx, .slice mo n mc, .slice ko z kc, .string sb] 33)) (.cells #[.string r, .int .i64 q, .int .i64 kd, .string u, .string nk, .string t, .string i, .string fr, .int .i64 m] 37)
    simpa using this
  have BA : Hid (∀ W, Below W2.heap.size W2 W → W.heap[w.heap.size]? = some (.cells #[.string nm, .int .i64 nx, .slice mo n mc, .slice ko z kc, .string sb] 33 (0, 0))) := fun W bb => (bb.block _ (by omega)).trans eA
  have BE : Hid (∀ W, Below W2.heap.size W2 W → W.heap[w.heap.size + 1]? = some (.cells #[.string r, .int .i64 q, .int .i64 kd, .string u, .string nk, .string t, .string i, .string fr, .int .i64 m] 37 (0, 0))) := fun W bb => (bb.block _ (by omega)).trans eE
  have HW2 : Hid (W2 = _) := hW2
  clear hW2 eA eE
  obtain ⟨C, hC⟩ : ∃ C, canT nm nx sb n U N R z KU KR r q kd u nk t i fr m = C := ⟨_, rfl⟩
  have HC : Hid (canT nm nx sb n U N R z KU KR r q kd u nk t i fr m = C) := hC
  rw [hC]
  clear hC
  obtain ⟨E, hE⟩ : ∃ E, entT r q kd u nk t i fr m = E := ⟨_, rfl⟩
  have HE : Hid (entT r q kd u nk t i fr m = E) := hE
  obtain ⟨I, hI⟩ : ∃ I, isT n U N u nk = I := ⟨_, rfl⟩
  have HI : Hid (isT n U N u nk = I) := hI
  obtain ⟨G, hG⟩ : ∃ G, behT nm sb n U N R z KU KR q kd u nk t m = G := ⟨_, rfl⟩
  have HG : Hid (behT nm sb n U N R z KU KR q kd u nk t m = G) := hG
  have cA : Hid (∀ (W : World), Below w.heap.size w W → E = true → (kd = 2 ∨ kd = 5 → I = true) → _) := fun W bb g g2 => cA W bb (hE.trans g) (fun g3 => hI.trans (g2 g3))
  rw [hI] at cI
  simp only [hE] at cE
  have cE2 := cE W2
  have SB : Hid ((aftS kd sb t).size ≤ 9223372036854775800) := by
    show _ ≤ _
    unfold aftS
    split <;> omega
  have SM : Hid (∀ j, j < aftN kd n → (aftU kd n (ofN n U u) u U j).size ≤ 9223372036854775800 ∧ (aftU kd n (ofN n U u) nk N j).size ≤ 9223372036854775800) := fun j hj => ⟨aft_sizes (fun j hj => by have := (hs j hj).1; omega) (by omega) j hj, aft_sizes (fun j hj => by have := (hs j hj).2; omega) (by omega) j hj⟩
  have SK : Hid (∀ j, j < aftZ kd z (lessTo KU u z) (foundT z KU u) m → (aftKU kd (lessTo KU u z) (foundT z KU u) u m KU j).size ≤ 9223372036854775800) := fun j hj => aftK_sizes hp (fun j hj => by have := hzs j hj; omega) (by omega) j hj
  clear cE hE hI hG hm hk hs hzs h1 h2 h3 h4 hp hA
  have RES : ∀ (e1 : Bool) (e2 : Bool) (e3 : Bool), (r.toList == nm.toList) = e1 → decide (q = nx) = e2 → ((decide (kd = 6) || decide (kd = 1)) || I) = e3 → C = ((E && (e1 && (e2 && e3))) && G) := by
    intro e1 e2 e3 g1 g2 g3
    rw [← HC.out, ← HE.out, ← HG.out, ← g1, ← g2, ← g3, ← HI.out]
    rfl
  have RES := (show Hid _ from RES)
  cases E
  · go_enter Tryz.func16, Tryz.ntmps16
    go_wp2_with (go_at_call 39; rw [← HW2.out]; go_fit cE2; rintro e w3 ⟨rfl, b3⟩; have B3 := b2.trans (b3.mono b2.size); obtain ⟨e0, e1, e2, e3, e4, e5, e6, e7, e8⟩ := nine_at (BE.out w3 b3); obtain ⟨d0, d1, d2, d3, d4⟩ := rm_cells (BA.out w3 b3))
    go_ret
    exact ⟨by rw [RES.out _ _ _ rfl rfl rfl]; rfl, B3⟩
  · obtain ⟨e1', he1⟩ : ∃ x, (r.toList == nm.toList) = x := ⟨_, rfl⟩
    cases e1'
    · go_enter Tryz.func16, Tryz.ntmps16
      go_wp2_with (go_at_call 39; rw [← HW2.out]; go_fit cE2; rintro e w3 ⟨rfl, b3⟩; have B3 := b2.trans (b3.mono b2.size); obtain ⟨e0, e1, e2, e3, e4, e5, e6, e7, e8⟩ := nine_at (BE.out w3 b3); obtain ⟨d0, d1, d2, d3, d4⟩ := rm_cells (BA.out w3 b3))
      go_ret
      exact ⟨by rw [RES.out _ _ _ he1 rfl rfl]; rfl, B3⟩
    · by_cases hq : q = nx
      · by_cases hkd : kd = 6 ∨ kd = 1
        · have hk1 : ¬ (kd = 2 ∨ kd = 5) := by omega
          have hres : C = G := by
            rw [RES.out _ _ _ he1 (decide_eq_true hq) (show _ = true by rcases hkd with h | h <;> simp [h])]
            cases G <;> rfl
          have HR : Hid (C = G) := hres
          clear hres
          subst hq
          have cA2 := fun (W : World) (bb : Below w.heap.size w W) => cA.out W bb rfl (fun h => absurd h hk1)
          clear cA
          rcases hkd with rfl | rfl
          · go_enter Tryz.func16, Tryz.ntmps16
            go_wp2_with first
              | (go_at_call 15; refine cO5.mono ?_; rintro e w6 ⟨rfl, b6⟩)
              | (go_at_call 18; refine (cA2 w3 B3).mono ?_; rintro e w5 ⟨⟨v5, rfl, vm5, vk5, rfl, OM5, OK5, AP5⟩, b5⟩; have B5 := Below.trans B3 (b5.mono (Below.size B3)); obtain ⟨o5, c5, rfl⟩ := OwnL.shape OM5; obtain ⟨o6, c6, rfl⟩ := OwnL.shape OK5; have cO5 := l6Ok_any nm _ (q + 1) _ _ _ _ _ _ _ _ _ w5 OM5.mem OK5.rank (by omega) SB.out SM.out SK.out)
              | (go_at_call 39; rw [← HW2.out]; go_fit cE2; rintro e w3 ⟨rfl, b3⟩; have B3 := b2.trans (b3.mono b2.size); obtain ⟨e0, e1, e2, e3, e4, e5, e6, e7, e8⟩ := nine_at (BE.out w3 b3); obtain ⟨d0, d1, d2, d3, d4⟩ := rm_cells (BA.out w3 b3))
            go_ret
            exact ⟨by rw [HR.out, ← HG.out]; rfl, B5.trans (b6.mono B5.size)⟩
          · go_enter Tryz.func16, Tryz.ntmps16
            go_wp2_with first
              | (go_at_call 15; refine cO5.mono ?_; rintro e w6 ⟨rfl, b6⟩)
              | (go_at_call 18; refine (cA2 w3 B3).mono ?_; rintro e w5 ⟨⟨v5, rfl, vm5, vk5, rfl, OM5, OK5, AP5⟩, b5⟩; have B5 := Below.trans B3 (b5.mono (Below.size B3)); obtain ⟨o5, c5, rfl⟩ := OwnL.shape OM5; obtain ⟨o6, c6, rfl⟩ := OwnL.shape OK5; have cO5 := l6Ok_any nm _ (q + 1) _ _ _ _ _ _ _ _ _ w5 OM5.mem OK5.rank (by omega) SB.out SM.out SK.out)
              | (go_at_call 39; rw [← HW2.out]; go_fit cE2; rintro e w3 ⟨rfl, b3⟩; have B3 := b2.trans (b3.mono b2.size); obtain ⟨e0, e1, e2, e3, e4, e5, e6, e7, e8⟩ := nine_at (BE.out w3 b3); obtain ⟨d0, d1, d2, d3, d4⟩ := rm_cells (BA.out w3 b3))
            go_ret
            exact ⟨by rw [HR.out, ← HG.out]; rfl, B5.trans (b6.mono B5.size)⟩
        · have hk6 : ¬ kd = 6 := fun h => hkd (.inl h)
          have hk1 : ¬ kd = 1 := fun h => hkd (.inr h)
          have hb6 : (kd != 6) = true := by simp [bne, hk6]
          have hb1 : (kd != 1) = true := by simp [bne, hk1]
          have hres : C = (I && G) := by
            rw [RES.out _ _ _ he1 (decide_eq_true hq) rfl]
            simp [hk6, hk1]
          have HR : Hid (C = (I && G)) := hres
          clear hres hkd
          subst hq
          cases I
          · go_enter Tryz.func16, Tryz.ntmps16
            go_wp2_with first
              | (go_at_call 40; refine (cI w3 B3).mono ?_; rintro e w4 ⟨rfl, b4⟩)
              | (go_at_call 39; rw [← HW2.out]; go_fit cE2; rintro e w3 ⟨rfl, b3⟩; have B3 := b2.trans (b3.mono b2.size); obtain ⟨e0, e1, e2, e3, e4, e5, e6, e7, e8⟩ := nine_at (BE.out w3 b3); obtain ⟨d0, d1, d2, d3, d4⟩ := rm_cells (BA.out w3 b3))
            go_ret
            exact ⟨by rw [HR.out]; rfl, B3.trans (b4.mono B3.size)⟩
          · have cA2 := fun (W : World) (bb : Below w.heap.size w W) => cA.out W bb rfl (fun _ => rfl)
            clear cA
            go_enter Tryz.func16, Tryz.ntmps16
            go_wp2_with first
              | (go_at_call 15; refine cO5.mono ?_; rintro e w6 ⟨rfl, b6⟩)
              | (go_at_call 18; refine (cA2 w4 B4).mono ?_; rintro e w5 ⟨⟨v5, rfl, vm5, vk5, rfl, OM5, OK5, AP5⟩, b5⟩; have B5 := Below.trans B4 (b5.mono (Below.size B4)); obtain ⟨o5, c5, rfl⟩ := OwnL.shape OM5; obtain ⟨o6, c6, rfl⟩ := OwnL.shape OK5; have cO5 := l6Ok_any nm _ (q + 1) _ _ _ _ _ _ _ _ _ w5 OM5.mem OK5.rank (by omega) SB.out SM.out SK.out)
              | (go_at_call 40; refine (cI w3 B3).mono ?_; rintro e w4 ⟨rfl, b4⟩; have B4 := B3.trans (b4.mono B3.size); have b24 := b3.trans (b4.mono b3.size); obtain ⟨f0, f1, f2, f3, f4, f5, f6, f7, f8⟩ := nine_at (BE.out w4 b24); obtain ⟨g0, g1, g2, g3, g4⟩ := rm_cells (BA.out w4 b24))
              | (go_at_call 39; rw [← HW2.out]; go_fit cE2; rintro e w3 ⟨rfl, b3⟩; have B3 := b2.trans (b3.mono b2.size); obtain ⟨e0, e1, e2, e3, e4, e5, e6, e7, e8⟩ := nine_at (BE.out w3 b3); obtain ⟨d0, d1, d2, d3, d4⟩ := rm_cells (BA.out w3 b3))
            go_ret
            exact ⟨by rw [HR.out, ← HG.out]; rfl, B5.trans (b6.mono B5.size)⟩
      · go_enter Tryz.func16, Tryz.ntmps16
        go_wp2_with (go_at_call 39; rw [← HW2.out]; go_fit cE2; rintro e w3 ⟨rfl, b3⟩; have B3 := b2.trans (b3.mono b2.size); obtain ⟨e0, e1, e2, e3, e4, e5, e6, e7, e8⟩ := nine_at (BE.out w3 b3); obtain ⟨d0, d1, d2, d3, d4⟩ := rm_cells (BA.out w3 b3))
        go_ret
        exact ⟨by rw [RES.out _ _ _ he1 (decide_eq_false hq) rfl]; rfl, B3⟩
end Go.Proofs.YtgjlgddglgffmaaGreatDoor.Hub
