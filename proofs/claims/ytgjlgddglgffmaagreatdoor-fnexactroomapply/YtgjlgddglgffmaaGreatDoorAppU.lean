/-
  spec.l6Is: whether one who is in a room has that nick; where a user's rank stands, or would.
-/
import Derived.Test.YtgjlgddglgffmaaGreatDoorAppT
namespace Go.Proofs.YtgjlgddglgffmaaGreatDoor.Hub
open Go.RowKit
set_option linter.unusedVariables false

theorem asc_split (KU : Nat → ByteArray) (u : ByteArray) (z : Nat) (hA : Asc z KU) : ∀ n, n ≤ z → ∃ i, i ≤ n ∧ (∀ t, t < i → Op.bytesLess (KU t).toList u.toList = true) ∧ ∀ t, i ≤ t → t < n → Op.bytesLess (KU t).toList u.toList = false
  | 0, _ => ⟨0, Nat.le_refl _, fun t h => absurd h (by omega), fun t _ h => absurd h (by omega)⟩
  | n + 1, hn => by
    obtain ⟨i, hi, h1, h2⟩ := asc_split KU u z hA n (by omega)
    cases hl : Op.bytesLess (KU n).toList u.toList
    · refine ⟨i, by omega, h1, fun t h3 h4 => ?_⟩
      by_cases e : t = n
      · subst e; exact hl
      · exact h2 t h3 (by omega)
    · refine ⟨n + 1, Nat.le_refl _, fun t h3 => ?_, fun t h3 h4 => absurd h4 (by omega)⟩
      by_cases e : t = n
      · subst e; exact hl
      · exact less_trans _ _ _ (hA t n (by omega) (by omega)) hl
theorem asc_place (KU : Nat → ByteArray) (u : ByteArray) (z : Nat) (hA : Asc z KU) : lessTo KU u z ≤ z ∧ (∀ t, t < lessTo KU u z → Op.bytesLess (KU t).toList u.toList = true) ∧ (∀ t, lessTo KU u z ≤ t → t < z → Op.bytesLess (KU t).toList u.toList = false) ∧ (∀ t, t < z → (t ≠ lessTo KU u z ∨ foundT z KU u = false) → ((KU t).toList == u.toList) = false) ∧ (foundT z KU u = true → lessTo KU u z < z ∧ ((KU (lessTo KU u z)).toList == u.toList) = true) := by
  obtain ⟨i, hi, h1, h2⟩ := asc_split KU u z hA z (Nat.le_refl _)
  have e := lessTo_at KU u i h1 z hi h2
  unfold foundT
  rw [e]
  refine ⟨hi, h1, h2, fun t ht h => ?_, fun h => by simpa using h⟩
  rcases Nat.lt_trichotomy t i with h3 | h3 | h3
  · exact less_ne _ _ (h1 t h3)
  · subst h3
    rcases h with h | h
    · exact absurd rfl h
    · simpa [ht] using h
  · cases hq : ((KU t).toList == u.toList)
    · rfl
    · have h4 := hA i t h3 ht
      have h5 : (KU t).toList = u.toList := by simpa using hq
      rw [h5, h2 i (Nat.le_refl _) (by omega)] at h4
      cases h4
theorem first_cases (n : Nat) (p : Nat → Bool) : firstI n p = -1 ∨ ∃ k : Nat, k < n ∧ firstI n p = (k : Int) := by
  unfold firstI
  rcases find_cases p n 0 with h | ⟨i, _, h2, h3, h4⟩
  · exact .inl (find_none p n 0 h)
  · exact .inr ⟨i, by omega, find_some p i h3 n 0 (Nat.zero_le _) h2 h4⟩
/-- One who is in a room has that nick. -/
def isT (n : Nat) (U N : Nat → ByteArray) (u nk : ByteArray) : Bool := decide (0 ≤ firstI n (fun j => (U j).toList == u.toList)) && ((N (firstI n (fun j => (U j).toList == u.toList)).toNat).toList == nk.toList)

set_option maxRecDepth 100000 in
set_option maxHeartbeats 4000000 in
theorem l6Is_any (nm sb : ByteArray) (nx : Int) (vm vk : Value) (n : Nat) (U N : Nat → ByteArray) (R : Nat → Int) (r : ByteArray) (q kd : Int) (u nk t i fr : ByteArray) (m : Int) (w : World) (hm : MemAt w vm n U N R) :
    Calls Tryz.prog 40 #[roomV nm nx vm vk sb, entV r q kd u nk t i fr m] w fun e w' => e = .returned (.bool (isT n U N u nk)) ∧ Below w.heap.size w w' := by
  have cO := fun (W : World) (bb : Below w.heap.size w W) => l6Of_any nm sb u nx vm vk n U N R W (hm.below bb)
  obtain ⟨W2, hW2⟩ : ∃ W2, W2 = (w.alloc (.cells #[.string nm, .int .i64 nx, vm, vk, .string sb] 33)).alloc (.cells #[.string r, .int .i64 q, .int .i64 kd, .string u, .string nk, .string t, .string i, .string fr, .int .i64 m] 37) := ⟨_, rfl⟩
  have b2 : Below w.heap.size w W2 := by rw [hW2]; exact ((Below.refl _ w).alloc (Nat.le_refl _) _).alloc (by simp) _
  have s2 : W2.heap.size = w.heap.size + 2 := by rw [hW2]; simp
  have hA : W2.heap[w.heap.size]? = some (.cells #[.string nm, .int .i64 nx, vm, vk, .string sb] 33 (0, 0)) := by
    rw [hW2, Below.heap_alloc _ _ _ (by simp)]
    exact World.alloc_heap_new w _
  have hE : W2.heap[w.heap.size + 1]? = some (.cells #[.string r, .int .i64 q, .int .i64 kd, .string u, .string nk, .string t, .string i, .string fr, .int .i64 m] 37 (0, 0)) := by
    rw [hW2]
    have := World.alloc_heap_new (w.alloc (.cells #[.string nm, .int .i64 nx, vm, vk, .string sb] 33)) (.cells #[.string r, .int .i64 q, .int .i64 kd, .string u, .string nk, .string t, .string i, .string fr, .int .i64 m] 37)
    simpa using this
  have BA : Hid (∀ W, Below W2.heap.size W2 W → W.heap[w.heap.size]? = some (.cells #[.string nm, .int .i64 nx, vm, vk, .string sb] 33 (0, 0))) := fun W bb => (bb.block _ (by omega)).trans hA
  have BE : Hid (∀ W, Below W2.heap.size W2 W → W.heap[w.heap.size + 1]? = some (.cells #[.string r, .int .i64 q, .int .i64 kd, .string u, .string nk, .string t, .string i, .string fr, .int .i64 m] 37 (0, 0))) := fun W bb => (bb.block _ (by omega)).trans hE
  have cO2 := cO W2 b2
  have HW2 : Hid (W2 = _) := hW2
  have HM : Hid (MemAt w vm n U N R) := hm
  clear hW2 hA hE cO
  unfold isT
  obtain ⟨mo, mc, rfl, h1, h2, hc⟩ := hm
  have h2 : mc ≤ 9223372036854775807 := h2
  rcases first_cases n (fun j => (U j).toList == u.toList) with h | ⟨k, hk, h⟩
  · rw [h] at cO2 ⊢
    clear hc
    go_enter Tryz.func40, Tryz.ntmps40
    go_wp2_with (go_at_call 41; rw [← HW2.out]; go_fit cO2; rintro e w3 ⟨rfl, b3⟩; obtain ⟨e0, e1, e2, e3, e4, e5, e6, e7, e8⟩ := nine_at (BE.out w3 b3); obtain ⟨d0, d1, d2, d3, d4⟩ := rm_cells (BA.out w3 b3))
    refine wp_region_held_drew (S := (fun W => W = w3.drew)) (by kernel_rfl) ?_ (fun hHeld => ?_)
    · rfl
    refine wpAnyH_take (i := 0) (v := ?_) rfl (by kernel_rfl) (by kernel_rfl) (by kernel_rfl) (fun _ _ _ h => h) (Or.inl ⟨by rfl, ?takeYif0⟩) (by assumption) ?takeRif0
    case takeYif0 => (intro w hSw; subst hSw; go_simp; try (with_reducible rfl))
    simp only [Act.put, List.setIfInBounds_toArray, List.set_cons_zero, List.set_cons_succ, List.getElem_toArray, List.getElem_cons_zero]
    refine wpAnyH_take (i := 1) (v := ?_) rfl (by kernel_rfl) (by kernel_rfl) (by kernel_rfl) (fun _ _ _ h => h) (Or.inl ⟨by rfl, ?takeYif1⟩) (by assumption) ?takeRif1
    case takeYif1 => (intro w hSw; subst hSw; go_simp; try (with_reducible rfl))
    simp only [Act.put, List.setIfInBounds_toArray, List.set_cons_zero, List.set_cons_succ, List.getElem_toArray, List.getElem_cons_zero, List.getElem_cons_succ]
    refine wpAnyH_take (i := 2) (v := ?_) rfl (by kernel_rfl) (by kernel_rfl) (by kernel_rfl) (fun _ _ _ h => h) (Or.inl ⟨by rfl, ?takeYif2⟩) (by assumption) ?takeRif2
    case takeYif2 => (intro w hSw; subst hSw; go_simp; try (with_reducible rfl))
    simp only [Act.put, List.setIfInBounds_toArray, List.set_cons_zero, List.set_cons_succ, List.getElem_toArray, List.getElem_cons_zero, List.getElem_cons_succ]
    refine wpAnyH_take (i := 3) (v := undef) rfl (by kernel_rfl) (by kernel_rfl) (by kernel_rfl) (fun _ _ _ h => h) (Or.inr ⟨by rfl, rfl⟩) (by assumption) ?_
    simp only [Act.put, List.setIfInBounds_toArray, List.set_cons_zero, List.set_cons_succ, List.getElem_toArray, List.getElem_cons_zero, List.getElem_cons_succ]
    refine wpAnyH_take (i := 4) (v := undef) rfl (by kernel_rfl) (by kernel_rfl) (by kernel_rfl) (fun _ _ _ h => h) (Or.inr ⟨by rfl, rfl⟩) (by assumption) ?_
    simp only [Act.put, List.setIfInBounds_toArray, List.set_cons_zero, List.set_cons_succ, List.getElem_toArray, List.getElem_cons_zero, List.getElem_cons_succ]
    refine wpAnyH_take (i := 5) (v := undef) rfl (by kernel_rfl) (by kernel_rfl) (by kernel_rfl) (fun _ _ _ h => h) (Or.inr ⟨by rfl, rfl⟩) (by assumption) ?_
    simp only [Act.put, List.setIfInBounds_toArray, List.set_cons_zero, List.set_cons_succ, List.getElem_toArray, List.getElem_cons_zero, List.getElem_cons_succ]
    refine wpAnyH_take (i := 6) (v := undef) rfl (by kernel_rfl) (by kernel_rfl) (by kernel_rfl) (fun _ _ _ h => h) (Or.inr ⟨by rfl, rfl⟩) (by assumption) ?_
    simp only [Act.put, List.setIfInBounds_toArray, List.set_cons_zero, List.set_cons_succ, List.getElem_toArray, List.getElem_cons_zero, List.getElem_cons_succ]
    refine wpAnyH_take (i := 7) (v := undef) rfl (by kernel_rfl) (by kernel_rfl) (by kernel_rfl) (fun _ _ _ h => h) (Or.inr ⟨by rfl, rfl⟩) (by assumption) ?_
    simp only [Act.put, List.setIfInBounds_toArray, List.set_cons_zero, List.set_cons_succ, List.getElem_toArray, List.getElem_cons_zero, List.getElem_cons_succ]
    refine wpAnyH_take (i := 8) (v := undef) rfl (by kernel_rfl) (by kernel_rfl) (by kernel_rfl) (fun _ _ _ h => h) (Or.inr ⟨by rfl, rfl⟩) (by assumption) ?_
    simp only [Act.put, List.setIfInBounds_toArray, List.set_cons_zero, List.set_cons_succ, List.getElem_toArray, List.getElem_cons_zero, List.getElem_cons_succ]
    refine wpAnyH_take (i := 9) (v := undef) rfl (by kernel_rfl) (by kernel_rfl) (by kernel_rfl) (fun _ _ _ h => h) (Or.inr ⟨by rfl, rfl⟩) (by assumption) ?_
    simp only [Act.put, List.setIfInBounds_toArray, List.set_cons_zero, List.set_cons_succ, List.getElem_toArray, List.getElem_cons_zero, List.getElem_cons_succ]
    refine wpAnyH_take (i := 10) (v := undef) rfl (by kernel_rfl) (by kernel_rfl) (by kernel_rfl) (fun _ _ _ h => h) (Or.inr ⟨by rfl, rfl⟩) (by assumption) ?_
    simp only [Act.put, List.setIfInBounds_toArray, List.set_cons_zero, List.set_cons_succ, List.getElem_toArray, List.getElem_cons_zero, List.getElem_cons_succ]
    refine wpAnyH_take (i := 11) (v := undef) rfl (by kernel_rfl) (by kernel_rfl) (by kernel_rfl) (fun _ _ _ h => h) (Or.inr ⟨by rfl, rfl⟩) (by assumption) ?_
    simp only [Act.put, List.setIfInBounds_toArray, List.set_cons_zero, List.set_cons_succ, List.getElem_toArray, List.getElem_cons_zero, List.getElem_cons_succ]
    refine wpAnyH_take (i := 12) (v := ?_) rfl (by kernel_rfl) (by kernel_rfl) (by kernel_rfl) (fun _ _ _ h => h) (Or.inl ⟨by rfl, ?takeYif12⟩) (by assumption) ?takeRif12
    case takeYif12 => (intro w hSw; subst hSw; go_simp; try (with_reducible rfl))
    simp only [Act.put, List.setIfInBounds_toArray, List.set_cons_zero, List.set_cons_succ, List.getElem_toArray, List.getElem_cons_zero, List.getElem_cons_succ]
    refine wpAnyH_take (i := 13) (v := ?_) rfl (by kernel_rfl) (by kernel_rfl) (by kernel_rfl) (fun _ _ _ h => h) (Or.inl ⟨by rfl, ?takeYif13⟩) (by assumption) ?takeRif13
    case takeYif13 => (intro w hSw; subst hSw; go_simp; try (with_reducible rfl))
    simp only [Act.put, List.setIfInBounds_toArray, List.set_cons_zero, List.set_cons_succ, List.getElem_toArray, List.getElem_cons_zero, List.getElem_cons_succ]
    refine wpAnyH_done (by kernel_rfl) ?_ _
    go_wp2_with fail
    go_ret
    exact ⟨rfl, (b2.trans (b3.mono b2.size)).drew⟩
  · rw [h] at cO2 ⊢
    obtain ⟨b, f, ho, hb, c0, c1, c2⟩ := hc k hk
    subst ho
    have hk0 : (0 : Int) ≤ (k : Int) := by omega
    have hkn : (k : Int) < (n : Int) := by omega
    have hN : Hid (∀ W, Below w.heap.size w W → W.cell? ⟨b, f + k * 3 + 1, none⟩ = some (.string (N k))) := fun W bb => (bb.cell (p := ⟨b, f + k * 3 + 1, none⟩) hb).trans c1
    have ek : (k : Int).toNat = k := Int.toNat_natCast k
    rw [ek]
    clear hc c0 c1 c2
    generalize N k = s at *
    go_enter Tryz.func40, Tryz.ntmps40
    go_wp2_with (go_at_call 41; rw [← HW2.out]; go_fit cO2; rintro e w3 ⟨rfl, b3⟩; obtain ⟨e0, e1, e2, e3, e4, e5, e6, e7, e8⟩ := nine_at (BE.out w3 b3); obtain ⟨d0, d1, d2, d3, d4⟩ := rm_cells (BA.out w3 b3); have n3 := hN.out w3 (b2.trans (b3.mono b2.size)))
    have D0 : w3.drew.cell? ⟨w.heap.size, 2, none⟩ = some (.slice (some ⟨b, f, none⟩) n mc) := d2
    have D4 : w3.drew.cell? ⟨w.heap.size + 1, 4, none⟩ = some (.string nk) := e4
    have D9 : w3.drew.cell? ⟨b, f + k * 3 + 1, none⟩ = some (.string s) := n3
    refine wp_region_held_drew (S := (fun W => W = w3.drew)) (by kernel_rfl) ?_ (fun hHeld => ?_)
    · rfl
    refine wpAnyH_take (i := 0) (v := ?_) rfl (by kernel_rfl) (by kernel_rfl) (by kernel_rfl) (fun _ _ _ h => h) (Or.inl ⟨by rfl, ?takeYit0⟩) (by assumption) ?takeRit0
    case takeYit0 => (intro w hSw; subst hSw; go_simp; try (with_reducible rfl))
    simp only [Act.put, List.setIfInBounds_toArray, List.set_cons_zero, List.set_cons_succ, List.getElem_toArray, List.getElem_cons_zero]
    refine wpAnyH_take (i := 1) (v := ?_) rfl (by kernel_rfl) (by kernel_rfl) (by kernel_rfl) (fun _ _ _ h => h) (Or.inl ⟨by rfl, ?takeYit1⟩) (by assumption) ?takeRit1
    case takeYit1 => (intro w hSw; subst hSw; go_simp; try (with_reducible rfl))
    simp only [Act.put, List.setIfInBounds_toArray, List.set_cons_zero, List.set_cons_succ, List.getElem_toArray, List.getElem_cons_zero, List.getElem_cons_succ]
    refine wpAnyH_take (i := 2) (v := ?_) rfl (by kernel_rfl) (by kernel_rfl) (by kernel_rfl) (fun _ _ _ h => h) (Or.inl ⟨by rfl, ?takeYit2⟩) (by assumption) ?takeRit2
    case takeYit2 => (intro w hSw; subst hSw; go_simp; try (with_reducible rfl))
    simp only [Act.put, List.setIfInBounds_toArray, List.set_cons_zero, List.set_cons_succ, List.getElem_toArray, List.getElem_cons_zero, List.getElem_cons_succ]
    refine wpAnyH_take (i := 3) (v := ?_) rfl (by kernel_rfl) (by kernel_rfl) (by kernel_rfl) (fun _ _ _ h => h) (Or.inl ⟨by rfl, ?takeYit3⟩) (by assumption) ?takeRit3
    case takeYit3 => (intro w hSw; subst hSw; go_simp; try (with_reducible rfl))
    simp only [Act.put, List.setIfInBounds_toArray, List.set_cons_zero, List.set_cons_succ, List.getElem_toArray, List.getElem_cons_zero, List.getElem_cons_succ]
    refine wpAnyH_take (i := 4) (v := ?_) rfl (by kernel_rfl) (by kernel_rfl) (by kernel_rfl) (fun _ _ _ h => h) (Or.inl ⟨by rfl, ?takeYit4⟩) (by assumption) ?takeRit4
    case takeYit4 => (intro w hSw; subst hSw; go_simp; try (with_reducible rfl))
    simp only [Act.put, List.setIfInBounds_toArray, List.set_cons_zero, List.set_cons_succ, List.getElem_toArray, List.getElem_cons_zero, List.getElem_cons_succ]
    refine wpAnyH_take (i := 5) (v := ?_) rfl (by kernel_rfl) (by kernel_rfl) (by kernel_rfl) (fun _ _ _ h => h) (Or.inl ⟨by rfl, ?takeYit5⟩) (by assumption) ?takeRit5
    case takeYit5 => (intro w hSw; subst hSw; go_simp; try (with_reducible rfl))
    simp only [Act.put, List.setIfInBounds_toArray, List.set_cons_zero, List.set_cons_succ, List.getElem_toArray, List.getElem_cons_zero, List.getElem_cons_succ]
    refine wpAnyH_take (i := 6) (v := ?_) rfl (by kernel_rfl) (by kernel_rfl) (by kernel_rfl) (fun _ _ _ h => h) (Or.inl ⟨by rfl, ?takeYit6⟩) (by assumption) ?takeRit6
    case takeYit6 => (intro w hSw; subst hSw; go_simp; try (with_reducible rfl))
    simp only [Act.put, List.setIfInBounds_toArray, List.set_cons_zero, List.set_cons_succ, List.getElem_toArray, List.getElem_cons_zero, List.getElem_cons_succ]
    refine wpAnyH_take (i := 7) (v := ?_) rfl (by kernel_rfl) (by kernel_rfl) (by kernel_rfl) (fun _ _ _ h => h) (Or.inl ⟨by rfl, ?takeYit7⟩) (by assumption) ?takeRit7
    case takeYit7 => (intro w hSw; subst hSw; go_simp; try (with_reducible rfl))
    simp only [Act.put, List.setIfInBounds_toArray, List.set_cons_zero, List.set_cons_succ, List.getElem_toArray, List.getElem_cons_zero, List.getElem_cons_succ]
    refine wpAnyH_take (i := 8) (v := ?_) rfl (by kernel_rfl) (by kernel_rfl) (by kernel_rfl) (fun _ _ _ h => h) (Or.inl ⟨by rfl, ?takeYit8⟩) (by assumption) ?takeRit8
    case takeYit8 => (intro w hSw; subst hSw; go_simp; try (with_reducible rfl))
    simp only [Act.put, List.setIfInBounds_toArray, List.set_cons_zero, List.set_cons_succ, List.getElem_toArray, List.getElem_cons_zero, List.getElem_cons_succ]
    refine wpAnyH_take (i := 9) (v := ?_) rfl (by kernel_rfl) (by kernel_rfl) (by kernel_rfl) (fun _ _ _ h => h) (Or.inl ⟨by rfl, ?takeYit9⟩) (by assumption) ?takeRit9
    case takeYit9 => (intro w hSw; subst hSw; go_simp; try (with_reducible rfl))
    simp only [Act.put, List.setIfInBounds_toArray, List.set_cons_zero, List.set_cons_succ, List.getElem_toArray, List.getElem_cons_zero, List.getElem_cons_succ]
    refine wpAnyH_take (i := 10) (v := ?_) rfl (by kernel_rfl) (by kernel_rfl) (by kernel_rfl) (fun _ _ _ h => h) (Or.inl ⟨by rfl, ?takeYit10⟩) (by assumption) ?takeRit10
    case takeYit10 => (intro w hSw; subst hSw; go_simp; try (with_reducible rfl))
    simp only [Act.put, List.setIfInBounds_toArray, List.set_cons_zero, List.set_cons_succ, List.getElem_toArray, List.getElem_cons_zero, List.getElem_cons_succ]
    refine wpAnyH_take (i := 11) (v := ?_) rfl (by kernel_rfl) (by kernel_rfl) (by kernel_rfl) (fun _ _ _ h => h) (Or.inl ⟨by rfl, ?takeYit11⟩) (by assumption) ?takeRit11
    case takeYit11 => (intro w hSw; subst hSw; go_simp; try (with_reducible rfl))
    simp only [Act.put, List.setIfInBounds_toArray, List.set_cons_zero, List.set_cons_succ, List.getElem_toArray, List.getElem_cons_zero, List.getElem_cons_succ]
    refine wpAnyH_take (i := 12) (v := ?_) rfl (by kernel_rfl) (by kernel_rfl) (by kernel_rfl) (fun _ _ _ h => h) (Or.inl ⟨by rfl, ?takeYit12⟩) (by assumption) ?takeRit12
    case takeYit12 => (intro w hSw; subst hSw; go_simp; try (with_reducible rfl))
    simp only [Act.put, List.setIfInBounds_toArray, List.set_cons_zero, List.set_cons_succ, List.getElem_toArray, List.getElem_cons_zero, List.getElem_cons_succ]
    refine wpAnyH_take (i := 13) (v := ?_) rfl (by kernel_rfl) (by kernel_rfl) (by kernel_rfl) (fun _ _ _ h => h) (Or.inl ⟨by rfl, ?takeYit13⟩) (by assumption) ?takeRit13
    case takeYit13 => (intro w hSw; subst hSw; go_simp; try (with_reducible rfl))
    simp only [Act.put, List.setIfInBounds_toArray, List.set_cons_zero, List.set_cons_succ, List.getElem_toArray, List.getElem_cons_zero, List.getElem_cons_succ]
    refine wpAnyH_done (by kernel_rfl) ?_ _
    obtain ⟨Q, hQ⟩ : ∃ Q, (s.toList == nk.toList) = Q := ⟨_, rfl⟩
    go_wp2_with fail
    go_ret
    exact ⟨rfl, (b2.trans (b3.mono b2.size)).drew⟩
end Go.Proofs.YtgjlgddglgffmaaGreatDoor.Hub
