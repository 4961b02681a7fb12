/-
  impl.isNextOf: whether an entry is one that could come next.
  impl.RoomApply: a room in which something happened.
-/
import Derived.Test.YtgjlgddglgffmaaGreatDoorAppV
import Derived.Test.YtgjlgddglgffmaaGreatDoorEntryImpl
import Derived.Test.YtgjlgddglgffmaaGreatDoorBehind
namespace Go.Proofs.YtgjlgddglgffmaaGreatDoor.Hub
open Go.RowKit Go.Lib
set_option linter.unusedVariables false

set_option maxRecDepth 100000 in
set_option maxHeartbeats 8000000 in
theorem isNextOf_any (nm sb : ByteArray) (nx : Int) (vm vk : Value) (n : Nat) (U N : Nat → ByteArray) (R : Nat → Int) (z : Nat) (KU : Nat → ByteArray) (KR : Nat → Int) (r : ByteArray) (q kd : Int) (u nk t i fr : ByteArray) (m : Int) (w : World) (hT : Tabs w) (hm : MemAt w vm n U N R) (hk : RankAt w vk z KU KR) (hr : r.size ≤ 1048600) (hu : u.size ≤ 1048600) (hnk : nk.size ≤ 1048600) (ht : t.size ≤ 1048600) (hi : i.size ≤ 1048600) (hfr : fr.size ≤ 1048600) :
    Calls Tryz.prog 22 #[roomV nm nx vm vk sb, entV r q kd u nk t i fr m] w fun e w' => e = .returned (.bool (nextT nm nx n U N r q kd u nk t i fr m)) ∧ Below w.heap.size w w' := by
  have hm' := hm
  have hk' := hk
  obtain ⟨mo, mc, rfl, h1, h2, hc⟩ := hm'
  obtain ⟨ko, kc, rfl, -⟩ := hk'
  have h2 : mc ≤ 9223372036854775807 := h2
  obtain ⟨W2, hW2⟩ : ∃ W2, W2 = (w.alloc (.cells #[.string nm, .int .i64 nx, .slice mo n mc, .slice ko z kc, .string sb] 33)).alloc (.cells #[.string r, .int .i64 q, .int .i64 kd, .string u, .string nk, .string t, .string i, .string fr, .int .i64 m] 37) := ⟨_, rfl⟩
  have b2 : Below w.heap.size w W2 := by rw [hW2]; exact ((Below.refl _ w).alloc (Nat.le_refl _) _).alloc (by simp) _
  have s2 : W2.heap.size = w.heap.size + 2 := by rw [hW2]; simp
  have eA : W2.heap[w.heap.size]? = some (.cells #[.string nm, .int .i64 nx, .slice mo n mc, .slice ko z kc, .string sb] 33 (0, 0)) := by
    rw [hW2, Below.heap_alloc _ _ _ (by simp)]
    exact World.alloc_heap_new w _
  have eE : W2.heap[w.heap.size + 1]? = some (.cells #[.string r, .int .i64 q, .int .i64 kd, .string u, .string nk, .string t, .string i, .string fr, .int .i64 m] 37 (0, 0)) := by
    rw [hW2]
    have := World.alloc_heap_new (w.alloc (.cells #[.string nm, .int .i64 nx, .slice mo n mc, .slice ko z kc, .string sb] 33)) (.cells #[.string r, .int .i64 q, .int .i64 kd, .string u, .string nk, .string t, .string i, .string fr, .int .i64 m] 37)
    simpa using this
  have BA : Hid (∀ W, Below W2.heap.size W2 W → W.heap[w.heap.size]? = some (.cells #[.string nm, .int .i64 nx, .slice mo n mc, .slice ko z kc, .string sb] 33 (0, 0))) := fun W bb => (bb.block _ (by omega)).trans eA
  have BE : Hid (∀ W, Below W2.heap.size W2 W → W.heap[w.heap.size + 1]? = some (.cells #[.string r, .int .i64 q, .int .i64 kd, .string u, .string nk, .string t, .string i, .string fr, .int .i64 m] 37 (0, 0))) := fun W bb => (bb.block _ (by omega)).trans eE
  have HW2 : Hid (W2 = _) := hW2
  have cE2 := entryOk_any r q kd u nk t i fr m W2 (Utf8Tabs_below hT b2) (by omega) (by omega) (by omega) (by omega) (by omega) (by omega)
  have cU := fun (W : World) (bb : Below w.heap.size w W) => userPlace_any u mo mc n U N R W (hm.below bb)
  obtain ⟨C, hC⟩ : ∃ C, nextT nm nx n U N r q kd u nk t i fr m = C := ⟨_, rfl⟩
  have HC : Hid (nextT nm nx n U N r q kd u nk t i fr m = C) := hC
  rw [hC]
  obtain ⟨E, hE⟩ : ∃ E, entT r q kd u nk t i fr m = E := ⟨_, rfl⟩
  have HE : Hid (entT r q kd u nk t i fr m = E) := hE
  rw [hE] at cE2
  have RES : Hid (∀ (e1 : Bool) (e2 : Bool) (e3 : Bool), (r.toList == nm.toList) = e1 → decide (q = nx) = e2 → ((decide (kd = 6) || decide (kd = 1)) || isT n U N u nk) = e3 → C = (E && (e1 && (e2 && e3)))) := by
    intro e1 e2 e3 g1 g2 g3
    rw [← HC.out, ← HE.out, ← g1, ← g2, ← g3]
    rfl
  have HM : Hid (MemAt w (.slice mo n mc) n U N R) := hm
  clear hW2 eA eE hC hE hm hk
  cases E
  · go_enter Tryz.func22, Tryz.ntmps22
    go_wp2_with (go_at_call 53; rw [← HW2.out]; go_fit cE2; rintro e w3 ⟨rfl, b3⟩; have B3 := b2.trans (b3.mono b2.size); obtain ⟨e0, e1, e2, e3, e4, e5, e6, e7, e8⟩ := nine_at (BE.out w3 b3); obtain ⟨d0, d1, d2, d3, d4⟩ := rm_cells (BA.out w3 b3))
    go_ret
    exact ⟨by rw [RES.out _ _ _ rfl rfl rfl]; rfl, B3⟩
  · obtain ⟨e1', he1⟩ : ∃ x, (r.toList == nm.toList) = x := ⟨_, rfl⟩
    cases e1'
    · go_enter Tryz.func22, Tryz.ntmps22
      go_wp2_with (go_at_call 53; rw [← HW2.out]; go_fit cE2; rintro e w3 ⟨rfl, b3⟩; have B3 := b2.trans (b3.mono b2.size); obtain ⟨e0, e1, e2, e3, e4, e5, e6, e7, e8⟩ := nine_at (BE.out w3 b3); obtain ⟨d0, d1, d2, d3, d4⟩ := rm_cells (BA.out w3 b3))
      go_ret
      exact ⟨by rw [RES.out _ _ _ he1 rfl rfl]; rfl, B3⟩
    · by_cases hq : q = nx
      · have HQ : Hid (q = nx) := hq
        subst hq
        by_cases hkd : kd = 6 ∨ kd = 1
        · have HR : Hid (C = true) := by
            show C = true
            rw [RES.out true true true he1 (decide_eq_true HQ.out) (by rcases hkd with h | h <;> simp [h])]
            rfl
          rcases hkd with rfl | rfl
          · go_enter Tryz.func22, Tryz.ntmps22
            go_wp2_with (go_at_call 53; rw [← HW2.out]; go_fit cE2; rintro e w3 ⟨rfl, b3⟩; have B3 := b2.trans (b3.mono b2.size); obtain ⟨e0, e1, e2, e3, e4, e5, e6, e7, e8⟩ := nine_at (BE.out w3 b3); obtain ⟨d0, d1, d2, d3, d4⟩ := rm_cells (BA.out w3 b3))
            go_ret
            exact ⟨by rw [HR.out]; rfl, B3⟩
          · go_enter Tryz.func22, Tryz.ntmps22
            go_wp2_with (go_at_call 53; rw [← HW2.out]; go_fit cE2; rintro e w3 ⟨rfl, b3⟩; have B3 := b2.trans (b3.mono b2.size); obtain ⟨e0, e1, e2, e3, e4, e5, e6, e7, e8⟩ := nine_at (BE.out w3 b3); obtain ⟨d0, d1, d2, d3, d4⟩ := rm_cells (BA.out w3 b3))
            go_ret
            exact ⟨by rw [HR.out]; rfl, B3⟩
        · have hk6 : ¬ kd = 6 := fun h => hkd (.inl h)
          have hk1 : ¬ kd = 1 := fun h => hkd (.inr h)
          have hb6 : (kd == 6) = false := by simp [hk6]
          have hb1 : (kd == 1) = false := by simp [hk1]
          have HR : Hid (C = isT n U N u nk) := by
            show C = _
            rw [RES.out true true _ he1 (decide_eq_true HQ.out) rfl]
            simp [hk6, hk1]
          unfold isT at HR
          clear hkd
          rcases first_cases n (fun j => (U j).toList == u.toList) with h | ⟨k, hk, h⟩
          · rw [h] at HR
            simp only [h] at cU
            clear hc
            go_enter Tryz.func22, Tryz.ntmps22
            go_wp2_with first
              | (go_at_call 54; refine (cU w3 B3).mono ?_; rintro e w4 ⟨rfl, b4⟩; have b24 := b3.trans (b4.mono b3.size); obtain ⟨f0, f1, f2, f3, f4, f5, f6, f7, f8⟩ := nine_at (BE.out w4 b24); obtain ⟨g0, g1, g2, g3, g4⟩ := rm_cells (BA.out w4 b24))
              | (go_at_call 53; rw [← HW2.out]; go_fit cE2; rintro e w3 ⟨rfl, b3⟩; have B3 := b2.trans (b3.mono b2.size); obtain ⟨e0, e1, e2, e3, e4, e5, e6, e7, e8⟩ := nine_at (BE.out w3 b3); obtain ⟨d0, d1, d2, d3, d4⟩ := rm_cells (BA.out w3 b3))
            have D0 : w4.drew.cell? ⟨w.heap.size, 2, none⟩ = some (.slice mo n mc) := g2
            have D4 : w4.drew.cell? ⟨w.heap.size + 1, 4, none⟩ = some (.string nk) := f4
            refine wp_region_held_drew (S := (fun W => W = w4.drew)) (by kernel_rfl) ?_ (fun hHeld => ?_)
            · rfl
            refine wpAnyH_take (i := 0) (v := ?_) rfl (by kernel_rfl) (by kernel_rfl) (by kernel_rfl) (fun _ _ _ h => h) (Or.inl ⟨by rfl, ?takeYnf0⟩) (by assumption) ?takeRnf0
            case takeYnf0 => (intro w hSw; subst hSw; go_simp; try (with_reducible rfl))
            simp only [Act.put, List.setIfInBounds_toArray, List.set_cons_zero, List.set_cons_succ, List.getElem_toArray, List.getElem_cons_zero]
            refine wpAnyH_take (i := 1) (v := ?_) rfl (by kernel_rfl) (by kernel_rfl) (by kernel_rfl) (fun _ _ _ h => h) (Or.inl ⟨by rfl, ?takeYnf1⟩) (by assumption) ?takeRnf1
            case takeYnf1 => (intro w hSw; subst hSw; go_simp; try (with_reducible rfl))
            simp only [Act.put, List.setIfInBounds_toArray, List.set_cons_zero, List.set_cons_succ, List.getElem_toArray, List.getElem_cons_zero, List.getElem_cons_succ]
            refine wpAnyH_take (i := 2) (v := ?_) rfl (by kernel_rfl) (by kernel_rfl) (by kernel_rfl) (fun _ _ _ h => h) (Or.inl ⟨by rfl, ?takeYnf2⟩) (by assumption) ?takeRnf2
            case takeYnf2 => (intro w hSw; subst hSw; go_simp; try (with_reducible rfl))
            simp only [Act.put, List.setIfInBounds_toArray, List.set_cons_zero, List.set_cons_succ, List.getElem_toArray, List.getElem_cons_zero, List.getElem_cons_succ]
            refine wpAnyH_take (i := 3) (v := undef) rfl (by kernel_rfl) (by kernel_rfl) (by kernel_rfl) (fun _ _ _ h => h) (Or.inr ⟨by rfl, rfl⟩) (by assumption) ?_
            simp only [Act.put, List.setIfInBounds_toArray, List.set_cons_zero, List.set_cons_succ, List.getElem_toArray, List.getElem_cons_zero, List.getElem_cons_succ]
            refine wpAnyH_take (i := 4) (v := undef) rfl (by kernel_rfl) (by kernel_rfl) (by kernel_rfl) (fun _ _ _ h => h) (Or.inr ⟨by rfl, rfl⟩) (by assumption) ?_
            simp only [Act.put, List.setIfInBounds_toArray, List.set_cons_zero, List.set_cons_succ, List.getElem_toArray, List.getElem_cons_zero, List.getElem_cons_succ]
            refine wpAnyH_take (i := 5) (v := undef) rfl (by kernel_rfl) (by kernel_rfl) (by kernel_rfl) (fun _ _ _ h => h) (Or.inr ⟨by rfl, rfl⟩) (by assumption) ?_
            simp only [Act.put, List.setIfInBounds_toArray, List.set_cons_zero, List.set_cons_succ, List.getElem_toArray, List.getElem_cons_zero, List.getElem_cons_succ]
            refine wpAnyH_take (i := 6) (v := undef) rfl (by kernel_rfl) (by kernel_rfl) (by kernel_rfl) (fun _ _ _ h => h) (Or.inr ⟨by rfl, rfl⟩) (by assumption) ?_
            simp only [Act.put, List.setIfInBounds_toArray, List.set_cons_zero, List.set_cons_succ, List.getElem_toArray, List.getElem_cons_zero, List.getElem_cons_succ]
            refine wpAnyH_take (i := 7) (v := undef) rfl (by kernel_rfl) (by kernel_rfl) (by kernel_rfl) (fun _ _ _ h => h) (Or.inr ⟨by rfl, rfl⟩) (by assumption) ?_
            simp only [Act.put, List.setIfInBounds_toArray, List.set_cons_zero, List.set_cons_succ, List.getElem_toArray, List.getElem_cons_zero, List.getElem_cons_succ]
            refine wpAnyH_take (i := 8) (v := undef) rfl (by kernel_rfl) (by kernel_rfl) (by kernel_rfl) (fun _ _ _ h => h) (Or.inr ⟨by rfl, rfl⟩) (by assumption) ?_
            simp only [Act.put, List.setIfInBounds_toArray, List.set_cons_zero, List.set_cons_succ, List.getElem_toArray, List.getElem_cons_zero, List.getElem_cons_succ]
            refine wpAnyH_take (i := 9) (v := undef) rfl (by kernel_rfl) (by kernel_rfl) (by kernel_rfl) (fun _ _ _ h => h) (Or.inr ⟨by rfl, rfl⟩) (by assumption) ?_
            simp only [Act.put, List.setIfInBounds_toArray, List.set_cons_zero, List.set_cons_succ, List.getElem_toArray, List.getElem_cons_zero, List.getElem_cons_succ]
            refine wpAnyH_take (i := 10) (v := undef) rfl (by kernel_rfl) (by kernel_rfl) (by kernel_rfl) (fun _ _ _ h => h) (Or.inr ⟨by rfl, rfl⟩) (by assumption) ?_
            simp only [Act.put, List.setIfInBounds_toArray, List.set_cons_zero, List.set_cons_succ, List.getElem_toArray, List.getElem_cons_zero, List.getElem_cons_succ]
            refine wpAnyH_take (i := 11) (v := undef) rfl (by kernel_rfl) (by kernel_rfl) (by kernel_rfl) (fun _ _ _ h => h) (Or.inr ⟨by rfl, rfl⟩) (by assumption) ?_
            simp only [Act.put, List.setIfInBounds_toArray, List.set_cons_zero, List.set_cons_succ, List.getElem_toArray, List.getElem_cons_zero, List.getElem_cons_succ]
            refine wpAnyH_take (i := 12) (v := ?_) rfl (by kernel_rfl) (by kernel_rfl) (by kernel_rfl) (fun _ _ _ h => h) (Or.inl ⟨by rfl, ?takeYnf12⟩) (by assumption) ?takeRnf12
            case takeYnf12 => (intro w hSw; subst hSw; go_simp; try (with_reducible rfl))
            simp only [Act.put, List.setIfInBounds_toArray, List.set_cons_zero, List.set_cons_succ, List.getElem_toArray, List.getElem_cons_zero, List.getElem_cons_succ]
            refine wpAnyH_take (i := 13) (v := ?_) rfl (by kernel_rfl) (by kernel_rfl) (by kernel_rfl) (fun _ _ _ h => h) (Or.inl ⟨by rfl, ?takeYnf13⟩) (by assumption) ?takeRnf13
            case takeYnf13 => (intro w hSw; subst hSw; go_simp; try (with_reducible rfl))
            simp only [Act.put, List.setIfInBounds_toArray, List.set_cons_zero, List.set_cons_succ, List.getElem_toArray, List.getElem_cons_zero, List.getElem_cons_succ]
            refine wpAnyH_done (by kernel_rfl) ?_ _
            go_wp2_with fail
            go_ret
            exact ⟨by rw [HR.out]; rfl, (B3.trans (b4.mono B3.size)).drew⟩
          · rw [h] at HR
            simp only [h] at cU
            obtain ⟨b, f, ho, hb, c0, c1, c2⟩ := hc k hk
            subst ho
            have hk0 : (0 : Int) ≤ (k : Int) := by omega
            have hkn : (k : Int) < (n : Int) := by omega
            have hN : Hid (∀ W, Below w.heap.size w W → W.cell? ⟨b, f + k * 3 + 1, none⟩ = some (.string (N k))) := fun W bb => (bb.cell (p := ⟨b, f + k * 3 + 1, none⟩) hb).trans c1
            have ek : (k : Int).toNat = k := Int.toNat_natCast k
            rw [ek] at HR
            have HR : Hid (C = ((N k).toList == nk.toList)) := by
              show C = _
              rw [HR.out, decide_eq_true hk0, Bool.true_and]
            clear hc c0 c1 c2 h RES HC HM
            generalize N k = s at *
            go_enter Tryz.func22, Tryz.ntmps22
            go_wp2_with first
              | (go_at_call 54; refine (cU w3 B3).mono ?_; rintro e w4 ⟨rfl, b4⟩; have b24 := b3.trans (b4.mono b3.size); obtain ⟨f0, f1, f2, f3, f4, f5, f6, f7, f8⟩ := nine_at (BE.out w4 b24); obtain ⟨g0, g1, g2, g3, g4⟩ := rm_cells (BA.out w4 b24))
              | (go_at_call 53; rw [← HW2.out]; go_fit cE2; rintro e w3 ⟨rfl, b3⟩; have B3 := b2.trans (b3.mono b2.size); obtain ⟨e0, e1, e2, e3, e4, e5, e6, e7, e8⟩ := nine_at (BE.out w3 b3); obtain ⟨d0, d1, d2, d3, d4⟩ := rm_cells (BA.out w3 b3))
            have D0 : w4.drew.cell? ⟨w.heap.size, 2, none⟩ = some (.slice (some ⟨b, f, none⟩) n mc) := g2
            have D4 : w4.drew.cell? ⟨w.heap.size + 1, 4, none⟩ = some (.string nk) := f4
            have D9 : w4.drew.cell? ⟨b, f + k * 3 + 1, none⟩ = some (.string s) := hN.out w4 (B3.trans (b4.mono B3.size))
            refine wp_region_held_drew (S := (fun W => W = w4.drew)) (by kernel_rfl) ?_ (fun hHeld => ?_)
            · rfl
            refine wpAnyH_take (i := 0) (v := ?_) rfl (by kernel_rfl) (by kernel_rfl) (by kernel_rfl) (fun _ _ _ h => h) (Or.inl ⟨by rfl, ?takeYnt0⟩) (by assumption) ?takeRnt0
            case takeYnt0 => (intro w hSw; subst hSw; go_simp; try (with_reducible rfl))
            simp only [Act.put, List.setIfInBounds_toArray, List.set_cons_zero, List.set_cons_succ, List.getElem_toArray, List.getElem_cons_zero]
            refine wpAnyH_take (i := 1) (v := ?_) rfl (by kernel_rfl) (by kernel_rfl) (by kernel_rfl) (fun _ _ _ h => h) (Or.inl ⟨by rfl, ?takeYnt1⟩) (by assumption) ?takeRnt1
            case takeYnt1 => (intro w hSw; subst hSw; go_simp; try (with_reducible rfl))
            simp only [Act.put, List.setIfInBounds_toArray, List.set_cons_zero, List.set_cons_succ, List.getElem_toArray, List.getElem_cons_zero, List.getElem_cons_succ]
            refine wpAnyH_take (i := 2) (v := ?_) rfl (by kernel_rfl) (by kernel_rfl) (by kernel_rfl) (fun _ _ _ h => h) (Or.inl ⟨by rfl, ?takeYnt2⟩) (by assumption) ?takeRnt2
            case takeYnt2 => (intro w hSw; subst hSw; go_simp; try (with_reducible rfl))
            simp only [Act.put, List.setIfInBounds_toArray, List.set_cons_zero, List.set_cons_succ, List.getElem_toArray, List.getElem_cons_zero, List.getElem_cons_succ]
            refine wpAnyH_take (i := 3) (v := ?_) rfl (by kernel_rfl) (by kernel_rfl) (by kernel_rfl) (fun _ _ _ h => h) (Or.inl ⟨by rfl, ?takeYnt3⟩) (by assumption) ?takeRnt3
            case takeYnt3 => (intro w hSw; subst hSw; go_simp; try (with_reducible rfl))
            simp only [Act.put, List.setIfInBounds_toArray, List.set_cons_zero, List.set_cons_succ, List.getElem_toArray, List.getElem_cons_zero, List.getElem_cons_succ]
            refine wpAnyH_take (i := 4) (v := ?_) rfl (by kernel_rfl) (by kernel_rfl) (by kernel_rfl) (fun _ _ _ h => h) (Or.inl ⟨by rfl, ?takeYnt4⟩) (by assumption) ?takeRnt4
            case takeYnt4 => (intro w hSw; subst hSw; go_simp; try (with_reducible rfl))
            simp only [Act.put, List.setIfInBounds_toArray, List.set_cons_zero, List.set_cons_succ, List.getElem_toArray, List.getElem_cons_zero, List.getElem_cons_succ]
            refine wpAnyH_take (i := 5) (v := ?_) rfl (by kernel_rfl) (by kernel_rfl) (by kernel_rfl) (fun _ _ _ h => h) (Or.inl ⟨by rfl, ?takeYnt5⟩) (by assumption) ?takeRnt5
            case takeYnt5 => (intro w hSw; subst hSw; go_simp; try (with_reducible rfl))
            simp only [Act.put, List.setIfInBounds_toArray, List.set_cons_zero, List.set_cons_succ, List.getElem_toArray, List.getElem_cons_zero, List.getElem_cons_succ]
            refine wpAnyH_take (i := 6) (v := ?_) rfl (by kernel_rfl) (by kernel_rfl) (by kernel_rfl) (fun _ _ _ h => h) (Or.inl ⟨by rfl, ?takeYnt6⟩) (by assumption) ?takeRnt6
            case takeYnt6 => (intro w hSw; subst hSw; go_simp; try (with_reducible rfl))
            simp only [Act.put, List.setIfInBounds_toArray, List.set_cons_zero, List.set_cons_succ, List.getElem_toArray, List.getElem_cons_zero, List.getElem_cons_succ]
            refine wpAnyH_take (i := 7) (v := ?_) rfl (by kernel_rfl) (by kernel_rfl) (by kernel_rfl) (fun _ _ _ h => h) (Or.inl ⟨by rfl, ?takeYnt7⟩) (by assumption) ?takeRnt7
            case takeYnt7 => (intro w hSw; subst hSw; go_simp; try (with_reducible rfl))
            simp only [Act.put, List.setIfInBounds_toArray, List.set_cons_zero, List.set_cons_succ, List.getElem_toArray, List.getElem_cons_zero, List.getElem_cons_succ]
            refine wpAnyH_take (i := 8) (v := ?_) rfl (by kernel_rfl) (by kernel_rfl) (by kernel_rfl) (fun _ _ _ h => h) (Or.inl ⟨by rfl, ?takeYnt8⟩) (by assumption) ?takeRnt8
            case takeYnt8 => (intro w hSw; subst hSw; go_simp; try (with_reducible rfl))
            simp only [Act.put, List.setIfInBounds_toArray, List.set_cons_zero, List.set_cons_succ, List.getElem_toArray, List.getElem_cons_zero, List.getElem_cons_succ]
            refine wpAnyH_take (i := 9) (v := ?_) rfl (by kernel_rfl) (by kernel_rfl) (by kernel_rfl) (fun _ _ _ h => h) (Or.inl ⟨by rfl, ?takeYnt9⟩) (by assumption) ?takeRnt9
            case takeYnt9 => (intro w hSw; subst hSw; go_simp; try (with_reducible rfl))
            simp only [Act.put, List.setIfInBounds_toArray, List.set_cons_zero, List.set_cons_succ, List.getElem_toArray, List.getElem_cons_zero, List.getElem_cons_succ]
            refine wpAnyH_take (i := 10) (v := ?_) rfl (by kernel_rfl) (by kernel_rfl) (by kernel_rfl) (fun _ _ _ h => h) (Or.inl ⟨by rfl, ?takeYnt10⟩) (by assumption) ?takeRnt10
            case takeYnt10 => (intro w hSw; subst hSw; go_simp; try (with_reducible rfl))
            simp only [Act.put, List.setIfInBounds_toArray, List.set_cons_zero, List.set_cons_succ, List.getElem_toArray, List.getElem_cons_zero, List.getElem_cons_succ]
            refine wpAnyH_take (i := 11) (v := ?_) rfl (by kernel_rfl) (by kernel_rfl) (by kernel_rfl) (fun _ _ _ h => h) (Or.inl ⟨by rfl, ?takeYnt11⟩) (by assumption) ?takeRnt11
            case takeYnt11 => (intro w hSw; subst hSw; go_simp; try (with_reducible rfl))
            simp only [Act.put, List.setIfInBounds_toArray, List.set_cons_zero, List.set_cons_succ, List.getElem_toArray, List.getElem_cons_zero, List.getElem_cons_succ]
            refine wpAnyH_take (i := 12) (v := ?_) rfl (by kernel_rfl) (by kernel_rfl) (by kernel_rfl) (fun _ _ _ h => h) (Or.inl ⟨by rfl, ?takeYnt12⟩) (by assumption) ?takeRnt12
            case takeYnt12 => (intro w hSw; subst hSw; go_simp; try (with_reducible rfl))
            simp only [Act.put, List.setIfInBounds_toArray, List.set_cons_zero, List.set_cons_succ, List.getElem_toArray, List.getElem_cons_zero, List.getElem_cons_succ]
            refine wpAnyH_take (i := 13) (v := ?_) rfl (by kernel_rfl) (by kernel_rfl) (by kernel_rfl) (fun _ _ _ h => h) (Or.inl ⟨by rfl, ?takeYnt13⟩) (by assumption) ?takeRnt13
            case takeYnt13 => (intro w hSw; subst hSw; go_simp; try (with_reducible rfl))
            simp only [Act.put, List.setIfInBounds_toArray, List.set_cons_zero, List.set_cons_succ, List.getElem_toArray, List.getElem_cons_zero, List.getElem_cons_succ]
            refine wpAnyH_done (by kernel_rfl) ?_ _
            obtain ⟨Q, hQ⟩ : ∃ Q, (s.toList == nk.toList) = Q := ⟨_, rfl⟩
            go_wp2_with fail
            go_ret
            exact ⟨by rw [HR.out, hQ]; rfl, (B3.trans (b4.mono B3.size)).drew⟩
      · go_enter Tryz.func22, Tryz.ntmps22
        go_wp2_with (go_at_call 53; rw [← HW2.out]; go_fit cE2; rintro e w3 ⟨rfl, b3⟩; have B3 := b2.trans (b3.mono b2.size); obtain ⟨e0, e1, e2, e3, e4, e5, e6, e7, e8⟩ := nine_at (BE.out w3 b3); obtain ⟨d0, d1, d2, d3, d4⟩ := rm_cells (BA.out w3 b3))
        go_ret
        exact ⟨by rw [RES.out _ _ _ he1 (decide_eq_false hq) rfl]; rfl, B3⟩
end Go.Proofs.YtgjlgddglgffmaaGreatDoor.Hub
namespace Go.Proofs.YtgjlgddglgffmaaGreatDoor.Hub
open Go.RowKit
set_option linter.unusedVariables false
set_option linter.unusedSimpArgs false

set_option maxRecDepth 100000 in
set_option maxHeartbeats 8000000 in
theorem implApply_any (nm sb : ByteArray) (nx : Int) (vm vk : Value) (n : Nat) (U N : Nat → ByteArray) (R : Nat → Int) (z : Nat) (KU : Nat → ByteArray) (KR : Nat → Int) (r : ByteArray) (q kd : Int) (u nk t i fr : ByteArray) (m : Int) (w : World) (hT : Tabs w) (hm : MemAt w vm n U N R) (hk : RankAt w vk z KU KR)
    (hnm : nm.size ≤ 1048600) (hsb : sb.size ≤ 1048600) (hs : ∀ j, j < n → (U j).size ≤ 1048600 ∧ (N j).size ≤ 1048600) (hzs : ∀ j, j < z → (KU j).size ≤ 1048600) (hr : r.size ≤ 1048600) (hu : u.size ≤ 1048600) (hnk : nk.size ≤ 1048600) (ht : t.size ≤ 1048600) (hi : i.size ≤ 1048600) (hfr : fr.size ≤ 1048600) :
    Calls Tryz.prog 9 #[roomV nm nx vm vk sb, entV r q kd u nk t i fr m] w fun e w' => Applied w w' e nm nx sb n U N R z KU KR r q kd u nk t i fr m ∧ Below w.heap.size w w' := by
  obtain ⟨mo, mc, hmv, -⟩ := id hm
  obtain ⟨ko, kc, hkv, -⟩ := id hk
  subst hmv hkv
  obtain ⟨W3, hW3⟩ : ∃ W3, W3 = (((w.alloc (.cells #[.string nm, .int .i64 nx, .slice mo n mc, .slice ko z kc, .string sb] 33)).alloc (.cells #[.string r, .int .i64 q, .int .i64 kd, .string u, .string nk, .string t, .string i, .string fr, .int .i64 m] 37)).alloc (.cells #[.string ⟨#[]⟩, .int .i64 0, .slice none 0 0, .slice none 0 0, .string ⟨#[]⟩] 33)) := ⟨_, rfl⟩
  have b3 : Below w.heap.size w W3 := by rw [hW3]; exact (((Below.refl _ w).alloc (Nat.le_refl _) _).alloc (by simp) _).alloc (by simp <;> omega) _
  have s3 : W3.heap.size = w.heap.size + 3 := by rw [hW3]; simp
  have hBA : W3.heap[w.heap.size]? = some (.cells #[.string nm, .int .i64 nx, .slice mo n mc, .slice ko z kc, .string sb] 33 (0, 0)) := by
    rw [hW3, Below.heap_alloc _ _ _ (by simp <;> omega), Below.heap_alloc _ _ _ (by simp)]
    exact World.alloc_heap_new w _
  have hBE : W3.heap[w.heap.size + 1]? = some (.cells #[.string r, .int .i64 q, .int .i64 kd, .string u, .string nk, .string t, .string i, .string fr, .int .i64 m] 37 (0, 0)) := by
    rw [hW3, Below.heap_alloc _ _ _ (by simp)]
    have := World.alloc_heap_new (w.alloc (.cells #[.string nm, .int .i64 nx, .slice mo n mc, .slice ko z kc, .string sb] 33)) (.cells #[.string r, .int .i64 q, .int .i64 kd, .string u, .string nk, .string t, .string i, .string fr, .int .i64 m] 37)
    simpa using this
  have hBZ : W3.heap[w.heap.size + 1 + 1]? = some (.cells #[.string ⟨#[]⟩, .int .i64 0, .slice none 0 0, .slice none 0 0, .string ⟨#[]⟩] 33 (0, 0)) := by
    rw [hW3]
    have := World.alloc_heap_new ((w.alloc (.cells #[.string nm, .int .i64 nx, .slice mo n mc, .slice ko z kc, .string sb] 33)).alloc (.cells #[.string r, .int .i64 q, .int .i64 kd, .string u, .string nk, .string t, .string i, .string fr, .int .i64 m] 37)) (.cells #[.string ⟨#[]⟩, .int .i64 0, .slice none 0 0, .slice none 0 0, .string ⟨#[]⟩] 33)
    simpa using this
  have BA : Hid (∀ W, Below W3.heap.size W3 W → W.heap[w.heap.size]? = some (.cells #[.string nm, .int .i64 nx, .slice mo n mc, .slice ko z kc, .string sb] 33 (0, 0))) := fun W bb => (bb.block _ (by omega)).trans hBA
  have BE : Hid (∀ W, Below W3.heap.size W3 W → W.heap[w.heap.size + 1]? = some (.cells #[.string r, .int .i64 q, .int .i64 kd, .string u, .string nk, .string t, .string i, .string fr, .int .i64 m] 37 (0, 0))) := fun W bb => (bb.block _ (by omega)).trans hBE
  have BZ : Hid (∀ W, Below W3.heap.size W3 W → W.heap[w.heap.size + 1 + 1]? = some (.cells #[.string ⟨#[]⟩, .int .i64 0, .slice none 0 0, .slice none 0 0, .string ⟨#[]⟩] 33 (0, 0))) := fun W bb => (bb.block _ (by omega)).trans hBZ
  have HW3 : Hid (W3 = (((w.alloc (.cells #[.string nm, .int .i64 nx, .slice mo n mc, .slice ko z kc, .string sb] 33)).alloc (.cells #[.string r, .int .i64 q, .int .i64 kd, .string u, .string nk, .string t, .string i, .string fr, .int .i64 m] 37)).alloc (.cells #[.string ⟨#[]⟩, .int .i64 0, .slice none 0 0, .slice none 0 0, .string ⟨#[]⟩] 33))) := hW3
  clear hW3 hBA hBE hBZ
  have cO := roomOk_any nm sb nx (.slice mo n mc) (.slice ko z kc) n U N R z KU KR W3 (Utf8Tabs_below hT b3) (hm.below b3) (hk.below b3) (by omega) (by omega) (fun j hj => by have := hs j hj; omega) (fun j hj => by have := hzs j hj; omega)
  unfold Applied
  cases g : roomT nm nx sb n U N R z KU KR with
  | false =>
    rw [g] at cO
    clear hm hk hs hzs
    go_enter Tryz.func9, Tryz.ntmps9
    go_wp2_with (go_at_call 21; rw [← HW3.out]; go_fit cO; rintro e w4 ⟨rfl, b4⟩; have B4 := b3.trans (b4.mono b3.size); obtain ⟨a0, a1, a2, a3, a4⟩ := rm_cells (BA.out w4 b4); obtain ⟨n0, n1, n2, n3, n4, n5, n6, n7, n8⟩ := nine_at (BE.out w4 b4); obtain ⟨z0, z1, z2, z3, z4⟩ := rm_cells (BZ.out w4 b4); have zf : ∀ j, w4.frozen? ⟨w.heap.size + 1 + 1, j, none⟩ = false := (fun j => (by simp [World.frozen?, BZ.out w4 b4])))
    have N9 := rm_cells (roomW_heap (BZ.out w4 b4) ⟨#[]⟩ (0) (.slice none 0 0) (.slice none 0 0) ⟨#[]⟩)
    have b9 := roomW_below B4 (show w.heap.size ≤ w.heap.size + 1 + 1 by omega) ⟨#[]⟩ (0) (.slice none 0 0) (.slice none 0 0) ⟨#[]⟩
    obtain ⟨W9, hW9⟩ : ∃ W9, roomW w4 (w.heap.size + 1 + 1) ⟨#[]⟩ (0) (.slice none 0 0) (.slice none 0 0) ⟨#[]⟩ = W9 := ⟨_, rfl⟩
    rw [hW9] at N9 b9
    unfold roomW at hW9
    rw [hW9]
    obtain ⟨g0, g1, g2, g3, g4⟩ := N9
    exact bodyPost_ret (v := .tuple #[roomV ⟨#[]⟩ (0) (.slice none 0 0) (.slice none 0 0) ⟨#[]⟩, .bool false]) (by simp [results, Tryz.results9, go_sem, g0, g1, g2, g3, g4]) rfl ⟨⟨_, _, rfl, .inl ⟨by first | trivial | rfl, rfl, rfl⟩⟩, b9⟩
  | true =>
    obtain ⟨h5, h6, hA, hx0, hx1⟩ := room_small g
    rw [g] at cO
    have cN := fun W (bb : Below w.heap.size w W) => isNextOf_any nm sb nx (.slice mo n mc) (.slice ko z kc) n U N R z KU KR r q kd u nk t i fr m W (Utf8Tabs_below hT bb) (hm.below bb) (hk.below bb) hr hu hnk ht hi hfr
    have cY := fun W (bb : Below w.heap.size w W) => copyRoom_any nm sb nx (.slice mo n mc) (.slice ko z kc) n U N R z KU KR W (hm.below bb) (hk.below bb) (by omega) (by omega) hnm hsb hs hzs
    cases g2 : nextT nm nx n U N r q kd u nk t i fr m with
    | false =>
      rw [g2] at cN
      have g3 : canT nm nx sb n U N R z KU KR r q kd u nk t i fr m = false := by unfold canT; rw [g2]; rfl
      have G3 : Hid (canT nm nx sb n U N R z KU KR r q kd u nk t i fr m = false) := g3
      clear g3 hm hk hs hzs hT
      go_enter Tryz.func9, Tryz.ntmps9
      go_wp2_with first
        | (go_at_call 23; go_fit (cY w5 B5); rintro e w6 ⟨⟨v6, rfl, vm6, vk6, rfl, OM6, OK6, AP6⟩, b6⟩; have c6 := c5.trans (b6.mono c5.size); have B6 := b3.trans (c6.mono b3.size); obtain ⟨o6, k6, rfl⟩ := OwnL.shape OM6; obtain ⟨o7, k7, rfl⟩ := OwnL.shape OK6; obtain ⟨a0, a1, a2, a3, a4⟩ := rm_cells (BA.out w6 c6); obtain ⟨n0, n1, n2, n3, n4, n5, n6, n7, n8⟩ := nine_at (BE.out w6 c6); obtain ⟨z0, z1, z2, z3, z4⟩ := rm_cells (BZ.out w6 c6); have zf : ∀ j, w6.frozen? ⟨w.heap.size + 1 + 1, j, none⟩ = false := (fun j => (by simp [World.frozen?, BZ.out w6 c6])))
        | (go_at_call 22; go_fit (cN w4 B4); rintro e w5 ⟨rfl, b5⟩; have c5 := b4.trans (b5.mono b4.size); have B5 := b3.trans (c5.mono b3.size); obtain ⟨a0, a1, a2, a3, a4⟩ := rm_cells (BA.out w5 c5); obtain ⟨n0, n1, n2, n3, n4, n5, n6, n7, n8⟩ := nine_at (BE.out w5 c5); obtain ⟨z0, z1, z2, z3, z4⟩ := rm_cells (BZ.out w5 c5); have zf : ∀ j, w5.frozen? ⟨w.heap.size + 1 + 1, j, none⟩ = false := (fun j => (by simp [World.frozen?, BZ.out w5 c5])))
        | (go_at_call 21; rw [← HW3.out]; go_fit cO; rintro e w4 ⟨rfl, b4⟩; have B4 := b3.trans (b4.mono b3.size); obtain ⟨a0, a1, a2, a3, a4⟩ := rm_cells (BA.out w4 b4); obtain ⟨n0, n1, n2, n3, n4, n5, n6, n7, n8⟩ := nine_at (BE.out w4 b4); obtain ⟨z0, z1, z2, z3, z4⟩ := rm_cells (BZ.out w4 b4); have zf : ∀ j, w4.frozen? ⟨w.heap.size + 1 + 1, j, none⟩ = false := (fun j => (by simp [World.frozen?, BZ.out w4 b4])))
      have N9 := rm_cells (roomW_heap (BZ.out w6 c6) nm nx (.slice o6 n k6) (.slice o7 z k7) sb)
      have b9 := roomW_below B6 (show w.heap.size ≤ w.heap.size + 1 + 1 by omega) nm nx (.slice o6 n k6) (.slice o7 z k7) sb
      have S5 := b4.size
      have S6 := b5.size
      have M9 := OwnL.roomW OM6 (show w.heap.size + 1 + 1 < _ by omega) nm nx (.slice o6 n k6) (.slice o7 z k7) sb
      have K9 := OwnL.roomW OK6 (show w.heap.size + 1 + 1 < _ by omega) nm nx (.slice o6 n k6) (.slice o7 z k7) sb
      obtain ⟨W9, hW9⟩ : ∃ W9, roomW w6 (w.heap.size + 1 + 1) nm nx (.slice o6 n k6) (.slice o7 z k7) sb = W9 := ⟨_, rfl⟩
      rw [hW9] at N9 b9 M9 K9
      unfold roomW at hW9
      rw [hW9]
      obtain ⟨g0, g1, g2, g3, g4⟩ := N9
      exact bodyPost_ret (v := .tuple #[roomV nm nx (.slice o6 n k6) (.slice o7 z k7) sb, .bool false]) (by simp [results, Tryz.results9, go_sem, g0, g1, g2, g3, g4]) rfl ⟨⟨_, _, rfl, .inr (.inl ⟨by first | trivial | rfl, G3.out, rfl, _, _, rfl, OwnL.mono M9 (by omega), OwnL.mono K9 (by omega), AP6⟩)⟩, b9⟩
    | true =>
      rw [g2] at cN
      have g4 := g2
      unfold nextT at g4
      rw [Bool.and_eq_true, Bool.and_eq_true, Bool.and_eq_true] at g4
      obtain ⟨g5, -, g6, g7⟩ := g4
      have hqx : q = nx := of_decide_eq_true g6
      have hkd := (ent_kind g5).1
      have hof : kd = 2 ∨ kd = 5 → ofN n U u < n ∧ firstI n (fun j => (U j).toList == u.toList) = ((ofN n U u : Nat) : Int) := by
        intro h
        have h7 : (decide (kd = 6) || decide (kd = 1)) = false := by rcases h with rfl | rfl <;> decide
        rw [h7, Bool.false_or] at g7
        exact ofN_is g7
      have cB := fun W (bb : Below w.heap.size w W) => roomBehind_any nm sb nx (.slice mo n mc) (.slice ko z kc) n U N R z KU KR r q kd u nk t i fr m W (hm.below bb) (hk.below bb) h5 h6 hA ⟨hx0, hx1⟩ (ofN n U u) hkd hof hnm hsb hs hzs hr hu hnk ht hi hfr
      have g8 : canT nm nx sb n U N R z KU KR r q kd u nk t i fr m = behT nm sb n U N R z KU KR q kd u nk t m := by unfold canT; rw [g2, Bool.true_and]
      have sS : (aftS kd sb t).size ≤ 1048600 := by unfold aftS; split <;> assumption
      have sU := aft_sizes (kd := kd) (k := ofN n U u) (fun j hj => (hs j hj).1) hu
      have sN := aft_sizes (kd := kd) (k := ofN n U u) (fun j hj => (hs j hj).2) hnk
      have sK := aftK_sizes (kd := kd) (p := lessTo KU u z) (f := foundT z KU u) (m := m) (asc_place KU u z hA).1 hzs hu
      have cA := fun W (bb : Below w.heap.size w W) (va vb : Value) (ha : MemAt W va (aftN kd n) (aftU kd n (ofN n U u) u U) (aftU kd n (ofN n U u) nk N) (aftR kd n (ofN n U u) m R)) (hb : RankAt W vb (aftZ kd z (lessTo KU u z) (foundT z KU u) m) (aftKU kd (lessTo KU u z) (foundT z KU u) u m KU) (aftKR kd (lessTo KU u z) (foundT z KU u) m KR)) => roomOk_any nm (aftS kd sb t) (nx + 1) va vb _ _ _ _ _ _ _ W (Utf8Tabs_below hT bb) ha hb (by omega) (by omega) (fun j hj => by have h1 := sU j hj; have h2 := sN j hj; omega) (fun j hj => by have h1 := sK j hj; omega)
      have g9 : roomT nm (nx + 1) (aftS kd sb t) (aftN kd n) (aftU kd n (ofN n U u) u U) (aftU kd n (ofN n U u) nk N) (aftR kd n (ofN n U u) m R) (aftZ kd z (lessTo KU u z) (foundT z KU u) m) (aftKU kd (lessTo KU u z) (foundT z KU u) u m KU) (aftKR kd (lessTo KU u z) (foundT z KU u) m KR) = behT nm sb n U N R z KU KR q kd u nk t m := by unfold behT; rw [hqx]
      rw [g9] at cA
      have hqx2 : nx + 1 = q + 1 := by rw [hqx]
      rw [hqx2] at cA cB
      obtain ⟨N2, hN2⟩ : ∃ N2, aftN kd n = N2 := ⟨_, rfl⟩
      obtain ⟨Z2, hZ2⟩ : ∃ Z2, aftZ kd z (lessTo KU u z) (foundT z KU u) m = Z2 := ⟨_, rfl⟩
      obtain ⟨SB, hSB⟩ : ∃ SB, aftS kd sb t = SB := ⟨_, rfl⟩
      obtain ⟨U2, hU2⟩ : ∃ U2, aftU kd n (ofN n U u) u U = U2 := ⟨_, rfl⟩
      obtain ⟨V2, hV2⟩ : ∃ V2, aftU kd n (ofN n U u) nk N = V2 := ⟨_, rfl⟩
      obtain ⟨R2, hR2⟩ : ∃ R2, aftR kd n (ofN n U u) m R = R2 := ⟨_, rfl⟩
      obtain ⟨K2, hK2⟩ : ∃ K2, aftKU kd (lessTo KU u z) (foundT z KU u) u m KU = K2 := ⟨_, rfl⟩
      obtain ⟨Q2, hQ2⟩ : ∃ Q2, aftKR kd (lessTo KU u z) (foundT z KU u) m KR = Q2 := ⟨_, rfl⟩
      rw [hN2, hZ2, hSB, hU2, hV2, hR2, hK2, hQ2] at cA cB ⊢
      cases g3 : behT nm sb n U N R z KU KR q kd u nk t m with
      | false =>
        rw [g3] at cA g8
        have G3 : Hid (canT nm nx sb n U N R z KU KR r q kd u nk t i fr m = false) := g8
        clear hqx hqx2 g3 g8 g9 hm hk hs hzs hT g2 g5 g6 g7 hof hkd hN2 hZ2 hSB hU2 hV2 hR2 hK2 hQ2 sS sU sN sK
        go_enter Tryz.func9, Tryz.ntmps9
        go_wp2_with first
          | (go_at_call 23; go_fit (cY w7 B7); rintro e w8 ⟨⟨v8, rfl, vm8, vk8, rfl, OM8, OK8, AP8⟩, b8⟩; have c8 := c7.trans (b8.mono c7.size); have B8 := b3.trans (c8.mono b3.size); obtain ⟨o8, k8, rfl⟩ := OwnL.shape OM8; obtain ⟨o9, k9, rfl⟩ := OwnL.shape OK8; obtain ⟨a0, a1, a2, a3, a4⟩ := rm_cells (BA.out w8 c8); obtain ⟨n0, n1, n2, n3, n4, n5, n6, n7, n8⟩ := nine_at (BE.out w8 c8); obtain ⟨z0, z1, z2, z3, z4⟩ := rm_cells (BZ.out w8 c8); have zf : ∀ j, w8.frozen? ⟨w.heap.size + 1 + 1, j, none⟩ = false := (fun j => (by simp [World.frozen?, BZ.out w8 c8])))
          | (go_at_call 21; go_fit (cA (w6.alloc (.cells #[.string nm, .int .i64 (q + 1), .slice o6 N2 k6, .slice o7 Z2 k7, .string SB] 33)) (B6.alloc B6.size _) (.slice o6 N2 k6) (.slice o7 Z2 k7) (OwnM.mem (OwnL.alloc OM6 _)) (OwnK.rank (OwnL.alloc OK6 _))); rintro e w7 ⟨rfl, b7⟩; have e7 : w7.heap[w6.heap.size]? = _ := (b7.block w6.heap.size (by simp)).trans (World.alloc_heap_new w6 (.cells #[.string nm, .int .i64 (q + 1), .slice o6 N2 k6, .slice o7 Z2 k7, .string SB] 33)); obtain ⟨y0, y1, y2, y3, y4⟩ := rm_cells e7; have c7 : Below W3.heap.size W3 w7 := (c6.alloc c6.size _).trans (b7.mono (by have := c6.size; simp; omega)); have B7 := b3.trans (c7.mono b3.size); obtain ⟨a0, a1, a2, a3, a4⟩ := rm_cells (BA.out w7 c7); obtain ⟨n0, n1, n2, n3, n4, n5, n6, n7, n8⟩ := nine_at (BE.out w7 c7); obtain ⟨z0, z1, z2, z3, z4⟩ := rm_cells (BZ.out w7 c7); have zf : ∀ j, w7.frozen? ⟨w.heap.size + 1 + 1, j, none⟩ = false := (fun j => (by simp [World.frozen?, BZ.out w7 c7])))
          | (go_at_call 24; go_fit (cB w5 B5); rintro e w6 ⟨⟨v6, rfl, vm6, vk6, rfl, OM6, OK6, AP6⟩, b6⟩; have c6 := c5.trans (b6.mono c5.size); have B6 := b3.trans (c6.mono b3.size); obtain ⟨o6, k6, rfl⟩ := OwnL.shape OM6; obtain ⟨o7, k7, rfl⟩ := OwnL.shape OK6; obtain ⟨a0, a1, a2, a3, a4⟩ := rm_cells (BA.out w6 c6); obtain ⟨n0, n1, n2, n3, n4, n5, n6, n7, n8⟩ := nine_at (BE.out w6 c6); obtain ⟨z0, z1, z2, z3, z4⟩ := rm_cells (BZ.out w6 c6); have zf : ∀ j, w6.frozen? ⟨w.heap.size + 1 + 1, j, none⟩ = false := (fun j => (by simp [World.frozen?, BZ.out w6 c6])))
          | (go_at_call 22; go_fit (cN w4 B4); rintro e w5 ⟨rfl, b5⟩; have c5 := b4.trans (b5.mono b4.size); have B5 := b3.trans (c5.mono b3.size); obtain ⟨a0, a1, a2, a3, a4⟩ := rm_cells (BA.out w5 c5); obtain ⟨n0, n1, n2, n3, n4, n5, n6, n7, n8⟩ := nine_at (BE.out w5 c5); obtain ⟨z0, z1, z2, z3, z4⟩ := rm_cells (BZ.out w5 c5); have zf : ∀ j, w5.frozen? ⟨w.heap.size + 1 + 1, j, none⟩ = false := (fun j => (by simp [World.frozen?, BZ.out w5 c5])))
          | (go_at_call 21; rw [← HW3.out]; go_fit cO; rintro e w4 ⟨rfl, b4⟩; have B4 := b3.trans (b4.mono b3.size); obtain ⟨a0, a1, a2, a3, a4⟩ := rm_cells (BA.out w4 b4); obtain ⟨n0, n1, n2, n3, n4, n5, n6, n7, n8⟩ := nine_at (BE.out w4 b4); obtain ⟨z0, z1, z2, z3, z4⟩ := rm_cells (BZ.out w4 b4); have zf : ∀ j, w4.frozen? ⟨w.heap.size + 1 + 1, j, none⟩ = false := (fun j => (by simp [World.frozen?, BZ.out w4 b4])))
        have N9 := rm_cells (roomW_heap (BZ.out w8 c8) nm nx (.slice o8 n k8) (.slice o9 z k9) sb)
        have b9 := roomW_below B8 (show w.heap.size ≤ w.heap.size + 1 + 1 by omega) nm nx (.slice o8 n k8) (.slice o9 z k9) sb
        have S5 := b4.size
        have S6 := b5.size
        have S7 := b6.size
        have S8 := b7.size
        simp at S8
        have M9 := OwnL.roomW OM8 (show w.heap.size + 1 + 1 < _ by omega) nm nx (.slice o8 n k8) (.slice o9 z k9) sb
        have K9 := OwnL.roomW OK8 (show w.heap.size + 1 + 1 < _ by omega) nm nx (.slice o8 n k8) (.slice o9 z k9) sb
        obtain ⟨W9, hW9⟩ : ∃ W9, roomW w8 (w.heap.size + 1 + 1) nm nx (.slice o8 n k8) (.slice o9 z k9) sb = W9 := ⟨_, rfl⟩
        rw [hW9] at N9 b9 M9 K9
        unfold roomW at hW9
        rw [hW9]
        obtain ⟨g0, g1, g2, g3, g4⟩ := N9
        exact bodyPost_ret (v := .tuple #[roomV nm nx (.slice o8 n k8) (.slice o9 z k9) sb, .bool false]) (by simp [results, Tryz.results9, go_sem, g0, g1, g2, g3, g4]) rfl ⟨⟨_, _, rfl, .inr (.inl ⟨by first | trivial | rfl, G3.out, rfl, _, _, rfl, OwnL.mono M9 (by omega), OwnL.mono K9 (by omega), AP8⟩)⟩, b9⟩
      | true =>
        rw [g3] at cA g8
        have G3 : Hid (canT nm nx sb n U N R z KU KR r q kd u nk t i fr m = true) := g8
        clear hqx hqx2 g3 g8 g9 hm hk hs hzs hT g2 g5 g6 g7 hof hkd hN2 hZ2 hSB hU2 hV2 hR2 hK2 hQ2 sS sU sN sK cY
        go_enter Tryz.func9, Tryz.ntmps9
        go_wp2_with first
          | (go_at_call 21; go_fit (cA (w6.alloc (.cells #[.string nm, .int .i64 (q + 1), .slice o6 N2 k6, .slice o7 Z2 k7, .string SB] 33)) (B6.alloc B6.size _) (.slice o6 N2 k6) (.slice o7 Z2 k7) (OwnM.mem (OwnL.alloc OM6 _)) (OwnK.rank (OwnL.alloc OK6 _))); rintro e w7 ⟨rfl, b7⟩; have e7 : w7.heap[w6.heap.size]? = _ := (b7.block w6.heap.size (by simp)).trans (World.alloc_heap_new w6 (.cells #[.string nm, .int .i64 (q + 1), .slice o6 N2 k6, .slice o7 Z2 k7, .string SB] 33)); obtain ⟨y0, y1, y2, y3, y4⟩ := rm_cells e7; have c7 : Below W3.heap.size W3 w7 := (c6.alloc c6.size _).trans (b7.mono (by have := c6.size; simp; omega)); have B7 := b3.trans (c7.mono b3.size); obtain ⟨a0, a1, a2, a3, a4⟩ := rm_cells (BA.out w7 c7); obtain ⟨n0, n1, n2, n3, n4, n5, n6, n7, n8⟩ := nine_at (BE.out w7 c7); obtain ⟨z0, z1, z2, z3, z4⟩ := rm_cells (BZ.out w7 c7); have zf : ∀ j, w7.frozen? ⟨w.heap.size + 1 + 1, j, none⟩ = false := (fun j => (by simp [World.frozen?, BZ.out w7 c7])))
          | (go_at_call 24; go_fit (cB w5 B5); rintro e w6 ⟨⟨v6, rfl, vm6, vk6, rfl, OM6, OK6, AP6⟩, b6⟩; have c6 := c5.trans (b6.mono c5.size); have B6 := b3.trans (c6.mono b3.size); obtain ⟨o6, k6, rfl⟩ := OwnL.shape OM6; obtain ⟨o7, k7, rfl⟩ := OwnL.shape OK6; obtain ⟨a0, a1, a2, a3, a4⟩ := rm_cells (BA.out w6 c6); obtain ⟨n0, n1, n2, n3, n4, n5, n6, n7, n8⟩ := nine_at (BE.out w6 c6); obtain ⟨z0, z1, z2, z3, z4⟩ := rm_cells (BZ.out w6 c6); have zf : ∀ j, w6.frozen? ⟨w.heap.size + 1 + 1, j, none⟩ = false := (fun j => (by simp [World.frozen?, BZ.out w6 c6])))
          | (go_at_call 22; go_fit (cN w4 B4); rintro e w5 ⟨rfl, b5⟩; have c5 := b4.trans (b5.mono b4.size); have B5 := b3.trans (c5.mono b3.size); obtain ⟨a0, a1, a2, a3, a4⟩ := rm_cells (BA.out w5 c5); obtain ⟨n0, n1, n2, n3, n4, n5, n6, n7, n8⟩ := nine_at (BE.out w5 c5); obtain ⟨z0, z1, z2, z3, z4⟩ := rm_cells (BZ.out w5 c5); have zf : ∀ j, w5.frozen? ⟨w.heap.size + 1 + 1, j, none⟩ = false := (fun j => (by simp [World.frozen?, BZ.out w5 c5])))
          | (go_at_call 21; rw [← HW3.out]; go_fit cO; rintro e w4 ⟨rfl, b4⟩; have B4 := b3.trans (b4.mono b3.size); obtain ⟨a0, a1, a2, a3, a4⟩ := rm_cells (BA.out w4 b4); obtain ⟨n0, n1, n2, n3, n4, n5, n6, n7, n8⟩ := nine_at (BE.out w4 b4); obtain ⟨z0, z1, z2, z3, z4⟩ := rm_cells (BZ.out w4 b4); have zf : ∀ j, w4.frozen? ⟨w.heap.size + 1 + 1, j, none⟩ = false := (fun j => (by simp [World.frozen?, BZ.out w4 b4])))
        have N9 := rm_cells (roomW_heap (BZ.out w7 c7) nm (q + 1) (.slice o6 N2 k6) (.slice o7 Z2 k7) SB)
        have b9 := roomW_below B7 (show w.heap.size ≤ w.heap.size + 1 + 1 by omega) nm (q + 1) (.slice o6 N2 k6) (.slice o7 Z2 k7) SB
        have S5 := b4.size
        have S6 := b5.size
        have S7 := b6.size
        have S8 := b7.size
        simp at S8
        have M9 := OwnL.roomW (OwnL.below (OwnL.alloc OM6 _) b7) (show w.heap.size + 1 + 1 < _ by omega) nm (q + 1) (.slice o6 N2 k6) (.slice o7 Z2 k7) SB
        have K9 := OwnL.roomW (OwnL.below (OwnL.alloc OK6 _) b7) (show w.heap.size + 1 + 1 < _ by omega) nm (q + 1) (.slice o6 N2 k6) (.slice o7 Z2 k7) SB
        obtain ⟨W9, hW9⟩ : ∃ W9, roomW w7 (w.heap.size + 1 + 1) nm (q + 1) (.slice o6 N2 k6) (.slice o7 Z2 k7) SB = W9 := ⟨_, rfl⟩
        rw [hW9] at N9 b9 M9 K9
        unfold roomW at hW9
        rw [hW9]
        obtain ⟨g0, g1, g2, g3, g4⟩ := N9
        exact bodyPost_ret (v := .tuple #[roomV nm (q + 1) (.slice o6 N2 k6) (.slice o7 Z2 k7) SB, .bool true]) (by simp [results, Tryz.results9, go_sem, g0, g1, g2, g3, g4]) rfl ⟨⟨_, _, rfl, .inr (.inr ⟨by first | trivial | rfl, G3.out, rfl, _, _, rfl, OwnL.mono M9 (by omega), OwnL.mono K9 (by omega), AP6⟩)⟩, b9⟩
end Go.Proofs.YtgjlgddglgffmaaGreatDoor.Hub
