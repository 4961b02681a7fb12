/-
  impl's ranksOk and membersOk: at every list.
-/
import Derived.Test.YtglbjibilllopaaDoorRoomImpl
namespace Go.Proofs.YtglbjibilllopaaDoor.Hub
open Go.RowKit
set_option linter.unusedVariables false

set_option maxRecDepth 100000 in
set_option maxHeartbeats 4000000 in
theorem ranksOk_any (vk : Value) (n : Nat) (U : Nat → ByteArray) (R : Nat → Int) (w : World) (hm : RankAt w vk n U R) (hs : ∀ j, j < n → (U j).size ≤ 9223372036854775800) :
    Calls Tryd.prog 48 #[vk] w fun e w' => e = .returned (.bool (ranksT n U R)) ∧ Below w.heap.size w w' := by
  obtain ⟨o, cap, rfl, h1, h2', hc⟩ := hm
  have h2 : cap ≤ 9223372036854775807 := h2'
  clear h2'
  have HC : Hid (∀ j, j < n → ∃ b f : Nat, o = some ⟨b, f, none⟩ ∧ b < w.heap.size ∧ w.cell? ⟨b, f + j * 2, none⟩ = some (.string (U j)) ∧ w.cell? ⟨b, f + j * 2 + 1, none⟩ = some (.int .i64 (R j))) := hc
  clear hc
  obtain ⟨F, hF⟩ : ∃ F, ranksT n U R = F := ⟨_, rfl⟩
  have HF : Hid (ranksT n U R = F) := hF
  have HS : Hid (∀ j, j < n → (U j).size ≤ 9223372036854775800) := hs
  rw [hF]
  clear hF hs
  by_cases h6 : 6 < n
  · have h6i : (6 : Int) < (n : Int) := by omega
    have hRf : F = false := by rw [← HF.out]; unfold ranksT; rw [decide_eq_false (by omega), Bool.and_false]
    subst hRf
    clear HF HC HS
    go_enter Tryd.func48, Tryd.ntmps48
    go_wp2_with fail
    go_ret
    exact ⟨rfl, Below.refl _ _⟩
  have h6i : ¬ ((6 : Int) < (n : Int)) := by omega
  go_enter Tryd.func48, Tryd.ntmps48
  go_wp2_with fail
  go_loopw [3, 4, 10] (fun _ _ i wr => ∃ k : Nat, k ≤ n ∧ i = .int .i64 k ∧ Below w.heap.size w wr ∧ Hid (allTo (rankOne U R) k = true)) (fun _ _ i _ => n - (intOf i).toNat)
  case atStart => exact ⟨0, Nat.zero_le _, rfl, Below.refl _ _, (rfl : allTo (rankOne U R) 0 = true)⟩
  case round =>
    obtain ⟨k, hk, rfl, bw, HA⟩ := hrel
    by_cases hlt : k < n
    · obtain ⟨b, f, ho, hb, c0, c1⟩ := HC.out k hlt
      subst ho
      have c0r := (bw.cell (p := ⟨b, f + k * 2, none⟩) hb).trans c0
      have c1r := (bw.cell (p := ⟨b, f + k * 2 + 1, none⟩) hb).trans c1
      have i1 : (0 : Int) ≤ (k : Int) := by omega
      have i2 : (k : Int) < (n : Int) := by omega
      go_wp2_with fail
      obtain ⟨W2, hW2⟩ : ∃ W2, W2 = wr.alloc (.cells #[.string (U k), .int .i64 (R k)] 58) := ⟨_, rfl⟩
      obtain ⟨M, hM⟩ : ∃ M, M = wr.heap.size := ⟨_, rfl⟩
      have b2 : Below wr.heap.size wr W2 := by rw [hW2]; exact below_alloc wr _
      have y0 : W2.cell? ⟨M, 0, none⟩ = some (.string (U k)) := by rw [hW2, hM]; exact (room_cell wr _ _ 0).trans rfl
      have y1 : W2.cell? ⟨M, 1, none⟩ = some (.int .i64 (R k)) := by rw [hW2, hM]; exact (room_cell wr _ _ 1).trans rfl
      have bW : Below w.heap.size w W2 := bw.trans (b2.mono bw.size)
      have hU := fun W => isUser_any (U k) W (HS.out k hlt)
      have hI := fun W => isBetween_any (R k) 0 4 W
      rw [← hW2, ← hM]
      clear hW2 hM b2 c0r c1r c0 c1
      cases ht : userT (U k)
      · rw [ht] at hU
        have hRf : F = false := by rw [← HF.out]; unfold ranksT; rw [allTo_false (rankOne U R) n k hlt (by unfold rankOne; rw [ht, Bool.false_and]), Bool.false_and]
        subst hRf
        clear HA HF HC HS
        clear ht
        go_wp2_with (first | (go_at_call 45; go_fit (hU _); rintro e W2 ⟨rfl, rfl⟩))
        go_ret
        exact ⟨rfl, bW⟩
      · rw [ht] at hU
        cases hq : inI (R k) 0 4
        · rw [hq] at hI
          have hRf : F = false := by rw [← HF.out]; unfold ranksT; rw [allTo_false (rankOne U R) n k hlt (by unfold rankOne; rw [ht, hq, Bool.true_and, Bool.false_and]), Bool.false_and]
          subst hRf
          clear HA HF HC HS
          clear ht hq
          go_wp2_with (first | (go_at_call 45; go_fit (hU _); rintro e W2 ⟨rfl, rfl⟩) | (go_at_call 46; go_fit (hI _); rintro e W2 ⟨rfl, rfl⟩))
          go_ret
          exact ⟨rfl, bW⟩
        · rw [hq] at hI
          by_cases h1r : R k = 1
          · have hx : (R k == 1) = true := by rw [h1r]; rfl
            have hRf : F = false := by rw [← HF.out]; unfold ranksT; rw [allTo_false (rankOne U R) n k hlt (by unfold rankOne; rw [ht, hq, decide_eq_false (by omega : ¬ R k ≠ 1), Bool.true_and, Bool.true_and, Bool.false_and]), Bool.false_and]
            subst hRf
            clear HA HF HC HS
            clear ht hq h1r
            go_wp2_with (first | (go_at_call 45; go_fit (hU _); rintro e W2 ⟨rfl, rfl⟩) | (go_at_call 46; go_fit (hI _); rintro e W2 ⟨rfl, rfl⟩))
            go_ret
            exact ⟨rfl, bW⟩
          · have hx : (R k == 1) = false := beq_eq_false_iff_ne.2 h1r
            by_cases hk0 : k = 0
            · have HB : Hid (allTo (rankOne U R) (k + 1) = true) := (by rw [allTo, HA.out, Bool.true_and]; unfold rankOne; rw [ht, hq, decide_eq_true h1r, decide_eq_true hk0]; rfl : allTo (rankOne U R) (k + 1) = true)
              clear HA
              have hz : ¬ ((0 : Int) < (k : Int)) := by omega
              have hzn : ¬ (0 < k) := by omega
              clear ht hq h1r hk0
              go_wp2_with (first | (go_at_call 45; go_fit (hU _); rintro e W2 ⟨rfl, rfl⟩) | (go_at_call 46; go_fit (hI _); rintro e W2 ⟨rfl, rfl⟩))
              refine wp_region_held_drew (S := fun W => W = W2.drew) (by kernel_rfl) ?_ (fun hHeld => ?_)
              · rfl
              refine wpAnyH_take (i := 0) (v := ?_) rfl (by kernel_rfl) (by kernel_rfl) (by kernel_rfl) (fun _ _ _ h => h) (Or.inl ⟨by rfl, ?takeYd0⟩) (by assumption) ?takeRd0
              case takeYd0 => (intro w hSw; subst hSw; go_simp; try (with_reducible rfl))
              simp only [Act.put, List.setIfInBounds_toArray, List.set_cons_zero, List.set_cons_succ, List.getElem_toArray, List.getElem_cons_zero]
              refine wpAnyH_take (i := 1) (v := ?_) rfl (by kernel_rfl) (by kernel_rfl) (by kernel_rfl) (fun _ _ _ h => h) (Or.inl ⟨by rfl, ?takeYd1⟩) (by assumption) ?takeRd1
              case takeYd1 => (intro w hSw; subst hSw; go_simp; try (with_reducible rfl))
              simp only [Act.put, List.setIfInBounds_toArray, List.set_cons_zero, List.set_cons_succ, List.getElem_toArray, List.getElem_cons_zero, List.getElem_cons_succ]
              refine wpAnyH_take (i := 2) (v := ?_) rfl (by kernel_rfl) (by kernel_rfl) (by kernel_rfl) (fun _ _ _ h => h) (Or.inl ⟨by rfl, ?takeYd2⟩) (by assumption) ?takeRd2
              case takeYd2 => (intro w hSw; subst hSw; go_simp; try (with_reducible rfl))
              simp only [Act.put, List.setIfInBounds_toArray, List.set_cons_zero, List.set_cons_succ, List.getElem_toArray, List.getElem_cons_zero, List.getElem_cons_succ]
              refine wpAnyH_take (i := 3) (v := undef) rfl (by kernel_rfl) (by kernel_rfl) (by kernel_rfl) (fun _ _ _ h => h) (Or.inr ⟨by rfl, rfl⟩) (by assumption) ?_
              simp only [Act.put, List.setIfInBounds_toArray, List.set_cons_zero, List.set_cons_succ, List.getElem_toArray, List.getElem_cons_zero, List.getElem_cons_succ]
              refine wpAnyH_take (i := 4) (v := undef) rfl (by kernel_rfl) (by kernel_rfl) (by kernel_rfl) (fun _ _ _ h => h) (Or.inr ⟨by rfl, rfl⟩) (by assumption) ?_
              simp only [Act.put, List.setIfInBounds_toArray, List.set_cons_zero, List.set_cons_succ, List.getElem_toArray, List.getElem_cons_zero, List.getElem_cons_succ]
              refine wpAnyH_take (i := 5) (v := undef) rfl (by kernel_rfl) (by kernel_rfl) (by kernel_rfl) (fun _ _ _ h => h) (Or.inr ⟨by rfl, rfl⟩) (by assumption) ?_
              simp only [Act.put, List.setIfInBounds_toArray, List.set_cons_zero, List.set_cons_succ, List.getElem_toArray, List.getElem_cons_zero, List.getElem_cons_succ]
              refine wpAnyH_take (i := 6) (v := undef) rfl (by kernel_rfl) (by kernel_rfl) (by kernel_rfl) (fun _ _ _ h => h) (Or.inr ⟨by rfl, rfl⟩) (by assumption) ?_
              simp only [Act.put, List.setIfInBounds_toArray, List.set_cons_zero, List.set_cons_succ, List.getElem_toArray, List.getElem_cons_zero, List.getElem_cons_succ]
              refine wpAnyH_take (i := 7) (v := undef) rfl (by kernel_rfl) (by kernel_rfl) (by kernel_rfl) (fun _ _ _ h => h) (Or.inr ⟨by rfl, rfl⟩) (by assumption) ?_
              simp only [Act.put, List.setIfInBounds_toArray, List.set_cons_zero, List.set_cons_succ, List.getElem_toArray, List.getElem_cons_zero, List.getElem_cons_succ]
              refine wpAnyH_take (i := 8) (v := undef) rfl (by kernel_rfl) (by kernel_rfl) (by kernel_rfl) (fun _ _ _ h => h) (Or.inr ⟨by rfl, rfl⟩) (by assumption) ?_
              simp only [Act.put, List.setIfInBounds_toArray, List.set_cons_zero, List.set_cons_succ, List.getElem_toArray, List.getElem_cons_zero, List.getElem_cons_succ]
              refine wpAnyH_take (i := 9) (v := undef) rfl (by kernel_rfl) (by kernel_rfl) (by kernel_rfl) (fun _ _ _ h => h) (Or.inr ⟨by rfl, rfl⟩) (by assumption) ?_
              simp only [Act.put, List.setIfInBounds_toArray, List.set_cons_zero, List.set_cons_succ, List.getElem_toArray, List.getElem_cons_zero, List.getElem_cons_succ]
              refine wpAnyH_take (i := 10) (v := undef) rfl (by kernel_rfl) (by kernel_rfl) (by kernel_rfl) (fun _ _ _ h => h) (Or.inr ⟨by rfl, rfl⟩) (by assumption) ?_
              simp only [Act.put, List.setIfInBounds_toArray, List.set_cons_zero, List.set_cons_succ, List.getElem_toArray, List.getElem_cons_zero, List.getElem_cons_succ]
              refine wpAnyH_take (i := 11) (v := undef) rfl (by kernel_rfl) (by kernel_rfl) (by kernel_rfl) (fun _ _ _ h => h) (Or.inr ⟨by rfl, rfl⟩) (by assumption) ?_
              simp only [Act.put, List.setIfInBounds_toArray, List.set_cons_zero, List.set_cons_succ, List.getElem_toArray, List.getElem_cons_zero, List.getElem_cons_succ]
              refine wpAnyH_take (i := 12) (v := ?_) rfl (by kernel_rfl) (by kernel_rfl) (by kernel_rfl) (fun _ _ _ h => h) (Or.inl ⟨by rfl, ?takeYd12⟩) (by assumption) ?takeRd12
              case takeYd12 => (intro w hSw; subst hSw; go_simp; try (with_reducible rfl))
              simp only [Act.put, List.setIfInBounds_toArray, List.set_cons_zero, List.set_cons_succ, List.getElem_toArray, List.getElem_cons_zero, List.getElem_cons_succ]
              refine wpAnyH_done (by kernel_rfl) ?_ _
              go_wp2_with fail
              go_round
              case rel => exact ⟨k + 1, by omega, by go_num, bW.drew, HB⟩
              case measure => simp [intOf]; omega
            · obtain ⟨b2, f2, ho2, hb2, d0, d1⟩ := HC.out (k - 1) (by omega)
              injection ho2 with ho2
              injection ho2 with ho3 ho4
              subst ho3 ho4
              have y4 := (bW.cell (p := ⟨b, f + (k - 1) * 2, none⟩) hb2).trans d0
              have hz : ((0 : Int) < (k : Int)) := by omega
              have hzn : 0 < k := by omega
              have hi : (k : Int) - 1 = ((k - 1 : Nat) : Int) := by omega
              have i3 : (0 : Int) ≤ ((k - 1 : Nat) : Int) := by omega
              have i4 : ((k - 1 : Nat) : Int) < (n : Int) := by omega
              have hwr : IntKind.i64.wrap ((k - 1 : Nat) : Int) = ((k - 1 : Nat) : Int) := by rw [IntKind.wrap_i64]; omega
              cases hl : Op.bytesLess (U (k - 1)).toList (U k).toList
              · have hRf : F = false := by rw [← HF.out]; unfold ranksT; rw [allTo_false (rankOne U R) n k hlt (by unfold rankOne; rw [ht, hq, hl, decide_eq_false hk0, Bool.or_self, Bool.and_false, Bool.and_false, Bool.and_false]), Bool.false_and]
                subst hRf
                clear HA HF HC HS
                clear ht hq h1r hb2 d0 d1
                go_wp2_with (first | (go_at_call 45; go_fit (hU _); rintro e W2 ⟨rfl, rfl⟩) | (go_at_call 46; go_fit (hI _); rintro e W2 ⟨rfl, rfl⟩))
                refine wp_region_held_drew (S := fun W => W = W2.drew) (by kernel_rfl) ?_ (fun hHeld => ?_)
                · rfl
                refine wpAnyH_take (i := 0) (v := ?_) rfl (by kernel_rfl) (by kernel_rfl) (by kernel_rfl) (fun _ _ _ h => h) (Or.inl ⟨by rfl, ?takeYe0⟩) (by assumption) ?takeRe0
                case takeYe0 => (intro w hSw; subst hSw; go_simp; try (with_reducible rfl))
                simp only [Act.put, List.setIfInBounds_toArray, List.set_cons_zero, List.set_cons_succ, List.getElem_toArray, List.getElem_cons_zero]
                refine wpAnyH_take (i := 1) (v := ?_) rfl (by kernel_rfl) (by kernel_rfl) (by kernel_rfl) (fun _ _ _ h => h) (Or.inl ⟨by rfl, ?takeYe1⟩) (by assumption) ?takeRe1
                case takeYe1 => (intro w hSw; subst hSw; go_simp; try (with_reducible rfl))
                simp only [Act.put, List.setIfInBounds_toArray, List.set_cons_zero, List.set_cons_succ, List.getElem_toArray, List.getElem_cons_zero, List.getElem_cons_succ]
                refine wpAnyH_take (i := 2) (v := ?_) rfl (by kernel_rfl) (by kernel_rfl) (by kernel_rfl) (fun _ _ _ h => h) (Or.inl ⟨by rfl, ?takeYe2⟩) (by assumption) ?takeRe2
                case takeYe2 => (intro w hSw; subst hSw; go_simp; try (with_reducible rfl))
                simp only [Act.put, List.setIfInBounds_toArray, List.set_cons_zero, List.set_cons_succ, List.getElem_toArray, List.getElem_cons_zero, List.getElem_cons_succ]
                refine wpAnyH_take (i := 3) (v := ?_) rfl (by kernel_rfl) (by kernel_rfl) (by kernel_rfl) (fun _ _ _ h => h) (Or.inl ⟨by rfl, ?takeYe3⟩) (by assumption) ?takeRe3
                case takeYe3 => (intro w hSw; subst hSw; go_simp; try (with_reducible rfl))
                simp only [Act.put, List.setIfInBounds_toArray, List.set_cons_zero, List.set_cons_succ, List.getElem_toArray, List.getElem_cons_zero, List.getElem_cons_succ]
                refine wpAnyH_take (i := 4) (v := ?_) rfl (by kernel_rfl) (by kernel_rfl) (by kernel_rfl) (fun _ _ _ h => h) (Or.inl ⟨by rfl, ?takeYe4⟩) (by assumption) ?takeRe4
                case takeYe4 => (intro w hSw; subst hSw; go_simp; try (with_reducible rfl))
                simp only [Act.put, List.setIfInBounds_toArray, List.set_cons_zero, List.set_cons_succ, List.getElem_toArray, List.getElem_cons_zero, List.getElem_cons_succ]
                refine wpAnyH_take (i := 5) (v := ?_) rfl (by kernel_rfl) (by kernel_rfl) (by kernel_rfl) (fun _ _ _ h => h) (Or.inl ⟨by rfl, ?takeYe5⟩) (by assumption) ?takeRe5
                case takeYe5 => (intro w hSw; subst hSw; go_simp; try (with_reducible rfl))
                simp only [Act.put, List.setIfInBounds_toArray, List.set_cons_zero, List.set_cons_succ, List.getElem_toArray, List.getElem_cons_zero, List.getElem_cons_succ]
                refine wpAnyH_take (i := 6) (v := ?_) rfl (by kernel_rfl) (by kernel_rfl) (by kernel_rfl) (fun _ _ _ h => h) (Or.inl ⟨by rfl, ?takeYe6⟩) (by assumption) ?takeRe6
                case takeYe6 => (intro w hSw; subst hSw; go_simp; try (with_reducible rfl))
                simp only [Act.put, List.setIfInBounds_toArray, List.set_cons_zero, List.set_cons_succ, List.getElem_toArray, List.getElem_cons_zero, List.getElem_cons_succ]
                refine wpAnyH_take (i := 7) (v := ?_) rfl (by kernel_rfl) (by kernel_rfl) (by kernel_rfl) (fun _ _ _ h => h) (Or.inl ⟨by rfl, ?takeYe7⟩) (by assumption) ?takeRe7
                case takeYe7 => (intro w hSw; subst hSw; go_simp; try (with_reducible rfl))
                simp only [Act.put, List.setIfInBounds_toArray, List.set_cons_zero, List.set_cons_succ, List.getElem_toArray, List.getElem_cons_zero, List.getElem_cons_succ]
                refine wpAnyH_take (i := 8) (v := ?_) rfl (by kernel_rfl) (by kernel_rfl) (by kernel_rfl) (fun _ _ _ h => h) (Or.inl ⟨by rfl, ?takeYe8⟩) (by assumption) ?takeRe8
                case takeYe8 => (intro w hSw; subst hSw; go_simp; try (with_reducible rfl))
                simp only [Act.put, List.setIfInBounds_toArray, List.set_cons_zero, List.set_cons_succ, List.getElem_toArray, List.getElem_cons_zero, List.getElem_cons_succ]
                refine wpAnyH_take (i := 9) (v := ?_) rfl (by kernel_rfl) (by kernel_rfl) (by kernel_rfl) (fun _ _ _ h => h) (Or.inl ⟨by rfl, ?takeYe9⟩) (by assumption) ?takeRe9
                case takeYe9 => (intro w hSw; subst hSw; go_simp; try (with_reducible rfl))
                simp only [Act.put, List.setIfInBounds_toArray, List.set_cons_zero, List.set_cons_succ, List.getElem_toArray, List.getElem_cons_zero, List.getElem_cons_succ]
                refine wpAnyH_take (i := 10) (v := ?_) rfl (by kernel_rfl) (by kernel_rfl) (by kernel_rfl) (fun _ _ _ h => h) (Or.inl ⟨by rfl, ?takeYe10⟩) (by assumption) ?takeRe10
                case takeYe10 => (intro w hSw; subst hSw; go_simp; try (with_reducible rfl))
                simp only [Act.put, List.setIfInBounds_toArray, List.set_cons_zero, List.set_cons_succ, List.getElem_toArray, List.getElem_cons_zero, List.getElem_cons_succ]
                refine wpAnyH_take (i := 11) (v := ?_) rfl (by kernel_rfl) (by kernel_rfl) (by kernel_rfl) (fun _ _ _ h => h) (Or.inl ⟨by rfl, ?takeYe11⟩) (by assumption) ?takeRe11
                case takeYe11 => (intro w hSw; subst hSw; go_simp; try (with_reducible rfl))
                simp only [Act.put, List.setIfInBounds_toArray, List.set_cons_zero, List.set_cons_succ, List.getElem_toArray, List.getElem_cons_zero, List.getElem_cons_succ]
                refine wpAnyH_take (i := 12) (v := ?_) rfl (by kernel_rfl) (by kernel_rfl) (by kernel_rfl) (fun _ _ _ h => h) (Or.inl ⟨by rfl, ?takeYe12⟩) (by assumption) ?takeRe12
                case takeYe12 => (intro w hSw; subst hSw; go_simp; try (with_reducible rfl))
                simp only [Act.put, List.setIfInBounds_toArray, List.set_cons_zero, List.set_cons_succ, List.getElem_toArray, List.getElem_cons_zero, List.getElem_cons_succ]
                refine wpAnyH_done (by kernel_rfl) ?_ _
                go_wp2_with fail
                go_ret
                exact ⟨rfl, bW.drew⟩
              · have HB : Hid (allTo (rankOne U R) (k + 1) = true) := (by rw [allTo, HA.out, Bool.true_and]; unfold rankOne; rw [ht, hq, hl, decide_eq_true h1r, Bool.or_true]; rfl : allTo (rankOne U R) (k + 1) = true)
                clear HA
                clear ht hq h1r hb2 d0 d1
                go_wp2_with (first | (go_at_call 45; go_fit (hU _); rintro e W2 ⟨rfl, rfl⟩) | (go_at_call 46; go_fit (hI _); rintro e W2 ⟨rfl, rfl⟩))
                refine wp_region_held_drew (S := fun W => W = W2.drew) (by kernel_rfl) ?_ (fun hHeld => ?_)
                · rfl
                refine wpAnyH_take (i := 0) (v := ?_) rfl (by kernel_rfl) (by kernel_rfl) (by kernel_rfl) (fun _ _ _ h => h) (Or.inl ⟨by rfl, ?takeYf0⟩) (by assumption) ?takeRf0
                case takeYf0 => (intro w hSw; subst hSw; go_simp; try (with_reducible rfl))
                simp only [Act.put, List.setIfInBounds_toArray, List.set_cons_zero, List.set_cons_succ, List.getElem_toArray, List.getElem_cons_zero]
                refine wpAnyH_take (i := 1) (v := ?_) rfl (by kernel_rfl) (by kernel_rfl) (by kernel_rfl) (fun _ _ _ h => h) (Or.inl ⟨by rfl, ?takeYf1⟩) (by assumption) ?takeRf1
                case takeYf1 => (intro w hSw; subst hSw; go_simp; try (with_reducible rfl))
                simp only [Act.put, List.setIfInBounds_toArray, List.set_cons_zero, List.set_cons_succ, List.getElem_toArray, List.getElem_cons_zero, List.getElem_cons_succ]
                refine wpAnyH_take (i := 2) (v := ?_) rfl (by kernel_rfl) (by kernel_rfl) (by kernel_rfl) (fun _ _ _ h => h) (Or.inl ⟨by rfl, ?takeYf2⟩) (by assumption) ?takeRf2
                case takeYf2 => (intro w hSw; subst hSw; go_simp; try (with_reducible rfl))
                simp only [Act.put, List.setIfInBounds_toArray, List.set_cons_zero, List.set_cons_succ, List.getElem_toArray, List.getElem_cons_zero, List.getElem_cons_succ]
                refine wpAnyH_take (i := 3) (v := ?_) rfl (by kernel_rfl) (by kernel_rfl) (by kernel_rfl) (fun _ _ _ h => h) (Or.inl ⟨by rfl, ?takeYf3⟩) (by assumption) ?takeRf3
                case takeYf3 => (intro w hSw; subst hSw; go_simp; try (with_reducible rfl))
                simp only [Act.put, List.setIfInBounds_toArray, List.set_cons_zero, List.set_cons_succ, List.getElem_toArray, List.getElem_cons_zero, List.getElem_cons_succ]
                refine wpAnyH_take (i := 4) (v := ?_) rfl (by kernel_rfl) (by kernel_rfl) (by kernel_rfl) (fun _ _ _ h => h) (Or.inl ⟨by rfl, ?takeYf4⟩) (by assumption) ?takeRf4
                case takeYf4 => (intro w hSw; subst hSw; go_simp; try (with_reducible rfl))
                simp only [Act.put, List.setIfInBounds_toArray, List.set_cons_zero, List.set_cons_succ, List.getElem_toArray, List.getElem_cons_zero, List.getElem_cons_succ]
                refine wpAnyH_take (i := 5) (v := ?_) rfl (by kernel_rfl) (by kernel_rfl) (by kernel_rfl) (fun _ _ _ h => h) (Or.inl ⟨by rfl, ?takeYf5⟩) (by assumption) ?takeRf5
                case takeYf5 => (intro w hSw; subst hSw; go_simp; try (with_reducible rfl))
                simp only [Act.put, List.setIfInBounds_toArray, List.set_cons_zero, List.set_cons_succ, List.getElem_toArray, List.getElem_cons_zero, List.getElem_cons_succ]
                refine wpAnyH_take (i := 6) (v := ?_) rfl (by kernel_rfl) (by kernel_rfl) (by kernel_rfl) (fun _ _ _ h => h) (Or.inl ⟨by rfl, ?takeYf6⟩) (by assumption) ?takeRf6
                case takeYf6 => (intro w hSw; subst hSw; go_simp; try (with_reducible rfl))
                simp only [Act.put, List.setIfInBounds_toArray, List.set_cons_zero, List.set_cons_succ, List.getElem_toArray, List.getElem_cons_zero, List.getElem_cons_succ]
                refine wpAnyH_take (i := 7) (v := ?_) rfl (by kernel_rfl) (by kernel_rfl) (by kernel_rfl) (fun _ _ _ h => h) (Or.inl ⟨by rfl, ?takeYf7⟩) (by assumption) ?takeRf7
                case takeYf7 => (intro w hSw; subst hSw; go_simp; try (with_reducible rfl))
                simp only [Act.put, List.setIfInBounds_toArray, List.set_cons_zero, List.set_cons_succ, List.getElem_toArray, List.getElem_cons_zero, List.getElem_cons_succ]
                refine wpAnyH_take (i := 8) (v := ?_) rfl (by kernel_rfl) (by kernel_rfl) (by kernel_rfl) (fun _ _ _ h => h) (Or.inl ⟨by rfl, ?takeYf8⟩) (by assumption) ?takeRf8
                case takeYf8 => (intro w hSw; subst hSw; go_simp; try (with_reducible rfl))
                simp only [Act.put, List.setIfInBounds_toArray, List.set_cons_zero, List.set_cons_succ, List.getElem_toArray, List.getElem_cons_zero, List.getElem_cons_succ]
                refine wpAnyH_take (i := 9) (v := ?_) rfl (by kernel_rfl) (by kernel_rfl) (by kernel_rfl) (fun _ _ _ h => h) (Or.inl ⟨by rfl, ?takeYf9⟩) (by assumption) ?takeRf9
                case takeYf9 => (intro w hSw; subst hSw; go_simp; try (with_reducible rfl))
                simp only [Act.put, List.setIfInBounds_toArray, List.set_cons_zero, List.set_cons_succ, List.getElem_toArray, List.getElem_cons_zero, List.getElem_cons_succ]
                refine wpAnyH_take (i := 10) (v := ?_) rfl (by kernel_rfl) (by kernel_rfl) (by kernel_rfl) (fun _ _ _ h => h) (Or.inl ⟨by rfl, ?takeYf10⟩) (by assumption) ?takeRf10
                case takeYf10 => (intro w hSw; subst hSw; go_simp; try (with_reducible rfl))
                simp only [Act.put, List.setIfInBounds_toArray, List.set_cons_zero, List.set_cons_succ, List.getElem_toArray, List.getElem_cons_zero, List.getElem_cons_succ]
                refine wpAnyH_take (i := 11) (v := ?_) rfl (by kernel_rfl) (by kernel_rfl) (by kernel_rfl) (fun _ _ _ h => h) (Or.inl ⟨by rfl, ?takeYf11⟩) (by assumption) ?takeRf11
                case takeYf11 => (intro w hSw; subst hSw; go_simp; try (with_reducible rfl))
                simp only [Act.put, List.setIfInBounds_toArray, List.set_cons_zero, List.set_cons_succ, List.getElem_toArray, List.getElem_cons_zero, List.getElem_cons_succ]
                refine wpAnyH_take (i := 12) (v := ?_) rfl (by kernel_rfl) (by kernel_rfl) (by kernel_rfl) (fun _ _ _ h => h) (Or.inl ⟨by rfl, ?takeYf12⟩) (by assumption) ?takeRf12
                case takeYf12 => (intro w hSw; subst hSw; go_simp; try (with_reducible rfl))
                simp only [Act.put, List.setIfInBounds_toArray, List.set_cons_zero, List.set_cons_succ, List.getElem_toArray, List.getElem_cons_zero, List.getElem_cons_succ]
                refine wpAnyH_done (by kernel_rfl) ?_ _
                go_wp2_with fail
                go_round
                case rel => exact ⟨k + 1, by omega, by go_num, bW.drew, HB⟩
                case measure => simp [intOf]; omega
    · obtain rfl : k = n := by omega
      have hR2 : F = true := by
        rw [← HF.out]; unfold ranksT; rw [HA.out, Bool.true_and]
        exact decide_eq_true (by omega)
      clear HA HF HC HS
      subst hR2
      go_wp2_with fail
      go_ret
      exact ⟨rfl, bw⟩

/-- What each member must be, in the program's words: none ahead has the user or the nick. -/
def memOne2 (U N : Nat → ByteArray) (R : Nat → Int) (j : Nat) : Bool :=
  userT (U j) && (nickT (N j) && (inI (R j) 1 3 && (decide (firstI j (fun x => (U x).toList == (U j).toList) < 0) && decide (firstI j (fun x => (N x).toList == (N j).toList) < 0))))
def memsT2 (n : Nat) (U N : Nat → ByteArray) (R : Nat → Int) : Bool := allTo (memOne2 U N R) n && decide (n ≤ 5)
theorem MemAt.front {W : World} {o : Option Addr} {n k cap : Nat} {U N : Nat → ByteArray} {R : Nat → Int} (h : MemAt W (.slice o n cap) n U N R) (hk : k ≤ n) : MemAt W (.slice o k cap) k U N R := by
  obtain ⟨o', cap', hv, h1, h2, hc⟩ := h
  injection hv with hv1 hv2 hv3
  subst hv1 hv3
  exact ⟨o, cap, rfl, by omega, h2, fun j hj => hc j (by omega)⟩

set_option maxRecDepth 100000 in
set_option maxHeartbeats 8000000 in
theorem membersOk_any (vm : Value) (n : Nat) (U N : Nat → ByteArray) (R : Nat → Int) (w : World) (hT : Tabs w) (hm : MemAt w vm n U N R) (hs : ∀ j, j < n → (U j).size ≤ 9223372036854775800 ∧ (N j).size ≤ 9223372036854775800) :
    Calls Tryd.prog 49 #[vm] w fun e w' => e = .returned (.bool (memsT2 n U N R)) ∧ Below w.heap.size w w' := by
  have hm9 := hm
  obtain ⟨o, cap, rfl, h1, h2', hc⟩ := hm
  have h2 : cap ≤ 9223372036854775807 := h2'
  clear h2'
  have HC : Hid (∀ j, j < n → ∃ b f : Nat, o = some ⟨b, f, none⟩ ∧ b < w.heap.size ∧ w.cell? ⟨b, f + j * 3, none⟩ = some (.string (U j)) ∧ w.cell? ⟨b, f + j * 3 + 1, none⟩ = some (.string (N j)) ∧ w.cell? ⟨b, f + j * 3 + 2, none⟩ = some (.int .i64 (R j))) := hc
  clear hc
  obtain ⟨F, hF⟩ : ∃ F, memsT2 n U N R = F := ⟨_, rfl⟩
  have HF : Hid (memsT2 n U N R = F) := hF
  have HS : Hid (∀ j, j < n → (U j).size ≤ 9223372036854775800 ∧ (N j).size ≤ 9223372036854775800) := hs
  rw [hF]
  clear hF hs
  by_cases h6 : 5 < n
  · have h6i : (5 : Int) < (n : Int) := by omega
    have hRf : F = false := by rw [← HF.out]; unfold memsT2; rw [decide_eq_false (by omega), Bool.and_false]
    subst hRf
    clear HF HC HS
    go_enter Tryd.func49, Tryd.ntmps49
    go_wp2_with fail
    go_ret
    exact ⟨rfl, Below.refl _ _⟩
  have h6i : ¬ ((5 : Int) < (n : Int)) := by omega
  have CU := fun u k (hk : k ≤ n) W (b : Below w.heap.size w W) => userPlace_any u o cap k U N R W ((hm9.below b).front hk)
  have CN := fun u k (hk : k ≤ n) W (b : Below w.heap.size w W) => nickPlace_any u o cap k U N R W ((hm9.below b).front hk)
  have CK := fun s (hs : s.size ≤ 9223372036854775800) W (b : Below w.heap.size w W) => isNick_any s W hs (Utf8Tabs_below hT b)
  clear hm9 hT
  go_enter Tryd.func49, Tryd.ntmps49
  go_wp2_with fail
  go_loopw [3, 4, 10] (fun _ _ i wr => ∃ k : Nat, k ≤ n ∧ i = .int .i64 k ∧ Below w.heap.size w wr ∧ Hid (allTo (memOne2 U N R) k = true)) (fun _ _ i _ => n - (intOf i).toNat)
  case atStart => exact ⟨0, Nat.zero_le _, rfl, Below.refl _ _, (rfl : allTo (memOne2 U N R) 0 = true)⟩
  case round =>
    obtain ⟨k, hk, rfl, bw, HA⟩ := hrel
    by_cases hlt : k < n
    · obtain ⟨b, f, ho, hb, c0, c1, c2⟩ := HC.out k hlt
      subst ho
      have c0r := (bw.cell (p := ⟨b, f + k * 3, none⟩) hb).trans c0
      have c1r := (bw.cell (p := ⟨b, f + k * 3 + 1, none⟩) hb).trans c1
      have c2r := (bw.cell (p := ⟨b, f + k * 3 + 2, none⟩) hb).trans c2
      have i1 : (0 : Int) ≤ (k : Int) := by omega
      have i2 : (k : Int) < (n : Int) := by omega
      have i3 : (k : Int) ≤ (cap : Int) := by omega
      have i4 : k ≤ cap := by omega
      obtain ⟨W2, hW2⟩ : ∃ W2, W2 = wr.alloc (.cells #[.string (U k), .string (N k), .int .i64 (R k)] 56) := ⟨_, rfl⟩
      obtain ⟨M, hM⟩ : ∃ M, M = wr.heap.size := ⟨_, rfl⟩
      have b2 : Below wr.heap.size wr W2 := by rw [hW2]; exact below_alloc wr _
      have bW : Below w.heap.size w W2 := bw.trans (b2.mono bw.size)
      have hM2 : M < W2.heap.size := by rw [hW2, hM]; simp
      have MC : Hid (∀ W : World, Below W2.heap.size W2 W → W.cell? ⟨M, 0, none⟩ = some (.string (U k)) ∧ W.cell? ⟨M, 1, none⟩ = some (.string (N k)) ∧ W.cell? ⟨M, 2, none⟩ = some (.int .i64 (R k))) := fun W bb => by
        have q : ∀ i, W.cell? ⟨M, i, none⟩ = (#[.string (U k), .string (N k), .int .i64 (R k)] : Array Value)[i]? := fun i => (bb.cell (p := ⟨M, i, none⟩) hM2).trans (by rw [hW2, hM]; exact room_cell wr _ _ i)
        exact ⟨q 0, q 1, q 2⟩
      have hU := fun W => isUser_any (U k) W (HS.out k hlt).1
      have hN := CK (N k) (HS.out k hlt).2
      have hI := fun W => isBetween_any (R k) 1 3 W
      have hO := CU (U k) k hk
      have hP := CN (N k) k hk
      obtain ⟨fo, hfo⟩ : ∃ fo, firstI k (fun x => (U x).toList == (U k).toList) = fo := ⟨_, rfl⟩
      obtain ⟨fn, hfn⟩ : ∃ fn, firstI k (fun x => (N x).toList == (N k).toList) = fn := ⟨_, rfl⟩
      have hone : memOne2 U N R k = (userT (U k) && (nickT (N k) && (inI (R k) 1 3 && (decide (fo < 0) && decide (fn < 0))))) := by unfold memOne2; rw [hfo, hfn]
      rw [hfo] at hO
      rw [hfn] at hP
      have HO : Hid (memOne2 U N R k = (userT (U k) && (nickT (N k) && (inI (R k) 1 3 && (decide (fo < 0) && decide (fn < 0)))))) := hone
      clear hone hfo hfn c0 c1 c2 CU CN CK
      go_wp2_with fail
      rw [← hW2, ← hM]
      clear hW2 hM b2 c0r c1r c2r
      obtain ⟨y0, y1, y2⟩ := MC.out W2 (Below.refl _ _)
      cases ht : userT (U k)
      · rw [ht] at hU
        have hRf : F = false := by rw [← HF.out]; unfold memsT2; rw [allTo_false (memOne2 U N R) n k hlt (by rw [HO.out]; rw [ht, Bool.false_and]), Bool.false_and]
        subst hRf
        clear HA HF HC HS HO
        go_wp2_with (first | (go_at_call 45; go_fit (hU _); rintro e W2 ⟨rfl, rfl⟩))
        go_ret
        exact ⟨rfl, bW⟩
      · rw [ht] at hU
        cases hn : nickT (N k)
        · rw [hn] at hN
          have hRf : F = false := by rw [← HF.out]; unfold memsT2; rw [allTo_false (memOne2 U N R) n k hlt (by rw [HO.out]; rw [ht, hn, Bool.true_and, Bool.false_and]), Bool.false_and]
          subst hRf
          clear HA HF HC HS HO
          go_wp2_with (first | (go_at_call 45; go_fit (hU _); rintro e W2 ⟨rfl, rfl⟩) | (go_at_call 74; go_fit (hN _ bW); rintro e w1 ⟨rfl, d1⟩; have t1 := bW.trans (d1.mono bW.size); clear y0 y1 y2; obtain ⟨y0, y1, y2⟩ := MC.out w1 d1))
          go_ret
          exact ⟨rfl, t1⟩
        · rw [hn] at hN
          cases hi : inI (R k) 1 3
          · rw [hi] at hI
            have hRf : F = false := by rw [← HF.out]; unfold memsT2; rw [allTo_false (memOne2 U N R) n k hlt (by rw [HO.out]; rw [ht, hn, hi, Bool.true_and, Bool.true_and, Bool.false_and]), Bool.false_and]
            subst hRf
            clear HA HF HC HS HO
            go_wp2_with (first | (go_at_call 45; go_fit (hU _); rintro e W2 ⟨rfl, rfl⟩) | (go_at_call 74; go_fit (hN _ bW); rintro e w1 ⟨rfl, d1⟩; have t1 := bW.trans (d1.mono bW.size); clear y0 y1 y2; obtain ⟨y0, y1, y2⟩ := MC.out w1 d1) | (go_at_call 46; go_fit (hI _); rintro e w1 ⟨rfl, rfl⟩))
            go_ret
            exact ⟨rfl, t1⟩
          · rw [hi] at hI
            by_cases hfo : fo < 0
            · have hfo2 : decide (0 ≤ fo) = false := decide_eq_false (by omega)
              by_cases hfn : fn < 0
              · have hfn2 : decide (0 ≤ fn) = false := decide_eq_false (by omega)
                have HB : Hid (allTo (memOne2 U N R) (k + 1) = true) := (by rw [allTo, HA.out, Bool.true_and, HO.out, ht, hn, hi, decide_eq_true hfo, decide_eq_true hfn]; rfl : allTo (memOne2 U N R) (k + 1) = true)
                clear HA HO ht hn hi hfo hfn
                go_wp2_with (first | (go_at_call 45; go_fit (hU _); rintro e W2 ⟨rfl, rfl⟩) | (go_at_call 74; go_fit (hN _ bW); rintro e w1 ⟨rfl, d1⟩; have t1 := bW.trans (d1.mono bW.size); clear y0 y1 y2; obtain ⟨y0, y1, y2⟩ := MC.out w1 d1) | (go_at_call 46; go_fit (hI _); rintro e w1 ⟨rfl, rfl⟩))
                refine wp_region_held_drew (S := fun W => W.cell? ⟨M, 0, none⟩ = some (.string (U k)) ∧ W.cell? ⟨M, 1, none⟩ = some (.string (N k)) ∧ W.cell? ⟨M, 2, none⟩ = some (.int .i64 (R k))) (by kernel_rfl) ?_ (fun hHeld => ?_)
                · exact MC.out _ d1.drew
                refine wpAnyH_take (i := 0) (v := ?_) rfl (by kernel_rfl) (by kernel_rfl) (by kernel_rfl) (fun _ _ _ h => h) (Or.inl ⟨by rfl, ?takeYh0⟩) (by assumption) ?takeRh0
                case takeYh0 => (intro w hSw; (try dsimp only at hSw); go_simp; try (with_reducible rfl))
                simp only [Act.put, List.setIfInBounds_toArray, List.set_cons_zero, List.set_cons_succ, List.getElem_toArray, List.getElem_cons_zero]
                refine wpAnyH_take (i := 1) (v := ?_) rfl (by kernel_rfl) (by kernel_rfl) (by kernel_rfl) (fun _ _ _ h => h) (Or.inl ⟨by rfl, ?takeYh1⟩) (by assumption) ?takeRh1
                case takeYh1 => (intro w hSw; (try dsimp only at hSw); go_simp; try (with_reducible rfl))
                simp only [Act.put, List.setIfInBounds_toArray, List.set_cons_zero, List.set_cons_succ, List.getElem_toArray, List.getElem_cons_zero, List.getElem_cons_succ]
                refine wpAnyH_take (i := 2) (v := ?_) rfl (by kernel_rfl) (by kernel_rfl) (by kernel_rfl) (fun _ _ _ h => h) (Or.inl ⟨by rfl, ?takeYh2⟩) (by assumption) ?takeRh2
                case takeYh2 => (intro w hSw; (try dsimp only at hSw); go_simp; try (with_reducible rfl))
                simp only [Act.put, List.setIfInBounds_toArray, List.set_cons_zero, List.set_cons_succ, List.getElem_toArray, List.getElem_cons_zero, List.getElem_cons_succ]
                refine wpAnyH_take (i := 3) (v := ?_) rfl (by kernel_rfl) (by kernel_rfl) (by kernel_rfl) (fun _ _ _ h => h) (Or.inl ⟨by rfl, ?takeYh3⟩) (by assumption) ?takeRh3
                case takeYh3 => (intro w hSw; (try dsimp only at hSw); go_simp; try (with_reducible rfl))
                simp only [Act.put, List.setIfInBounds_toArray, List.set_cons_zero, List.set_cons_succ, List.getElem_toArray, List.getElem_cons_zero, List.getElem_cons_succ]
                refine wpAnyH_take (i := 4) (v := ?_) rfl (by kernel_rfl) (by kernel_rfl) (by kernel_rfl) (fun _ _ _ h => h) (Or.inl ⟨by rfl, ?takeYh4⟩) (by assumption) ?takeRh4
                case takeYh4 => (intro w hSw; (try dsimp only at hSw); go_simp; try (with_reducible rfl))
                simp only [Act.put, List.setIfInBounds_toArray, List.set_cons_zero, List.set_cons_succ, List.getElem_toArray, List.getElem_cons_zero, List.getElem_cons_succ]
                refine wpAnyH_ready (rs := [5]) (by kernel_rfl) (by simp) ?_
                refine AllReadyH.cons rfl (fun K hK => ?_) AllReadyH.nil
                go_simp
                refine (hO _ t1.drew).mono ?_
                rintro e w2 ⟨rfl, p2⟩
                have d2 : Below W2.heap.size W2 w2 := d1.drew.trans (p2.mono d1.drew.size)
                have t2 := bW.trans (d2.mono bW.size)
                go_wp2_with fail
                refine hK.out _ _ (MC.out w2 d2) (fun hHeldh5 => ?_)
                clear hK K
                try simp only [Act.put, List.setIfInBounds_toArray, List.set_cons_zero, List.set_cons_succ, List.getElem_toArray, List.getElem_cons_zero, List.getElem_cons_succ]
                refine wpAnyH_take (i := 6) (v := ?_) rfl (by kernel_rfl) (by kernel_rfl) (by kernel_rfl) (fun _ _ _ h => h) (Or.inl ⟨by rfl, ?takeYh6⟩) (by assumption) ?takeRh6
                case takeYh6 => (intro w hSw; (try dsimp only at hSw); go_simp; try (with_reducible rfl))
                simp only [Act.put, List.setIfInBounds_toArray, List.set_cons_zero, List.set_cons_succ, List.getElem_toArray, List.getElem_cons_zero, List.getElem_cons_succ]
                refine wpAnyH_take (i := 7) (v := ?_) rfl (by kernel_rfl) (by kernel_rfl) (by kernel_rfl) (fun _ _ _ h => h) (Or.inl ⟨by rfl, ?takeYh7⟩) (by assumption) ?takeRh7
                case takeYh7 => (intro w hSw; (try dsimp only at hSw); go_simp; try (with_reducible rfl))
                simp only [Act.put, List.setIfInBounds_toArray, List.set_cons_zero, List.set_cons_succ, List.getElem_toArray, List.getElem_cons_zero, List.getElem_cons_succ]
                refine wpAnyH_take (i := 8) (v := ?_) rfl (by kernel_rfl) (by kernel_rfl) (by kernel_rfl) (fun _ _ _ h => h) (Or.inl ⟨by rfl, ?takeYh8⟩) (by assumption) ?takeRh8
                case takeYh8 => (intro w hSw; (try dsimp only at hSw); go_simp; try (with_reducible rfl))
                simp only [Act.put, List.setIfInBounds_toArray, List.set_cons_zero, List.set_cons_succ, List.getElem_toArray, List.getElem_cons_zero, List.getElem_cons_succ]
                refine wpAnyH_take (i := 9) (v := ?_) rfl (by kernel_rfl) (by kernel_rfl) (by kernel_rfl) (fun _ _ _ h => h) (Or.inl ⟨by rfl, ?takeYh9⟩) (by assumption) ?takeRh9
                case takeYh9 => (intro w hSw; (try dsimp only at hSw); go_simp; try (with_reducible rfl))
                simp only [Act.put, List.setIfInBounds_toArray, List.set_cons_zero, List.set_cons_succ, List.getElem_toArray, List.getElem_cons_zero, List.getElem_cons_succ]
                refine wpAnyH_take (i := 10) (v := ?_) rfl (by kernel_rfl) (by kernel_rfl) (by kernel_rfl) (fun _ _ _ h => h) (Or.inl ⟨by rfl, ?takeYh10⟩) (by assumption) ?takeRh10
                case takeYh10 => (intro w hSw; (try dsimp only at hSw); go_simp; try (with_reducible rfl))
                simp only [Act.put, List.setIfInBounds_toArray, List.set_cons_zero, List.set_cons_succ, List.getElem_toArray, List.getElem_cons_zero, List.getElem_cons_succ]
                refine wpAnyH_take (i := 11) (v := ?_) rfl (by kernel_rfl) (by kernel_rfl) (by kernel_rfl) (fun _ _ _ h => h) (Or.inl ⟨by rfl, ?takeYh11⟩) (by assumption) ?takeRh11
                case takeYh11 => (intro w hSw; (try dsimp only at hSw); go_simp; try (with_reducible rfl))
                simp only [Act.put, List.setIfInBounds_toArray, List.set_cons_zero, List.set_cons_succ, List.getElem_toArray, List.getElem_cons_zero, List.getElem_cons_succ]
                refine wpAnyH_take (i := 12) (v := ?_) rfl (by kernel_rfl) (by kernel_rfl) (by kernel_rfl) (fun _ _ _ h => h) (Or.inl ⟨by rfl, ?takeYh12⟩) (by assumption) ?takeRh12
                case takeYh12 => (intro w hSw; (try dsimp only at hSw); go_simp; try (with_reducible rfl))
                simp only [Act.put, List.setIfInBounds_toArray, List.set_cons_zero, List.set_cons_succ, List.getElem_toArray, List.getElem_cons_zero, List.getElem_cons_succ]
                refine wpAnyH_ready (rs := [13]) (by kernel_rfl) (by simp) ?_
                refine AllReadyH.cons rfl (fun K hK => ?_) AllReadyH.nil
                go_simp
                refine (hP _ t2).mono ?_
                rintro e w3 ⟨rfl, p3⟩
                have d3 : Below W2.heap.size W2 w3 := d2.trans (p3.mono d2.size)
                have t3 := bW.trans (d3.mono bW.size)
                go_wp2_with fail
                refine hK.out _ _ (MC.out w3 d3) (fun hHeldh13 => ?_)
                clear hK K
                try simp only [Act.put, List.setIfInBounds_toArray, List.set_cons_zero, List.set_cons_succ, List.getElem_toArray, List.getElem_cons_zero, List.getElem_cons_succ]
                refine wpAnyH_take (i := 14) (v := ?_) rfl (by kernel_rfl) (by kernel_rfl) (by kernel_rfl) (fun _ _ _ h => h) (Or.inl ⟨by rfl, ?takeYh14⟩) (by assumption) ?takeRh14
                case takeYh14 => (intro w hSw; (try dsimp only at hSw); go_simp; try (with_reducible rfl))
                simp only [Act.put, List.setIfInBounds_toArray, List.set_cons_zero, List.set_cons_succ, List.getElem_toArray, List.getElem_cons_zero, List.getElem_cons_succ]
                refine wpAnyH_take (i := 15) (v := ?_) rfl (by kernel_rfl) (by kernel_rfl) (by kernel_rfl) (fun _ _ _ h => h) (Or.inl ⟨by rfl, ?takeYh15⟩) (by assumption) ?takeRh15
                case takeYh15 => (intro w hSw; (try dsimp only at hSw); go_simp; try (with_reducible rfl))
                simp only [Act.put, List.setIfInBounds_toArray, List.set_cons_zero, List.set_cons_succ, List.getElem_toArray, List.getElem_cons_zero, List.getElem_cons_succ]
                refine wpAnyH_done (by kernel_rfl) ?_ _
                go_wp2_with fail
                go_round
                case rel => exact ⟨k + 1, by omega, by go_num, t3, HB⟩
                case measure => simp [intOf]; omega
              · have hfn2 : 0 ≤ fn := by omega
                have hRf : F = false := by rw [← HF.out]; unfold memsT2; rw [allTo_false (memOne2 U N R) n k hlt (by rw [HO.out]; rw [ht, hn, hi, decide_eq_false hfn, Bool.and_false, Bool.and_false, Bool.and_false, Bool.and_false]), Bool.false_and]
                subst hRf
                clear HA HF HC HS HO
                clear ht hn hi hfo hfn
                go_wp2_with (first | (go_at_call 45; go_fit (hU _); rintro e W2 ⟨rfl, rfl⟩) | (go_at_call 74; go_fit (hN _ bW); rintro e w1 ⟨rfl, d1⟩; have t1 := bW.trans (d1.mono bW.size); clear y0 y1 y2; obtain ⟨y0, y1, y2⟩ := MC.out w1 d1) | (go_at_call 46; go_fit (hI _); rintro e w1 ⟨rfl, rfl⟩))
                refine wp_region_held_drew (S := fun W => W.cell? ⟨M, 0, none⟩ = some (.string (U k)) ∧ W.cell? ⟨M, 1, none⟩ = some (.string (N k)) ∧ W.cell? ⟨M, 2, none⟩ = some (.int .i64 (R k))) (by kernel_rfl) ?_ (fun hHeld => ?_)
                · exact MC.out _ d1.drew
                refine wpAnyH_take (i := 0) (v := ?_) rfl (by kernel_rfl) (by kernel_rfl) (by kernel_rfl) (fun _ _ _ h => h) (Or.inl ⟨by rfl, ?takeYi0⟩) (by assumption) ?takeRi0
                case takeYi0 => (intro w hSw; (try dsimp only at hSw); go_simp; try (with_reducible rfl))
                simp only [Act.put, List.setIfInBounds_toArray, List.set_cons_zero, List.set_cons_succ, List.getElem_toArray, List.getElem_cons_zero]
                refine wpAnyH_take (i := 1) (v := ?_) rfl (by kernel_rfl) (by kernel_rfl) (by kernel_rfl) (fun _ _ _ h => h) (Or.inl ⟨by rfl, ?takeYi1⟩) (by assumption) ?takeRi1
                case takeYi1 => (intro w hSw; (try dsimp only at hSw); go_simp; try (with_reducible rfl))
                simp only [Act.put, List.setIfInBounds_toArray, List.set_cons_zero, List.set_cons_succ, List.getElem_toArray, List.getElem_cons_zero, List.getElem_cons_succ]
                refine wpAnyH_take (i := 2) (v := ?_) rfl (by kernel_rfl) (by kernel_rfl) (by kernel_rfl) (fun _ _ _ h => h) (Or.inl ⟨by rfl, ?takeYi2⟩) (by assumption) ?takeRi2
                case takeYi2 => (intro w hSw; (try dsimp only at hSw); go_simp; try (with_reducible rfl))
                simp only [Act.put, List.setIfInBounds_toArray, List.set_cons_zero, List.set_cons_succ, List.getElem_toArray, List.getElem_cons_zero, List.getElem_cons_succ]
                refine wpAnyH_take (i := 3) (v := ?_) rfl (by kernel_rfl) (by kernel_rfl) (by kernel_rfl) (fun _ _ _ h => h) (Or.inl ⟨by rfl, ?takeYi3⟩) (by assumption) ?takeRi3
                case takeYi3 => (intro w hSw; (try dsimp only at hSw); go_simp; try (with_reducible rfl))
                simp only [Act.put, List.setIfInBounds_toArray, List.set_cons_zero, List.set_cons_succ, List.getElem_toArray, List.getElem_cons_zero, List.getElem_cons_succ]
                refine wpAnyH_take (i := 4) (v := ?_) rfl (by kernel_rfl) (by kernel_rfl) (by kernel_rfl) (fun _ _ _ h => h) (Or.inl ⟨by rfl, ?takeYi4⟩) (by assumption) ?takeRi4
                case takeYi4 => (intro w hSw; (try dsimp only at hSw); go_simp; try (with_reducible rfl))
                simp only [Act.put, List.setIfInBounds_toArray, List.set_cons_zero, List.set_cons_succ, List.getElem_toArray, List.getElem_cons_zero, List.getElem_cons_succ]
                refine wpAnyH_ready (rs := [5]) (by kernel_rfl) (by simp) ?_
                refine AllReadyH.cons rfl (fun K hK => ?_) AllReadyH.nil
                go_simp
                refine (hO _ t1.drew).mono ?_
                rintro e w2 ⟨rfl, p2⟩
                have d2 : Below W2.heap.size W2 w2 := d1.drew.trans (p2.mono d1.drew.size)
                have t2 := bW.trans (d2.mono bW.size)
                go_wp2_with fail
                refine hK.out _ _ (MC.out w2 d2) (fun hHeldi5 => ?_)
                clear hK K
                try simp only [Act.put, List.setIfInBounds_toArray, List.set_cons_zero, List.set_cons_succ, List.getElem_toArray, List.getElem_cons_zero, List.getElem_cons_succ]
                refine wpAnyH_take (i := 6) (v := ?_) rfl (by kernel_rfl) (by kernel_rfl) (by kernel_rfl) (fun _ _ _ h => h) (Or.inl ⟨by rfl, ?takeYi6⟩) (by assumption) ?takeRi6
                case takeYi6 => (intro w hSw; (try dsimp only at hSw); go_simp; try (with_reducible rfl))
                simp only [Act.put, List.setIfInBounds_toArray, List.set_cons_zero, List.set_cons_succ, List.getElem_toArray, List.getElem_cons_zero, List.getElem_cons_succ]
                refine wpAnyH_take (i := 7) (v := ?_) rfl (by kernel_rfl) (by kernel_rfl) (by kernel_rfl) (fun _ _ _ h => h) (Or.inl ⟨by rfl, ?takeYi7⟩) (by assumption) ?takeRi7
                case takeYi7 => (intro w hSw; (try dsimp only at hSw); go_simp; try (with_reducible rfl))
                simp only [Act.put, List.setIfInBounds_toArray, List.set_cons_zero, List.set_cons_succ, List.getElem_toArray, List.getElem_cons_zero, List.getElem_cons_succ]
                refine wpAnyH_take (i := 8) (v := ?_) rfl (by kernel_rfl) (by kernel_rfl) (by kernel_rfl) (fun _ _ _ h => h) (Or.inl ⟨by rfl, ?takeYi8⟩) (by assumption) ?takeRi8
                case takeYi8 => (intro w hSw; (try dsimp only at hSw); go_simp; try (with_reducible rfl))
                simp only [Act.put, List.setIfInBounds_toArray, List.set_cons_zero, List.set_cons_succ, List.getElem_toArray, List.getElem_cons_zero, List.getElem_cons_succ]
                refine wpAnyH_take (i := 9) (v := ?_) rfl (by kernel_rfl) (by kernel_rfl) (by kernel_rfl) (fun _ _ _ h => h) (Or.inl ⟨by rfl, ?takeYi9⟩) (by assumption) ?takeRi9
                case takeYi9 => (intro w hSw; (try dsimp only at hSw); go_simp; try (with_reducible rfl))
                simp only [Act.put, List.setIfInBounds_toArray, List.set_cons_zero, List.set_cons_succ, List.getElem_toArray, List.getElem_cons_zero, List.getElem_cons_succ]
                refine wpAnyH_take (i := 10) (v := ?_) rfl (by kernel_rfl) (by kernel_rfl) (by kernel_rfl) (fun _ _ _ h => h) (Or.inl ⟨by rfl, ?takeYi10⟩) (by assumption) ?takeRi10
                case takeYi10 => (intro w hSw; (try dsimp only at hSw); go_simp; try (with_reducible rfl))
                simp only [Act.put, List.setIfInBounds_toArray, List.set_cons_zero, List.set_cons_succ, List.getElem_toArray, List.getElem_cons_zero, List.getElem_cons_succ]
                refine wpAnyH_take (i := 11) (v := ?_) rfl (by kernel_rfl) (by kernel_rfl) (by kernel_rfl) (fun _ _ _ h => h) (Or.inl ⟨by rfl, ?takeYi11⟩) (by assumption) ?takeRi11
                case takeYi11 => (intro w hSw; (try dsimp only at hSw); go_simp; try (with_reducible rfl))
                simp only [Act.put, List.setIfInBounds_toArray, List.set_cons_zero, List.set_cons_succ, List.getElem_toArray, List.getElem_cons_zero, List.getElem_cons_succ]
                refine wpAnyH_take (i := 12) (v := ?_) rfl (by kernel_rfl) (by kernel_rfl) (by kernel_rfl) (fun _ _ _ h => h) (Or.inl ⟨by rfl, ?takeYi12⟩) (by assumption) ?takeRi12
                case takeYi12 => (intro w hSw; (try dsimp only at hSw); go_simp; try (with_reducible rfl))
                simp only [Act.put, List.setIfInBounds_toArray, List.set_cons_zero, List.set_cons_succ, List.getElem_toArray, List.getElem_cons_zero, List.getElem_cons_succ]
                refine wpAnyH_ready (rs := [13]) (by kernel_rfl) (by simp) ?_
                refine AllReadyH.cons rfl (fun K hK => ?_) AllReadyH.nil
                go_simp
                refine (hP _ t2).mono ?_
                rintro e w3 ⟨rfl, p3⟩
                have d3 : Below W2.heap.size W2 w3 := d2.trans (p3.mono d2.size)
                have t3 := bW.trans (d3.mono bW.size)
                go_wp2_with fail
                refine hK.out _ _ (MC.out w3 d3) (fun hHeldi13 => ?_)
                clear hK K
                try simp only [Act.put, List.setIfInBounds_toArray, List.set_cons_zero, List.set_cons_succ, List.getElem_toArray, List.getElem_cons_zero, List.getElem_cons_succ]
                refine wpAnyH_take (i := 14) (v := ?_) rfl (by kernel_rfl) (by kernel_rfl) (by kernel_rfl) (fun _ _ _ h => h) (Or.inl ⟨by rfl, ?takeYi14⟩) (by assumption) ?takeRi14
                case takeYi14 => (intro w hSw; (try dsimp only at hSw); go_simp; try (with_reducible rfl))
                simp only [Act.put, List.setIfInBounds_toArray, List.set_cons_zero, List.set_cons_succ, List.getElem_toArray, List.getElem_cons_zero, List.getElem_cons_succ]
                refine wpAnyH_take (i := 15) (v := ?_) rfl (by kernel_rfl) (by kernel_rfl) (by kernel_rfl) (fun _ _ _ h => h) (Or.inl ⟨by rfl, ?takeYi15⟩) (by assumption) ?takeRi15
                case takeYi15 => (intro w hSw; (try dsimp only at hSw); go_simp; try (with_reducible rfl))
                simp only [Act.put, List.setIfInBounds_toArray, List.set_cons_zero, List.set_cons_succ, List.getElem_toArray, List.getElem_cons_zero, List.getElem_cons_succ]
                refine wpAnyH_done (by kernel_rfl) ?_ _
                go_wp2_with fail
                go_ret
                exact ⟨rfl, t3⟩
            · have hfo2 : 0 ≤ fo := by omega
              have hRf : F = false := by rw [← HF.out]; unfold memsT2; rw [allTo_false (memOne2 U N R) n k hlt (by rw [HO.out]; rw [ht, hn, hi, decide_eq_false hfo, Bool.false_and, Bool.and_false, Bool.and_false, Bool.and_false]), Bool.false_and]
              subst hRf
              clear HA HF HC HS HO
              clear ht hn hi hfo
              go_wp2_with (first | (go_at_call 45; go_fit (hU _); rintro e W2 ⟨rfl, rfl⟩) | (go_at_call 74; go_fit (hN _ bW); rintro e w1 ⟨rfl, d1⟩; have t1 := bW.trans (d1.mono bW.size); clear y0 y1 y2; obtain ⟨y0, y1, y2⟩ := MC.out w1 d1) | (go_at_call 46; go_fit (hI _); rintro e w1 ⟨rfl, rfl⟩))
              refine wp_region_held_drew (S := fun W => W.cell? ⟨M, 0, none⟩ = some (.string (U k)) ∧ W.cell? ⟨M, 1, none⟩ = some (.string (N k)) ∧ W.cell? ⟨M, 2, none⟩ = some (.int .i64 (R k))) (by kernel_rfl) ?_ (fun hHeld => ?_)
              · exact MC.out _ d1.drew
              refine wpAnyH_take (i := 0) (v := ?_) rfl (by kernel_rfl) (by kernel_rfl) (by kernel_rfl) (fun _ _ _ h => h) (Or.inl ⟨by rfl, ?takeYg0⟩) (by assumption) ?takeRg0
              case takeYg0 => (intro w hSw; (try dsimp only at hSw); go_simp; try (with_reducible rfl))
              simp only [Act.put, List.setIfInBounds_toArray, List.set_cons_zero, List.set_cons_succ, List.getElem_toArray, List.getElem_cons_zero]
              refine wpAnyH_take (i := 1) (v := ?_) rfl (by kernel_rfl) (by kernel_rfl) (by kernel_rfl) (fun _ _ _ h => h) (Or.inl ⟨by rfl, ?takeYg1⟩) (by assumption) ?takeRg1
              case takeYg1 => (intro w hSw; (try dsimp only at hSw); go_simp; try (with_reducible rfl))
              simp only [Act.put, List.setIfInBounds_toArray, List.set_cons_zero, List.set_cons_succ, List.getElem_toArray, List.getElem_cons_zero, List.getElem_cons_succ]
              refine wpAnyH_take (i := 2) (v := ?_) rfl (by kernel_rfl) (by kernel_rfl) (by kernel_rfl) (fun _ _ _ h => h) (Or.inl ⟨by rfl, ?takeYg2⟩) (by assumption) ?takeRg2
              case takeYg2 => (intro w hSw; (try dsimp only at hSw); go_simp; try (with_reducible rfl))
              simp only [Act.put, List.setIfInBounds_toArray, List.set_cons_zero, List.set_cons_succ, List.getElem_toArray, List.getElem_cons_zero, List.getElem_cons_succ]
              refine wpAnyH_take (i := 3) (v := ?_) rfl (by kernel_rfl) (by kernel_rfl) (by kernel_rfl) (fun _ _ _ h => h) (Or.inl ⟨by rfl, ?takeYg3⟩) (by assumption) ?takeRg3
              case takeYg3 => (intro w hSw; (try dsimp only at hSw); go_simp; try (with_reducible rfl))
              simp only [Act.put, List.setIfInBounds_toArray, List.set_cons_zero, List.set_cons_succ, List.getElem_toArray, List.getElem_cons_zero, List.getElem_cons_succ]
              refine wpAnyH_take (i := 4) (v := ?_) rfl (by kernel_rfl) (by kernel_rfl) (by kernel_rfl) (fun _ _ _ h => h) (Or.inl ⟨by rfl, ?takeYg4⟩) (by assumption) ?takeRg4
              case takeYg4 => (intro w hSw; (try dsimp only at hSw); go_simp; try (with_reducible rfl))
              simp only [Act.put, List.setIfInBounds_toArray, List.set_cons_zero, List.set_cons_succ, List.getElem_toArray, List.getElem_cons_zero, List.getElem_cons_succ]
              refine wpAnyH_ready (rs := [5]) (by kernel_rfl) (by simp) ?_
              refine AllReadyH.cons rfl (fun K hK => ?_) AllReadyH.nil
              go_simp
              refine (hO _ t1.drew).mono ?_
              rintro e w2 ⟨rfl, p2⟩
              have d2 : Below W2.heap.size W2 w2 := d1.drew.trans (p2.mono d1.drew.size)
              have t2 := bW.trans (d2.mono bW.size)
              go_wp2_with fail
              refine hK.out _ _ (MC.out w2 d2) (fun hHeldg5 => ?_)
              clear hK K
              try simp only [Act.put, List.setIfInBounds_toArray, List.set_cons_zero, List.set_cons_succ, List.getElem_toArray, List.getElem_cons_zero, List.getElem_cons_succ]
              refine wpAnyH_take (i := 6) (v := ?_) rfl (by kernel_rfl) (by kernel_rfl) (by kernel_rfl) (fun _ _ _ h => h) (Or.inl ⟨by rfl, ?takeYg6⟩) (by assumption) ?takeRg6
              case takeYg6 => (intro w hSw; (try dsimp only at hSw); go_simp; try (with_reducible rfl))
              simp only [Act.put, List.setIfInBounds_toArray, List.set_cons_zero, List.set_cons_succ, List.getElem_toArray, List.getElem_cons_zero, List.getElem_cons_succ]
              refine wpAnyH_take (i := 7) (v := ?_) rfl (by kernel_rfl) (by kernel_rfl) (by kernel_rfl) (fun _ _ _ h => h) (Or.inl ⟨by rfl, ?takeYg7⟩) (by assumption) ?takeRg7
              case takeYg7 => (intro w hSw; (try dsimp only at hSw); go_simp; try (with_reducible rfl))
              simp only [Act.put, List.setIfInBounds_toArray, List.set_cons_zero, List.set_cons_succ, List.getElem_toArray, List.getElem_cons_zero, List.getElem_cons_succ]
              refine wpAnyH_take (i := 8) (v := undef) rfl (by kernel_rfl) (by kernel_rfl) (by kernel_rfl) (fun _ _ _ h => h) (Or.inr ⟨by rfl, rfl⟩) (by assumption) ?_
              simp only [Act.put, List.setIfInBounds_toArray, List.set_cons_zero, List.set_cons_succ, List.getElem_toArray, List.getElem_cons_zero, List.getElem_cons_succ]
              refine wpAnyH_take (i := 9) (v := undef) rfl (by kernel_rfl) (by kernel_rfl) (by kernel_rfl) (fun _ _ _ h => h) (Or.inr ⟨by rfl, rfl⟩) (by assumption) ?_
              simp only [Act.put, List.setIfInBounds_toArray, List.set_cons_zero, List.set_cons_succ, List.getElem_toArray, List.getElem_cons_zero, List.getElem_cons_succ]
              refine wpAnyH_take (i := 10) (v := undef) rfl (by kernel_rfl) (by kernel_rfl) (by kernel_rfl) (fun _ _ _ h => h) (Or.inr ⟨by rfl, rfl⟩) (by assumption) ?_
              simp only [Act.put, List.setIfInBounds_toArray, List.set_cons_zero, List.set_cons_succ, List.getElem_toArray, List.getElem_cons_zero, List.getElem_cons_succ]
              refine wpAnyH_take (i := 11) (v := undef) rfl (by kernel_rfl) (by kernel_rfl) (by kernel_rfl) (fun _ _ _ h => h) (Or.inr ⟨by rfl, rfl⟩) (by assumption) ?_
              simp only [Act.put, List.setIfInBounds_toArray, List.set_cons_zero, List.set_cons_succ, List.getElem_toArray, List.getElem_cons_zero, List.getElem_cons_succ]
              refine wpAnyH_take (i := 12) (v := undef) rfl (by kernel_rfl) (by kernel_rfl) (by kernel_rfl) (fun _ _ _ h => h) (Or.inr ⟨by rfl, rfl⟩) (by assumption) ?_
              simp only [Act.put, List.setIfInBounds_toArray, List.set_cons_zero, List.set_cons_succ, List.getElem_toArray, List.getElem_cons_zero, List.getElem_cons_succ]
              refine wpAnyH_take (i := 13) (v := undef) rfl (by kernel_rfl) (by kernel_rfl) (by kernel_rfl) (fun _ _ _ h => h) (Or.inr ⟨by rfl, rfl⟩) (by assumption) ?_
              simp only [Act.put, List.setIfInBounds_toArray, List.set_cons_zero, List.set_cons_succ, List.getElem_toArray, List.getElem_cons_zero, List.getElem_cons_succ]
              refine wpAnyH_take (i := 14) (v := undef) rfl (by kernel_rfl) (by kernel_rfl) (by kernel_rfl) (fun _ _ _ h => h) (Or.inr ⟨by rfl, rfl⟩) (by assumption) ?_
              simp only [Act.put, List.setIfInBounds_toArray, List.set_cons_zero, List.set_cons_succ, List.getElem_toArray, List.getElem_cons_zero, List.getElem_cons_succ]
              refine wpAnyH_take (i := 15) (v := ?_) rfl (by kernel_rfl) (by kernel_rfl) (by kernel_rfl) (fun _ _ _ h => h) (Or.inl ⟨by rfl, ?takeYg15⟩) (by assumption) ?takeRg15
              case takeYg15 => (intro w hSw; (try dsimp only at hSw); go_simp; try (with_reducible rfl))
              simp only [Act.put, List.setIfInBounds_toArray, List.set_cons_zero, List.set_cons_succ, List.getElem_toArray, List.getElem_cons_zero, List.getElem_cons_succ]
              refine wpAnyH_done (by kernel_rfl) ?_ _
              go_wp2_with fail
              go_ret
              exact ⟨rfl, t2⟩
    · obtain rfl : k = n := by omega
      have hR2 : F = true := by
        rw [← HF.out]; unfold memsT2; rw [HA.out, Bool.true_and]
        exact decide_eq_true (by omega)
      clear HA HF HC HS
      subst hR2
      go_wp2_with fail
      go_ret
      exact ⟨rfl, bw⟩
end Go.Proofs.YtglbjibilllopaaDoor.Hub
