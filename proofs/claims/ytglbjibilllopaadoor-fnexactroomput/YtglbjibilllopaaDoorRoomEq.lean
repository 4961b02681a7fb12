/-
  The law's own eqMember, eqRank, eqMemberS, eqRankS, eqRoom: of the same they answer true.
-/
import Derived.Test.YtglbjibilllopaaDoorRoomTo
namespace Go.Proofs.YtglbjibilllopaaDoor.Hub
open Go.RowKit
set_option linter.unusedVariables false

set_option maxHeartbeats 1000000 in
theorem eqMember_same (u k : ByteArray) (r : Int) (w : World) :
    Calls Tryd.prog 56 #[.agg #[.string u, .string k, .int .i64 r], .agg #[.string u, .string k, .int .i64 r]] w fun e w' => e = .returned (.bool true) ∧ Below w.heap.size w w' := by
  go_enter Tryd.func56, Tryd.ntmps56
  go_wp2
  go_ret
  exact ⟨rfl, ((Below.refl _ w).alloc (Nat.le_refl _) _).alloc (by simp) _⟩
set_option maxHeartbeats 1000000 in
theorem eqRank_same (u : ByteArray) (r : Int) (w : World) :
    Calls Tryd.prog 57 #[.agg #[.string u, .int .i64 r], .agg #[.string u, .int .i64 r]] w fun e w' => e = .returned (.bool true) ∧ Below w.heap.size w w' := by
  go_enter Tryd.func57, Tryd.ntmps57
  go_wp2
  go_ret
  exact ⟨rfl, ((Below.refl _ w).alloc (Nat.le_refl _) _).alloc (by simp) _⟩

set_option maxRecDepth 100000 in
set_option maxHeartbeats 2000000 in
theorem eqMemberS_same (v1 v2 : Value) (n : Nat) (U N : Nat → ByteArray) (R : Nat → Int) (w : World) (hm1 : MemAt w v1 n U N R) (hm2 : MemAt w v2 n U N R) :
    Calls Tryd.prog 26 #[v1, v2] w fun e w' => e = .returned (.bool true) ∧ Below w.heap.size w w' := by
  obtain ⟨o1, cap1, rfl, g1, g1', hc1⟩ := hm1
  obtain ⟨o2, cap2, rfl, g2, g2', hc2⟩ := hm2
  have s1 : cap1 ≤ 9223372036854775807 := g1'
  have s2 : cap2 ≤ 9223372036854775807 := g2'
  clear g1' g2'
  have HC1 : Hid (∀ j, j < n → ∃ b f : Nat, o1 = some ⟨b, f, none⟩ ∧ b < w.heap.size ∧ w.cell? ⟨b, f + j * 3, none⟩ = some (.string (U j)) ∧ w.cell? ⟨b, f + j * 3 + 1, none⟩ = some (.string (N j)) ∧ w.cell? ⟨b, f + j * 3 + 2, none⟩ = some (.int .i64 (R j))) := hc1
  have HC2 : Hid (∀ j, j < n → ∃ b f : Nat, o2 = some ⟨b, f, none⟩ ∧ b < w.heap.size ∧ w.cell? ⟨b, f + j * 3, none⟩ = some (.string (U j)) ∧ w.cell? ⟨b, f + j * 3 + 1, none⟩ = some (.string (N j)) ∧ w.cell? ⟨b, f + j * 3 + 2, none⟩ = some (.int .i64 (R j))) := hc2
  clear hc1 hc2
  go_enter Tryd.func26, Tryd.ntmps26
  go_wp2_with fail
  go_loopw [5] (fun i wr => ∃ k : Nat, k ≤ n ∧ i = .int .i64 k ∧ Below w.heap.size w wr) (fun i _ => n - (intOf i).toNat)
  case atStart => exact ⟨0, Nat.zero_le _, rfl, Below.refl _ _⟩
  case round =>
    obtain ⟨k, hk, rfl, bw⟩ := hrel
    by_cases hlt : k < n
    · obtain ⟨b, f, ho, hb, c0, c1, c2⟩ := HC1.out k hlt
      obtain ⟨b2, f2, ho2, hb2, e0, e1, e2⟩ := HC2.out k hlt
      subst ho ho2
      have i1 : (0 : Int) ≤ (k : Int) := by omega
      have i2 : (k : Int) < (n : Int) := by omega
      have NEW : Hid (∀ W : World, Below w.heap.size w W → W.cell? ⟨b, f + k * 3, none⟩ = some (.string (U k)) ∧ W.cell? ⟨b, f + k * 3 + 1, none⟩ = some (.string (N k)) ∧ W.cell? ⟨b, f + k * 3 + 2, none⟩ = some (.int .i64 (R k)) ∧ W.cell? ⟨b2, f2 + k * 3, none⟩ = some (.string (U k)) ∧ W.cell? ⟨b2, f2 + k * 3 + 1, none⟩ = some (.string (N k)) ∧ W.cell? ⟨b2, f2 + k * 3 + 2, none⟩ = some (.int .i64 (R k))) := fun W bb => ⟨(bb.cell (p := ⟨b, f + k * 3, none⟩) hb).trans c0, (bb.cell (p := ⟨b, f + k * 3 + 1, none⟩) hb).trans c1, (bb.cell (p := ⟨b, f + k * 3 + 2, none⟩) hb).trans c2, (bb.cell (p := ⟨b2, f2 + k * 3, none⟩) hb2).trans e0, (bb.cell (p := ⟨b2, f2 + k * 3 + 1, none⟩) hb2).trans e1, (bb.cell (p := ⟨b2, f2 + k * 3 + 2, none⟩) hb2).trans e2⟩
      clear c0 c1 c2 e0 e1 e2
      go_wp2_with fail
      refine wp_region_held_drew (S := fun W => W.cell? ⟨b, f + k * 3, none⟩ = some (.string (U k)) ∧ W.cell? ⟨b, f + k * 3 + 1, none⟩ = some (.string (N k)) ∧ W.cell? ⟨b, f + k * 3 + 2, none⟩ = some (.int .i64 (R k)) ∧ W.cell? ⟨b2, f2 + k * 3, none⟩ = some (.string (U k)) ∧ W.cell? ⟨b2, f2 + k * 3 + 1, none⟩ = some (.string (N k)) ∧ W.cell? ⟨b2, f2 + k * 3 + 2, none⟩ = some (.int .i64 (R k))) (by kernel_rfl) ?_ (fun hHeld => ?_)
      · exact NEW.out _ bw.drew
      refine wpAnyH_take (i := 0) (v := ?_) rfl (by kernel_rfl) (by kernel_rfl) (by kernel_rfl) (fun _ _ _ h => h) (Or.inl ⟨by rfl, ?takeYqeqMemberS0⟩) (by assumption) ?takeRqeqMemberS0
      case takeYqeqMemberS0 => (intro w hSw; (try dsimp only at hSw); go_simp; try (with_reducible rfl))
      simp only [Act.put, List.setIfInBounds_toArray, List.set_cons_zero, List.set_cons_succ, List.getElem_toArray, List.getElem_cons_zero]
      refine wpAnyH_take (i := 1) (v := ?_) rfl (by kernel_rfl) (by kernel_rfl) (by kernel_rfl) (fun _ _ _ h => h) (Or.inl ⟨by rfl, ?takeYqeqMemberS1⟩) (by assumption) ?takeRqeqMemberS1
      case takeYqeqMemberS1 => (intro w hSw; (try dsimp only at hSw); go_simp; try (with_reducible rfl))
      simp only [Act.put, List.setIfInBounds_toArray, List.set_cons_zero, List.set_cons_succ, List.getElem_toArray, List.getElem_cons_zero, List.getElem_cons_succ]
      refine wpAnyH_take (i := 2) (v := ?_) rfl (by kernel_rfl) (by kernel_rfl) (by kernel_rfl) (fun _ _ _ h => h) (Or.inl ⟨by rfl, ?takeYqeqMemberS2⟩) (by assumption) ?takeRqeqMemberS2
      case takeYqeqMemberS2 => (intro w hSw; (try dsimp only at hSw); go_simp; try (with_reducible rfl))
      simp only [Act.put, List.setIfInBounds_toArray, List.set_cons_zero, List.set_cons_succ, List.getElem_toArray, List.getElem_cons_zero, List.getElem_cons_succ]
      refine wpAnyH_take (i := 3) (v := ?_) rfl (by kernel_rfl) (by kernel_rfl) (by kernel_rfl) (fun _ _ _ h => h) (Or.inl ⟨by rfl, ?takeYqeqMemberS3⟩) (by assumption) ?takeRqeqMemberS3
      case takeYqeqMemberS3 => (intro w hSw; (try dsimp only at hSw); go_simp; try (with_reducible rfl))
      simp only [Act.put, List.setIfInBounds_toArray, List.set_cons_zero, List.set_cons_succ, List.getElem_toArray, List.getElem_cons_zero, List.getElem_cons_succ]
      refine wpAnyH_take (i := 4) (v := ?_) rfl (by kernel_rfl) (by kernel_rfl) (by kernel_rfl) (fun _ _ _ h => h) (Or.inl ⟨by rfl, ?takeYqeqMemberS4⟩) (by assumption) ?takeRqeqMemberS4
      case takeYqeqMemberS4 => (intro w hSw; (try dsimp only at hSw); go_simp; try (with_reducible rfl))
      simp only [Act.put, List.setIfInBounds_toArray, List.set_cons_zero, List.set_cons_succ, List.getElem_toArray, List.getElem_cons_zero, List.getElem_cons_succ]
      refine wpAnyH_take (i := 5) (v := ?_) rfl (by kernel_rfl) (by kernel_rfl) (by kernel_rfl) (fun _ _ _ h => h) (Or.inl ⟨by rfl, ?takeYqeqMemberS5⟩) (by assumption) ?takeRqeqMemberS5
      case takeYqeqMemberS5 => (intro w hSw; (try dsimp only at hSw); go_simp; try (with_reducible rfl))
      simp only [Act.put, List.setIfInBounds_toArray, List.set_cons_zero, List.set_cons_succ, List.getElem_toArray, List.getElem_cons_zero, List.getElem_cons_succ]
      refine wpAnyH_take (i := 6) (v := ?_) rfl (by kernel_rfl) (by kernel_rfl) (by kernel_rfl) (fun _ _ _ h => h) (Or.inl ⟨by rfl, ?takeYqeqMemberS6⟩) (by assumption) ?takeRqeqMemberS6
      case takeYqeqMemberS6 => (intro w hSw; (try dsimp only at hSw); go_simp; try (with_reducible rfl))
      simp only [Act.put, List.setIfInBounds_toArray, List.set_cons_zero, List.set_cons_succ, List.getElem_toArray, List.getElem_cons_zero, List.getElem_cons_succ]
      refine wpAnyH_take (i := 7) (v := ?_) rfl (by kernel_rfl) (by kernel_rfl) (by kernel_rfl) (fun _ _ _ h => h) (Or.inl ⟨by rfl, ?takeYqeqMemberS7⟩) (by assumption) ?takeRqeqMemberS7
      case takeYqeqMemberS7 => (intro w hSw; (try dsimp only at hSw); go_simp; try (with_reducible rfl))
      simp only [Act.put, List.setIfInBounds_toArray, List.set_cons_zero, List.set_cons_succ, List.getElem_toArray, List.getElem_cons_zero, List.getElem_cons_succ]
      refine wpAnyH_ready (rs := [8]) (by kernel_rfl) (by simp) ?_
      refine AllReadyH.cons rfl (fun K hK => ?_) AllReadyH.nil
      go_simp
      refine (eqMember_same (U k) (N k) (R k) _).mono ?_
      rintro e w1 ⟨rfl, b1⟩
      have bw1 : Below w.heap.size w w1 := bw.drew.trans (b1.mono bw.drew.size)
      go_wp2_with fail
      refine hK.out _ _ (NEW.out w1 bw1) (fun hHeldqeqMemberS8 => ?_)
      clear hK K
      try simp only [Act.put, List.setIfInBounds_toArray, List.set_cons_zero, List.set_cons_succ, List.getElem_toArray, List.getElem_cons_zero, List.getElem_cons_succ]
      refine wpAnyH_take (i := 9) (v := ?_) rfl (by kernel_rfl) (by kernel_rfl) (by kernel_rfl) (fun _ _ _ h => h) (Or.inl ⟨by rfl, ?takeYqeqMemberS9⟩) (by assumption) ?takeRqeqMemberS9
      case takeYqeqMemberS9 => (intro w hSw; (try dsimp only at hSw); go_simp; try (with_reducible rfl))
      simp only [Act.put, List.setIfInBounds_toArray, List.set_cons_zero, List.set_cons_succ, List.getElem_toArray, List.getElem_cons_zero, List.getElem_cons_succ]
      refine wpAnyH_done (by kernel_rfl) ?_ _
      go_wp2_with fail
      go_round
      case rel => exact ⟨k + 1, by omega, by go_num, bw1⟩
      case measure => simp [intOf]; omega
    · obtain rfl : k = n := by omega
      go_wp2_with fail
      go_ret
      exact ⟨rfl, bw⟩

set_option maxRecDepth 100000 in
set_option maxHeartbeats 2000000 in
theorem eqRankS_same (v1 v2 : Value) (n : Nat) (U : Nat → ByteArray) (R : Nat → Int) (w : World) (hm1 : RankAt w v1 n U R) (hm2 : RankAt w v2 n U R) :
    Calls Tryd.prog 27 #[v1, v2] w fun e w' => e = .returned (.bool true) ∧ Below w.heap.size w w' := by
  obtain ⟨o1, cap1, rfl, g1, g1', hc1⟩ := hm1
  obtain ⟨o2, cap2, rfl, g2, g2', hc2⟩ := hm2
  have s1 : cap1 ≤ 9223372036854775807 := g1'
  have s2 : cap2 ≤ 9223372036854775807 := g2'
  clear g1' g2'
  have HC1 : Hid (∀ j, j < n → ∃ b f : Nat, o1 = some ⟨b, f, none⟩ ∧ b < w.heap.size ∧ w.cell? ⟨b, f + j * 2, none⟩ = some (.string (U j)) ∧ w.cell? ⟨b, f + j * 2 + 1, none⟩ = some (.int .i64 (R j))) := hc1
  have HC2 : Hid (∀ j, j < n → ∃ b f : Nat, o2 = some ⟨b, f, none⟩ ∧ b < w.heap.size ∧ w.cell? ⟨b, f + j * 2, none⟩ = some (.string (U j)) ∧ w.cell? ⟨b, f + j * 2 + 1, none⟩ = some (.int .i64 (R j))) := hc2
  clear hc1 hc2
  go_enter Tryd.func27, Tryd.ntmps27
  go_wp2_with fail
  go_loopw [5] (fun i wr => ∃ k : Nat, k ≤ n ∧ i = .int .i64 k ∧ Below w.heap.size w wr) (fun i _ => n - (intOf i).toNat)
  case atStart => exact ⟨0, Nat.zero_le _, rfl, Below.refl _ _⟩
  case round =>
    obtain ⟨k, hk, rfl, bw⟩ := hrel
    by_cases hlt : k < n
    · obtain ⟨b, f, ho, hb, c0, c1⟩ := HC1.out k hlt
      obtain ⟨b2, f2, ho2, hb2, e0, e1⟩ := HC2.out k hlt
      subst ho ho2
      have i1 : (0 : Int) ≤ (k : Int) := by omega
      have i2 : (k : Int) < (n : Int) := by omega
      have NEW : Hid (∀ W : World, Below w.heap.size w W → W.cell? ⟨b, f + k * 2, none⟩ = some (.string (U k)) ∧ W.cell? ⟨b, f + k * 2 + 1, none⟩ = some (.int .i64 (R k)) ∧ W.cell? ⟨b2, f2 + k * 2, none⟩ = some (.string (U k)) ∧ W.cell? ⟨b2, f2 + k * 2 + 1, none⟩ = some (.int .i64 (R k))) := fun W bb => ⟨(bb.cell (p := ⟨b, f + k * 2, none⟩) hb).trans c0, (bb.cell (p := ⟨b, f + k * 2 + 1, none⟩) hb).trans c1, (bb.cell (p := ⟨b2, f2 + k * 2, none⟩) hb2).trans e0, (bb.cell (p := ⟨b2, f2 + k * 2 + 1, none⟩) hb2).trans e1⟩
      clear c0 c1 e0 e1
      go_wp2_with fail
      refine wp_region_held_drew (S := fun W => W.cell? ⟨b, f + k * 2, none⟩ = some (.string (U k)) ∧ W.cell? ⟨b, f + k * 2 + 1, none⟩ = some (.int .i64 (R k)) ∧ W.cell? ⟨b2, f2 + k * 2, none⟩ = some (.string (U k)) ∧ W.cell? ⟨b2, f2 + k * 2 + 1, none⟩ = some (.int .i64 (R k))) (by kernel_rfl) ?_ (fun hHeld => ?_)
      · exact NEW.out _ bw.drew
      refine wpAnyH_take (i := 0) (v := ?_) rfl (by kernel_rfl) (by kernel_rfl) (by kernel_rfl) (fun _ _ _ h => h) (Or.inl ⟨by rfl, ?takeYqeqRankS0⟩) (by assumption) ?takeRqeqRankS0
      case takeYqeqRankS0 => (intro w hSw; (try dsimp only at hSw); go_simp; try (with_reducible rfl))
      simp only [Act.put, List.setIfInBounds_toArray, List.set_cons_zero, List.set_cons_succ, List.getElem_toArray, List.getElem_cons_zero]
      refine wpAnyH_take (i := 1) (v := ?_) rfl (by kernel_rfl) (by kernel_rfl) (by kernel_rfl) (fun _ _ _ h => h) (Or.inl ⟨by rfl, ?takeYqeqRankS1⟩) (by assumption) ?takeRqeqRankS1
      case takeYqeqRankS1 => (intro w hSw; (try dsimp only at hSw); go_simp; try (with_reducible rfl))
      simp only [Act.put, List.setIfInBounds_toArray, List.set_cons_zero, List.set_cons_succ, List.getElem_toArray, List.getElem_cons_zero, List.getElem_cons_succ]
      refine wpAnyH_take (i := 2) (v := ?_) rfl (by kernel_rfl) (by kernel_rfl) (by kernel_rfl) (fun _ _ _ h => h) (Or.inl ⟨by rfl, ?takeYqeqRankS2⟩) (by assumption) ?takeRqeqRankS2
      case takeYqeqRankS2 => (intro w hSw; (try dsimp only at hSw); go_simp; try (with_reducible rfl))
      simp only [Act.put, List.setIfInBounds_toArray, List.set_cons_zero, List.set_cons_succ, List.getElem_toArray, List.getElem_cons_zero, List.getElem_cons_succ]
      refine wpAnyH_take (i := 3) (v := ?_) rfl (by kernel_rfl) (by kernel_rfl) (by kernel_rfl) (fun _ _ _ h => h) (Or.inl ⟨by rfl, ?takeYqeqRankS3⟩) (by assumption) ?takeRqeqRankS3
      case takeYqeqRankS3 => (intro w hSw; (try dsimp only at hSw); go_simp; try (with_reducible rfl))
      simp only [Act.put, List.setIfInBounds_toArray, List.set_cons_zero, List.set_cons_succ, List.getElem_toArray, List.getElem_cons_zero, List.getElem_cons_succ]
      refine wpAnyH_take (i := 4) (v := ?_) rfl (by kernel_rfl) (by kernel_rfl) (by kernel_rfl) (fun _ _ _ h => h) (Or.inl ⟨by rfl, ?takeYqeqRankS4⟩) (by assumption) ?takeRqeqRankS4
      case takeYqeqRankS4 => (intro w hSw; (try dsimp only at hSw); go_simp; try (with_reducible rfl))
      simp only [Act.put, List.setIfInBounds_toArray, List.set_cons_zero, List.set_cons_succ, List.getElem_toArray, List.getElem_cons_zero, List.getElem_cons_succ]
      refine wpAnyH_take (i := 5) (v := ?_) rfl (by kernel_rfl) (by kernel_rfl) (by kernel_rfl) (fun _ _ _ h => h) (Or.inl ⟨by rfl, ?takeYqeqRankS5⟩) (by assumption) ?takeRqeqRankS5
      case takeYqeqRankS5 => (intro w hSw; (try dsimp only at hSw); go_simp; try (with_reducible rfl))
      simp only [Act.put, List.setIfInBounds_toArray, List.set_cons_zero, List.set_cons_succ, List.getElem_toArray, List.getElem_cons_zero, List.getElem_cons_succ]
      refine wpAnyH_take (i := 6) (v := ?_) rfl (by kernel_rfl) (by kernel_rfl) (by kernel_rfl) (fun _ _ _ h => h) (Or.inl ⟨by rfl, ?takeYqeqRankS6⟩) (by assumption) ?takeRqeqRankS6
      case takeYqeqRankS6 => (intro w hSw; (try dsimp only at hSw); go_simp; try (with_reducible rfl))
      simp only [Act.put, List.setIfInBounds_toArray, List.set_cons_zero, List.set_cons_succ, List.getElem_toArray, List.getElem_cons_zero, List.getElem_cons_succ]
      refine wpAnyH_take (i := 7) (v := ?_) rfl (by kernel_rfl) (by kernel_rfl) (by kernel_rfl) (fun _ _ _ h => h) (Or.inl ⟨by rfl, ?takeYqeqRankS7⟩) (by assumption) ?takeRqeqRankS7
      case takeYqeqRankS7 => (intro w hSw; (try dsimp only at hSw); go_simp; try (with_reducible rfl))
      simp only [Act.put, List.setIfInBounds_toArray, List.set_cons_zero, List.set_cons_succ, List.getElem_toArray, List.getElem_cons_zero, List.getElem_cons_succ]
      refine wpAnyH_ready (rs := [8]) (by kernel_rfl) (by simp) ?_
      refine AllReadyH.cons rfl (fun K hK => ?_) AllReadyH.nil
      go_simp
      refine (eqRank_same (U k) (R k) _).mono ?_
      rintro e w1 ⟨rfl, b1⟩
      have bw1 : Below w.heap.size w w1 := bw.drew.trans (b1.mono bw.drew.size)
      go_wp2_with fail
      refine hK.out _ _ (NEW.out w1 bw1) (fun hHeldqeqRankS8 => ?_)
      clear hK K
      try simp only [Act.put, List.setIfInBounds_toArray, List.set_cons_zero, List.set_cons_succ, List.getElem_toArray, List.getElem_cons_zero, List.getElem_cons_succ]
      refine wpAnyH_take (i := 9) (v := ?_) rfl (by kernel_rfl) (by kernel_rfl) (by kernel_rfl) (fun _ _ _ h => h) (Or.inl ⟨by rfl, ?takeYqeqRankS9⟩) (by assumption) ?takeRqeqRankS9
      case takeYqeqRankS9 => (intro w hSw; (try dsimp only at hSw); go_simp; try (with_reducible rfl))
      simp only [Act.put, List.setIfInBounds_toArray, List.set_cons_zero, List.set_cons_succ, List.getElem_toArray, List.getElem_cons_zero, List.getElem_cons_succ]
      refine wpAnyH_done (by kernel_rfl) ?_ _
      go_wp2_with fail
      go_round
      case rel => exact ⟨k + 1, by omega, by go_num, bw1⟩
      case measure => simp [intOf]; omega
    · obtain rfl : k = n := by omega
      go_wp2_with fail
      go_ret
      exact ⟨rfl, bw⟩

set_option maxRecDepth 100000 in
set_option maxHeartbeats 2000000 in
theorem eqRoom_same (nm sb : ByteArray) (nx : Int) (vm vk vm2 vk2 : Value) (n : Nat) (U N : Nat → ByteArray) (R : Nat → Int) (z : Nat) (KU : Nat → ByteArray) (KR : Nat → Int) (w : World) (hm : MemAt w vm n U N R) (hk : RankAt w vk z KU KR) (hm2 : MemAt w vm2 n U N R) (hk2 : RankAt w vk2 z KU KR) :
    Calls Tryd.prog 9 #[roomV nm nx vm vk sb, roomV nm nx vm2 vk2 sb] w fun e w' => e = .returned (.bool true) ∧ Below w.heap.size w w' := by
  obtain ⟨W0, hW0⟩ : ∃ W0, W0 = (w.alloc (.cells #[.string nm, .int .i64 nx, vm, vk, .string sb] 31)).alloc (.cells #[.string nm, .int .i64 nx, vm2, vk2, .string sb] 31) := ⟨_, rfl⟩
  have b0 : Below w.heap.size w W0 := by rw [hW0]; exact ((Below.refl _ w).alloc (Nat.le_refl _) _).alloc (by simp) _
  have s0 : W0.heap.size = w.heap.size + 2 := by rw [hW0]; simp
  have a0 : W0.heap[w.heap.size]? = some (.cells #[.string nm, .int .i64 nx, vm, vk, .string sb] 31 (0, 0)) := by
    rw [hW0, Below.heap_alloc _ _ _ (by simp)]; exact World.alloc_heap_new w _
  have a1 : W0.heap[w.heap.size + 1]? = some (.cells #[.string nm, .int .i64 nx, vm2, vk2, .string sb] 31 (0, 0)) := by
    rw [hW0]
    have := World.alloc_heap_new (w.alloc (.cells #[.string nm, .int .i64 nx, vm, vk, .string sb] 31)) (.cells #[.string nm, .int .i64 nx, vm2, vk2, .string sb] 31)
    simpa using this
  have hm0 := hm.below b0
  have hk0 := hk.below b0
  have hm20 := hm2.below b0
  have hk20 := hk2.below b0
  have CM := eqMemberS_same vm vm2 n U N R W0 hm0 hm20
  have CK := fun W a b => eqRankS_same vk vk2 z KU KR W a b
  have x1 : ∃ o l c, vm = .slice o l c := by obtain ⟨o, c, h, _⟩ := hm; exact ⟨o, n, c, h⟩
  have x2 : ∃ o l c, vk = .slice o l c := by obtain ⟨o, c, h, _⟩ := hk; exact ⟨o, z, c, h⟩
  have x3 : ∃ o l c, vm2 = .slice o l c := by obtain ⟨o, c, h, _⟩ := hm2; exact ⟨o, n, c, h⟩
  have x4 : ∃ o l c, vk2 = .slice o l c := by obtain ⟨o, c, h, _⟩ := hk2; exact ⟨o, z, c, h⟩
  clear hm hk hm2 hk2 hm0 hm20
  obtain ⟨_, _, _, rfl⟩ := x1
  obtain ⟨_, _, _, rfl⟩ := x2
  obtain ⟨_, _, _, rfl⟩ := x3
  obtain ⟨_, _, _, rfl⟩ := x4
  go_enter Tryd.func9, Tryd.ntmps9
  go_wp2_with fail
  rw [← hW0]
  clear hW0
  refine CM.mono ?_
  rintro e w1 ⟨rfl, b1⟩
  have e0 := (b1.block w.heap.size (by omega)).trans a0
  have e1 := (b1.block (w.heap.size + 1) (by omega)).trans a1
  have p3 := cell_of w1 _ 3 _ _ e0
  have r3 := cell_of w1 _ 3 _ _ e1
  simp only [List.getElem?_toArray, List.getElem?_cons_succ, List.getElem?_cons_zero] at p3 r3
  go_wp2_with fail
  refine (CK w1 (hk0.below b1) (hk20.below b1)).mono ?_
  rintro e w2 ⟨rfl, b2⟩
  have b12 := b1.trans (b2.mono b1.size)
  have g0 := (b12.block w.heap.size (by omega)).trans a0
  have g1 := (b12.block (w.heap.size + 1) (by omega)).trans a1
  have p4 := cell_of w2 _ 4 _ _ g0
  have r4 := cell_of w2 _ 4 _ _ g1
  simp only [List.getElem?_toArray, List.getElem?_cons_succ, List.getElem?_cons_zero] at p4 r4
  go_wp2_with fail
  go_ret
  exact ⟨rfl, b0.trans (b12.mono b0.size)⟩
end Go.Proofs.YtglbjibilllopaaDoor.Hub
