/-
  A list of steps as it lies in memory; the law's own szStepS, toStepS, eqStepS.
-/
import Derived.Test.YtocpbcghkphcgaaLineBase
import Derived.Deep.RegionHeld3
namespace Go.Proofs.Ytocpbcghkphcgaa.Hub
open Go.RowKit
set_option linter.unusedVariables false

/-- A slice of so many steps, each in four cells, lies there. -/
def StepAt (W : World) (v : Value) (n : Nat) (D : Nat → Bool) (N A T : Nat → ByteArray) : Prop :=
  ∃ (o : Option Addr) (cap : Nat), v = .slice o n cap ∧ n ≤ cap ∧ cap ≤ maxLen ∧ ∀ j, j < n → ∃ b f : Nat, o = some ⟨b, f, none⟩ ∧ b < W.heap.size ∧ W.cell? ⟨b, f + j * 4, none⟩ = some (.bool (D j)) ∧ W.cell? ⟨b, f + j * 4 + 1, none⟩ = some (.string (N j)) ∧ W.cell? ⟨b, f + j * 4 + 2, none⟩ = some (.string (A j)) ∧ W.cell? ⟨b, f + j * 4 + 3, none⟩ = some (.string (T j))
theorem StepAt.below {W W' : World} {v : Value} {n : Nat} {D : Nat → Bool} {N A T : Nat → ByteArray} (h : StepAt W v n D N A T) (b : Below W.heap.size W W') : StepAt W' v n D N A T := by
  obtain ⟨o, cap, hv, h1, h2, hc⟩ := h
  refine ⟨o, cap, hv, h1, h2, fun j hj => ?_⟩
  obtain ⟨B, f, ho, hB, c0, c1, c2, c3⟩ := hc j hj
  exact ⟨B, f, ho, Nat.lt_of_lt_of_le hB b.size, (b.cell (p := ⟨B, f + j * 4, none⟩) hB).trans c0, (b.cell (p := ⟨B, f + j * 4 + 1, none⟩) hB).trans c1, (b.cell (p := ⟨B, f + j * 4 + 2, none⟩) hB).trans c2, (b.cell (p := ⟨B, f + j * 4 + 3, none⟩) hB).trans c3⟩
theorem put4 (C : Array Value) (o : Nat) (a b c d : Value) (h : o + 3 < C.size) (j : Nat) : ((((C.setIfInBounds o a).setIfInBounds (o + 1) b).setIfInBounds (o + 2) c).setIfInBounds (o + 3) d)[j]? = if j = o then some a else if j = o + 1 then some b else if j = o + 2 then some c else if j = o + 3 then some d else C[j]? := by
  rw [at_set _ _ _ _ (by simp; omega), at_set _ _ _ _ (by simp; omega), at_set _ _ _ _ (by simp; omega), at_set _ _ _ _ (by omega)]
  by_cases h0 : j = o
  · subst h0; simp
  · by_cases h1 : j = o + 1
    · subst h1; simp
    · by_cases h2 : j = o + 2
      · subst h2; simp
      · by_cases h3 : j = o + 3
        · subst h3; simp
        · rw [if_neg (by omega), if_neg (by omega), if_neg (by omega), if_neg (by omega), if_neg h0, if_neg h1, if_neg h2, if_neg h3]

set_option maxHeartbeats 1000000 in
theorem eqStep_same (d : Bool) (n a t : ByteArray) (w : World) :
    Calls Try.prog 21 #[.agg #[.bool d, .string n, .string a, .string t], .agg #[.bool d, .string n, .string a, .string t]] w fun e w' => e = .returned (.bool true) ∧ Below w.heap.size w w' := by
  have hd : (d != d) = false := bne_self_eq_false d
  go_enter Try.func21, Try.ntmps21
  go_wp2
  go_ret
  exact ⟨rfl, ((Below.refl _ w).alloc (Nat.le_refl _) _).alloc (by simp) _⟩

set_option maxRecDepth 100000 in
set_option maxHeartbeats 2000000 in
theorem eqStepS_same (v1 v2 : Value) (n : Nat) (D : Nat → Bool) (N A T : Nat → ByteArray) (w : World) (hm1 : StepAt w v1 n D N A T) (hm2 : StepAt w v2 n D N A T) :
    Calls Try.prog 8 #[v1, v2] w fun e w' => e = .returned (.bool true) ∧ Below w.heap.size w w' := by
  obtain ⟨o1, cap1, rfl, g1, g1', hc1⟩ := hm1
  obtain ⟨o2, cap2, rfl, g2, g2', hc2⟩ := hm2
  have s1 : cap1 ≤ 9223372036854775807 := g1'
  have s2 : cap2 ≤ 9223372036854775807 := g2'
  clear g1' g2'
  have HC1 : Hid (∀ j, j < n → ∃ b f : Nat, o1 = some ⟨b, f, none⟩ ∧ b < w.heap.size ∧ w.cell? ⟨b, f + j * 4, none⟩ = some (.bool (D j)) ∧ w.cell? ⟨b, f + j * 4 + 1, none⟩ = some (.string (N j)) ∧ w.cell? ⟨b, f + j * 4 + 2, none⟩ = some (.string (A j)) ∧ w.cell? ⟨b, f + j * 4 + 3, none⟩ = some (.string (T j))) := hc1
  have HC2 : Hid (∀ j, j < n → ∃ b f : Nat, o2 = some ⟨b, f, none⟩ ∧ b < w.heap.size ∧ w.cell? ⟨b, f + j * 4, none⟩ = some (.bool (D j)) ∧ w.cell? ⟨b, f + j * 4 + 1, none⟩ = some (.string (N j)) ∧ w.cell? ⟨b, f + j * 4 + 2, none⟩ = some (.string (A j)) ∧ w.cell? ⟨b, f + j * 4 + 3, none⟩ = some (.string (T j))) := hc2
  clear hc1 hc2
  go_enter Try.func8, Try.ntmps8
  go_wp2_with fail
  go_loopw [5] (fun i wr => ∃ k : Nat, k ≤ n ∧ i = .int .i64 k ∧ Below w.heap.size w wr) (fun i _ => n - (intOf i).toNat)
  case atStart => exact ⟨0, Nat.zero_le _, rfl, Below.refl _ _⟩
  case round =>
    obtain ⟨k, hk, rfl, bw⟩ := hrel
    by_cases hlt : k < n
    · obtain ⟨b, f, ho, hb, c0, c1, c2, c3⟩ := HC1.out k hlt
      obtain ⟨b2, f2, ho2, hb2, e0, e1, e2, e3⟩ := HC2.out k hlt
      subst ho ho2
      have i1 : (0 : Int) ≤ (k : Int) := by omega
      have i2 : (k : Int) < (n : Int) := by omega
      have NEW : Hid (∀ W : World, Below w.heap.size w W → (W.cell? ⟨b, f + k * 4, none⟩ = some (.bool (D k)) ∧ W.cell? ⟨b, f + k * 4 + 1, none⟩ = some (.string (N k)) ∧ W.cell? ⟨b, f + k * 4 + 2, none⟩ = some (.string (A k)) ∧ W.cell? ⟨b, f + k * 4 + 3, none⟩ = some (.string (T k))) ∧ W.cell? ⟨b2, f2 + k * 4, none⟩ = some (.bool (D k)) ∧ W.cell? ⟨b2, f2 + k * 4 + 1, none⟩ = some (.string (N k)) ∧ W.cell? ⟨b2, f2 + k * 4 + 2, none⟩ = some (.string (A k)) ∧ W.cell? ⟨b2, f2 + k * 4 + 3, none⟩ = some (.string (T k))) := fun W bb => ⟨⟨(bb.cell (p := ⟨b, f + k * 4, none⟩) hb).trans c0, (bb.cell (p := ⟨b, f + k * 4 + 1, none⟩) hb).trans c1, (bb.cell (p := ⟨b, f + k * 4 + 2, none⟩) hb).trans c2, (bb.cell (p := ⟨b, f + k * 4 + 3, none⟩) hb).trans c3⟩, (bb.cell (p := ⟨b2, f2 + k * 4, none⟩) hb2).trans e0, (bb.cell (p := ⟨b2, f2 + k * 4 + 1, none⟩) hb2).trans e1, (bb.cell (p := ⟨b2, f2 + k * 4 + 2, none⟩) hb2).trans e2, (bb.cell (p := ⟨b2, f2 + k * 4 + 3, none⟩) hb2).trans e3⟩
      clear c0 c1 c2 c3 e0 e1 e2 e3
      go_wp2_with fail
      refine wp_region_held_drew (S := fun W => (W.cell? ⟨b, f + k * 4, none⟩ = some (.bool (D k)) ∧ W.cell? ⟨b, f + k * 4 + 1, none⟩ = some (.string (N k)) ∧ W.cell? ⟨b, f + k * 4 + 2, none⟩ = some (.string (A k)) ∧ W.cell? ⟨b, f + k * 4 + 3, none⟩ = some (.string (T k))) ∧ W.cell? ⟨b2, f2 + k * 4, none⟩ = some (.bool (D k)) ∧ W.cell? ⟨b2, f2 + k * 4 + 1, none⟩ = some (.string (N k)) ∧ W.cell? ⟨b2, f2 + k * 4 + 2, none⟩ = some (.string (A k)) ∧ W.cell? ⟨b2, f2 + k * 4 + 3, none⟩ = some (.string (T k))) (by kernel_rfl) (NEW.out _ bw.drew) (fun hHeld => ?_)
      refine wpAnyH_take (i := 0) (v := ?_) rfl (by kernel_rfl) (by kernel_rfl) (by kernel_rfl) (fun _ _ _ h => h) (Or.inl ⟨by rfl, ?takeYs0⟩) (NEW.out _ bw.drew) ?takeRs0
      case takeYs0 => (intro w9 hSw; (try dsimp only at hSw); go_simp; try (with_reducible rfl))
      simp only [Act.put, List.setIfInBounds_toArray, List.set_cons_zero, List.set_cons_succ, List.getElem_toArray, List.getElem_cons_zero]
      refine wpAnyH_take (i := 1) (v := ?_) rfl (by kernel_rfl) (by kernel_rfl) (by kernel_rfl) (fun _ _ _ h => h) (Or.inl ⟨by rfl, ?takeYs1⟩) (NEW.out _ bw.drew) ?takeRs1
      case takeYs1 => (intro w9 hSw; (try dsimp only at hSw); go_simp; try (with_reducible rfl))
      simp only [Act.put, List.setIfInBounds_toArray, List.set_cons_zero, List.set_cons_succ, List.getElem_toArray, List.getElem_cons_zero, List.getElem_cons_succ]
      refine wpAnyH_take (i := 2) (v := ?_) rfl (by kernel_rfl) (by kernel_rfl) (by kernel_rfl) (fun _ _ _ h => h) (Or.inl ⟨by rfl, ?takeYs2⟩) (NEW.out _ bw.drew) ?takeRs2
      case takeYs2 => (intro w9 hSw; (try dsimp only at hSw); go_simp; try (with_reducible rfl))
      simp only [Act.put, List.setIfInBounds_toArray, List.set_cons_zero, List.set_cons_succ, List.getElem_toArray, List.getElem_cons_zero, List.getElem_cons_succ]
      refine wpAnyH_take (i := 3) (v := ?_) rfl (by kernel_rfl) (by kernel_rfl) (by kernel_rfl) (fun _ _ _ h => h) (Or.inl ⟨by rfl, ?takeYs3⟩) (NEW.out _ bw.drew) ?takeRs3
      case takeYs3 => (intro w9 hSw; (try dsimp only at hSw); go_simp; try (with_reducible rfl))
      simp only [Act.put, List.setIfInBounds_toArray, List.set_cons_zero, List.set_cons_succ, List.getElem_toArray, List.getElem_cons_zero, List.getElem_cons_succ]
      refine wpAnyH_take (i := 4) (v := ?_) rfl (by kernel_rfl) (by kernel_rfl) (by kernel_rfl) (fun _ _ _ h => h) (Or.inl ⟨by rfl, ?takeYs4⟩) (NEW.out _ bw.drew) ?takeRs4
      case takeYs4 => (intro w9 hSw; (try dsimp only at hSw); go_simp; try (with_reducible rfl))
      simp only [Act.put, List.setIfInBounds_toArray, List.set_cons_zero, List.set_cons_succ, List.getElem_toArray, List.getElem_cons_zero, List.getElem_cons_succ]
      refine wpAnyH_take (i := 5) (v := ?_) rfl (by kernel_rfl) (by kernel_rfl) (by kernel_rfl) (fun _ _ _ h => h) (Or.inl ⟨by rfl, ?takeYs5⟩) (NEW.out _ bw.drew) ?takeRs5
      case takeYs5 => (intro w9 hSw; (try dsimp only at hSw); go_simp; try (with_reducible rfl))
      simp only [Act.put, List.setIfInBounds_toArray, List.set_cons_zero, List.set_cons_succ, List.getElem_toArray, List.getElem_cons_zero, List.getElem_cons_succ]
      refine wpAnyH_take (i := 6) (v := ?_) rfl (by kernel_rfl) (by kernel_rfl) (by kernel_rfl) (fun _ _ _ h => h) (Or.inl ⟨by rfl, ?takeYs6⟩) (NEW.out _ bw.drew) ?takeRs6
      case takeYs6 => (intro w9 hSw; (try dsimp only at hSw); go_simp; try (with_reducible rfl))
      simp only [Act.put, List.setIfInBounds_toArray, List.set_cons_zero, List.set_cons_succ, List.getElem_toArray, List.getElem_cons_zero, List.getElem_cons_succ]
      refine wpAnyH_take (i := 7) (v := ?_) rfl (by kernel_rfl) (by kernel_rfl) (by kernel_rfl) (fun _ _ _ h => h) (Or.inl ⟨by rfl, ?takeYs7⟩) (NEW.out _ bw.drew) ?takeRs7
      case takeYs7 => (intro w9 hSw; (try dsimp only at hSw); go_simp; try (with_reducible rfl))
      simp only [Act.put, List.setIfInBounds_toArray, List.set_cons_zero, List.set_cons_succ, List.getElem_toArray, List.getElem_cons_zero, List.getElem_cons_succ]
      refine wpAnyH_ready (rs := [8]) (by kernel_rfl) (by simp) ?_
      refine AllReadyH.cons rfl (fun K hK => ?_) AllReadyH.nil
      go_simp
      refine (eqStep_same (D k) (N k) (A k) (T k) _).mono ?_
      rintro e w1 ⟨rfl, b1⟩
      have bw1 : Below w.heap.size w w1 := bw.drew.trans (b1.mono bw.drew.size)
      go_wp2_with fail
      refine hK.out _ _ (NEW.out w1 bw1) (fun _ => ?_)
      clear hK K
      try simp only [Act.put, List.setIfInBounds_toArray, List.set_cons_zero, List.set_cons_succ, List.getElem_toArray, List.getElem_cons_zero, List.getElem_cons_succ]
      refine wpAnyH_take (i := 9) (v := ?_) rfl (by kernel_rfl) (by kernel_rfl) (by kernel_rfl) (fun _ _ _ h => h) (Or.inl ⟨by rfl, ?takeYs9⟩) (NEW.out w1 bw1) ?takeRs9
      case takeYs9 => (intro w9 hSw; (try dsimp only at hSw); go_simp; try (with_reducible rfl))
      simp only [Act.put, List.setIfInBounds_toArray, List.set_cons_zero, List.set_cons_succ, List.getElem_toArray, List.getElem_cons_zero, List.getElem_cons_succ]
      refine wpAnyH_done (by kernel_rfl) ?_ _
      go_wp2_with fail
      go_round
      case rel => exact ⟨k + 1, by omega, by go_num, bw1⟩
      case measure => simp [intOf]; omega
    · obtain rfl : k = n := by omega
      go_wp2_with fail
      go_ret
      exact ⟨rfl, bw⟩
end Go.Proofs.Ytocpbcghkphcgaa.Hub
