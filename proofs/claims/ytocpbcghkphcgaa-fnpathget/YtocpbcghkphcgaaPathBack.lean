/-
  A path is written in one way: whatever is written as it is, is it; the law's own hbSteps.
-/
import Derived.Test.YtocpbcghkphcgaaLooseD
import Derived.Test.YtocpbcghkphcgaaGetL
namespace Go.Proofs.Ytocpbcghkphcgaa.Hub
open Go.RowKit
set_option linter.unusedVariables false
set_option linter.unusedSimpArgs false

theorem step_uniq {i : Nat} {d d9 : Bool} {n a t n9 a9 t9 : ByteArray} {r r9 : List UInt8} (hs : stepT n a t = true) (hs9 : stepT n9 a9 t9 = true) (hr : StepEnd r) (hr9 : StepEnd r9) (h : stepL i d n a t ++ r = stepL i d9 n9 a9 t9 ++ r9) : d = d9 ∧ n = n9 ∧ a = a9 ∧ t = t9 ∧ r = r9 := by
  obtain ⟨h1, h2⟩ := rest_of (l := stepL i d n a t ++ r) hs rfl
  obtain ⟨k1, k2⟩ := rest_of (l := stepL i d n a t ++ r) hs9 h
  obtain ⟨u1, u2⟩ := uniq_run nmB _ _ _ _ (h2.symm.trans k2) (step_name hs).1 (step_name hs9).1 (tail_head hr) (tail_head hr9)
  refine ⟨h1.symm.trans k1, bytes_same u1, ?_⟩
  by_cases ha : a = ⟨#[]⟩
  · subst ha
    have e1 : tailL ⟨#[]⟩ t ++ r = r := by unfold tailL; rw [if_pos rfl]; rfl
    rw [e1] at u2
    obtain ⟨rfl, e2⟩ := tail_shut u2 (fun q e => by rcases hr with rfl | ⟨q', rfl⟩ <;> cases e)
    exact ⟨rfl, (step_none hs rfl).trans (step_none hs9 rfl).symm, e2⟩
  · have e1 : tailL a t ++ r = 91 :: (a.data.toList ++ 61 :: 39 :: (t.data.toList ++ 39 :: 93 :: r)) := by
      unfold tailL
      rw [if_neg ha]
      simp [List.append_assoc]
    rw [e1] at u2
    obtain ⟨ha9, hq⟩ := tail_open hr9 u2
    obtain ⟨e2, e3⟩ := cut_uniq hq (attr_no hs ha).1 (attr_no hs9 ha9).1
    injection e3 with _ e3
    obtain ⟨e4, e5⟩ := cut_uniq e3 (attr_no hs ha).2 (attr_no hs9 ha9).2
    injection e5 with _ e5
    exact ⟨bytes_same e2, bytes_same e4, e5⟩
theorem rest_uniq {D D9 : Nat → Bool} {N A T N9 A9 T9 : Nat → ByteArray} : ∀ (m m9 k : Nat), (∀ j, k ≤ j → j < k + m → stepT (N j) (A j) (T j) = true) → (∀ j, k ≤ j → j < k + m9 → stepT (N9 j) (A9 j) (T9 j) = true) → restL D N A T k m = restL D9 N9 A9 T9 k m9 → m = m9 ∧ ∀ j, k ≤ j → j < k + m → D j = D9 j ∧ N j = N9 j ∧ A j = A9 j ∧ T j = T9 j
  | 0, 0, k, _, _, _ => ⟨rfl, fun j h1 h2 => absurd h2 (by omega)⟩
  | 0, m9 + 1, k, _, h9, e => by
    have := rest_nil h9 e.symm
    cases this
  | m + 1, 0, k, h, _, e => by
    have := rest_nil h e
    cases this
  | m + 1, m9 + 1, k, h, h9, e => by
    rw [restL, restL] at e
    obtain ⟨e1, e2, e3, e4, e5⟩ := step_uniq (h k (Nat.le_refl _) (by omega)) (h9 k (Nat.le_refl _) (by omega)) (rest_end D N A T (k + 1) m (by omega)) (rest_end D9 N9 A9 T9 (k + 1) m9 (by omega)) e
    obtain ⟨u1, u2⟩ := rest_uniq m m9 (k + 1) (fun j hj1 hj2 => h j (by omega) (by omega)) (fun j hj1 hj2 => h9 j (by omega) (by omega)) e5
    refine ⟨by omega, fun j hj1 hj2 => ?_⟩
    by_cases hjk : j = k
    · subst hjk; exact ⟨e1, e2, e3, e4⟩
    · exact u2 j (by omega) (by omega)
theorem sole_put {D : Nat → Bool} {N A T : Nat → ByteArray} {n : Nat} (hp : pathT N A T n = true) : Sole (putL D N A T n) n D N A T := by
  intro n9 D9 N9 A9 T9 hp9 hs
  rw [rest_zero, rest_zero] at hs
  obtain ⟨h1, h2⟩ := rest_uniq n n9 0 (fun j _ hj => steps_one (path_steps hp) (by omega)) (fun j _ hj => steps_one (path_steps hp9) (by omega)) hs.symm
  exact ⟨h1, fun j hj => h2 j (Nat.zero_le _) (by omega)⟩
theorem put_ne {D : Nat → Bool} {N A T : Nat → ByteArray} {n : Nat} (hp : pathT N A T n = true) : ¬ putS D N A T n = ⟨#[]⟩ := by
  intro h
  have h2 := put_bytes.1 h
  have h1 : 1 ≤ n := by
    unfold pathT at hp
    rw [Bool.and_eq_true] at hp
    exact (of_decide_eq_true hp.1).1
  rw [rest_zero] at h2
  have := rest_nil (fun j _ hj => steps_one (path_steps hp) (show j < n by omega)) h2
  omega
theorem isPath_put {D : Nat → Bool} {N A T : Nat → ByteArray} {n : Nat} {s : ByteArray} (hp : pathT N A T n = true) (hs : putS D N A T n = s) (h160 : s.size ≤ 160) : IsPath s n D N A T := by
  have e := put_bytes.1 hs
  refine ⟨h160, hp, e, fun j hj => ?_, by rw [← e]; exact sole_put hp⟩
  have := steps_at (path_steps hp) hj
  omega

set_option maxRecDepth 100000 in
set_option maxHeartbeats 4000000 in
theorem hbSteps_same (v1 v2 : Value) (n : Nat) (D : Nat → Bool) (N A T : Nat → ByteArray) (w : World) (hm1 : StepAt w v1 n D N A T) (hm2 : StepAt w v2 n D N A T) :
    Calls Try.prog 15 #[v1, v2] w fun e w' => e = .returned (.bool true) ∧ Below w.heap.size w w' := by
  obtain ⟨o1, cap1, rfl, g1, g1', hc1⟩ := hm1
  obtain ⟨o2, cap2, rfl, g2, g2', hc2⟩ := hm2
  have s1 : cap1 ≤ 9223372036854775807 := g1'
  have s2 : cap2 ≤ 9223372036854775807 := g2'
  clear g1' g2'
  have HC1 : Hid (∀ j, j < n → ∃ b f : Nat, o1 = some ⟨b, f, none⟩ ∧ b < w.heap.size ∧ w.cell? ⟨b, f + j * 4, none⟩ = some (.bool (D j)) ∧ w.cell? ⟨b, f + j * 4 + 1, none⟩ = some (.string (N j)) ∧ w.cell? ⟨b, f + j * 4 + 2, none⟩ = some (.string (A j)) ∧ w.cell? ⟨b, f + j * 4 + 3, none⟩ = some (.string (T j))) := hc1
  have HC2 : Hid (∀ j, j < n → ∃ b f : Nat, o2 = some ⟨b, f, none⟩ ∧ b < w.heap.size ∧ w.cell? ⟨b, f + j * 4, none⟩ = some (.bool (D j)) ∧ w.cell? ⟨b, f + j * 4 + 1, none⟩ = some (.string (N j)) ∧ w.cell? ⟨b, f + j * 4 + 2, none⟩ = some (.string (A j)) ∧ w.cell? ⟨b, f + j * 4 + 3, none⟩ = some (.string (T j))) := hc2
  clear hc1 hc2
  go_enter Try.func15, Try.ntmps15
  go_wp2_with fail
  go_loopw [5] (fun i wr => ∃ k : Nat, k ≤ n ∧ i = .int .i64 k ∧ Below w.heap.size w wr) (fun i _ => n - (intOf i).toNat)
  case atStart => exact ⟨0, Nat.zero_le _, rfl, Below.refl _ _⟩
  case round =>
    obtain ⟨k, hk, rfl, bw⟩ := hrel
    by_cases hlt : k < n
    · obtain ⟨b, f, ho, hb, c0, c1, c2, c3⟩ := HC1.out k hlt
      obtain ⟨b2, f2, ho2, hb2, e0, e1, e2, e3⟩ := HC2.out k hlt
      subst ho ho2
      have i1 : (0 : Int) ≤ (k : Int) := by omega
      have i2 : (k : Int) < (n : Int) := by omega
      have a0 := (bw.cell (p := ⟨b, f + k * 4, none⟩) hb).trans c0
      have a1 := (bw.cell (p := ⟨b, f + k * 4 + 1, none⟩) hb).trans c1
      have a2 := (bw.cell (p := ⟨b, f + k * 4 + 2, none⟩) hb).trans c2
      have a3 := (bw.cell (p := ⟨b, f + k * 4 + 3, none⟩) hb).trans c3
      have b0 := (bw.cell (p := ⟨b2, f2 + k * 4, none⟩) hb2).trans e0
      have b1 := (bw.cell (p := ⟨b2, f2 + k * 4 + 1, none⟩) hb2).trans e1
      have b2' := (bw.cell (p := ⟨b2, f2 + k * 4 + 2, none⟩) hb2).trans e2
      have b3 := (bw.cell (p := ⟨b2, f2 + k * 4 + 3, none⟩) hb2).trans e3
      clear c0 c1 c2 c3 e0 e1 e2 e3
      go_wp2_with fail
      refine wp_region_held_drew (S := fun W => (W.cell? ⟨b, f + k * 4, none⟩ = some (.bool (D k)) ∧ W.cell? ⟨b, f + k * 4 + 1, none⟩ = some (.string (N k)) ∧ W.cell? ⟨b, f + k * 4 + 2, none⟩ = some (.string (A k)) ∧ W.cell? ⟨b, f + k * 4 + 3, none⟩ = some (.string (T k))) ∧ W.cell? ⟨b2, f2 + k * 4, none⟩ = some (.bool (D k)) ∧ W.cell? ⟨b2, f2 + k * 4 + 1, none⟩ = some (.string (N k)) ∧ W.cell? ⟨b2, f2 + k * 4 + 2, none⟩ = some (.string (A k)) ∧ W.cell? ⟨b2, f2 + k * 4 + 3, none⟩ = some (.string (T k))) (by kernel_rfl) ?_ (fun hHeld => ?_)
      · exact ⟨⟨a0, a1, a2, a3⟩, b0, b1, b2', b3⟩
      refine wpAnyH_take (i := 0) (v := ?_) rfl (by kernel_rfl) (by kernel_rfl) (by kernel_rfl) (fun _ _ _ h => h) (Or.inl ⟨by rfl, ?takeYhb0⟩) (by assumption) ?takeRhb0
      case takeYhb0 => (intro w hSw; (try dsimp only at hSw); go_simp; try (with_reducible rfl))
      simp only [Act.put, List.setIfInBounds_toArray, List.set_cons_zero, List.set_cons_succ, List.getElem_toArray, List.getElem_cons_zero]
      refine wpAnyH_take (i := 1) (v := ?_) rfl (by kernel_rfl) (by kernel_rfl) (by kernel_rfl) (fun _ _ _ h => h) (Or.inl ⟨by rfl, ?takeYhb1⟩) (by assumption) ?takeRhb1
      case takeYhb1 => (intro w hSw; (try dsimp only at hSw); go_simp; try (with_reducible rfl))
      simp only [Act.put, List.setIfInBounds_toArray, List.set_cons_zero, List.set_cons_succ, List.getElem_toArray, List.getElem_cons_zero, List.getElem_cons_succ]
      refine wpAnyH_take (i := 2) (v := ?_) rfl (by kernel_rfl) (by kernel_rfl) (by kernel_rfl) (fun _ _ _ h => h) (Or.inl ⟨by rfl, ?takeYhb2⟩) (by assumption) ?takeRhb2
      case takeYhb2 => (intro w hSw; (try dsimp only at hSw); go_simp; try (with_reducible rfl))
      simp only [Act.put, List.setIfInBounds_toArray, List.set_cons_zero, List.set_cons_succ, List.getElem_toArray, List.getElem_cons_zero, List.getElem_cons_succ]
      refine wpAnyH_take (i := 3) (v := ?_) rfl (by kernel_rfl) (by kernel_rfl) (by kernel_rfl) (fun _ _ _ h => h) (Or.inl ⟨by rfl, ?takeYhb3⟩) (by assumption) ?takeRhb3
      case takeYhb3 => (intro w hSw; (try dsimp only at hSw); go_simp; try (with_reducible rfl))
      simp only [Act.put, List.setIfInBounds_toArray, List.set_cons_zero, List.set_cons_succ, List.getElem_toArray, List.getElem_cons_zero, List.getElem_cons_succ]
      refine wpAnyH_take (i := 4) (v := ?_) rfl (by kernel_rfl) (by kernel_rfl) (by kernel_rfl) (fun _ _ _ h => h) (Or.inl ⟨by rfl, ?takeYhb4⟩) (by assumption) ?takeRhb4
      case takeYhb4 => (intro w hSw; (try dsimp only at hSw); go_simp; try (with_reducible rfl))
      simp only [Act.put, List.setIfInBounds_toArray, List.set_cons_zero, List.set_cons_succ, List.getElem_toArray, List.getElem_cons_zero, List.getElem_cons_succ]
      refine wpAnyH_take (i := 5) (v := ?_) rfl (by kernel_rfl) (by kernel_rfl) (by kernel_rfl) (fun _ _ _ h => h) (Or.inl ⟨by rfl, ?takeYhb5⟩) (by assumption) ?takeRhb5
      case takeYhb5 => (intro w hSw; (try dsimp only at hSw); go_simp; try (with_reducible rfl))
      simp only [Act.put, List.setIfInBounds_toArray, List.set_cons_zero, List.set_cons_succ, List.getElem_toArray, List.getElem_cons_zero, List.getElem_cons_succ]
      refine wpAnyH_take (i := 6) (v := ?_) rfl (by kernel_rfl) (by kernel_rfl) (by kernel_rfl) (fun _ _ _ h => h) (Or.inl ⟨by rfl, ?takeYhb6⟩) (by assumption) ?takeRhb6
      case takeYhb6 => (intro w hSw; (try dsimp only at hSw); go_simp; try (with_reducible rfl))
      simp only [Act.put, List.setIfInBounds_toArray, List.set_cons_zero, List.set_cons_succ, List.getElem_toArray, List.getElem_cons_zero, List.getElem_cons_succ]
      refine wpAnyH_take (i := 7) (v := ?_) rfl (by kernel_rfl) (by kernel_rfl) (by kernel_rfl) (fun _ _ _ h => h) (Or.inl ⟨by rfl, ?takeYhb7⟩) (by assumption) ?takeRhb7
      case takeYhb7 => (intro w hSw; (try dsimp only at hSw); go_simp; try (with_reducible rfl))
      simp only [Act.put, List.setIfInBounds_toArray, List.set_cons_zero, List.set_cons_succ, List.getElem_toArray, List.getElem_cons_zero, List.getElem_cons_succ]
      refine wpAnyH_take (i := 8) (v := ?_) rfl (by kernel_rfl) (by kernel_rfl) (by kernel_rfl) (fun _ _ _ h => h) (Or.inl ⟨by rfl, ?takeYhb8⟩) (by assumption) ?takeRhb8
      case takeYhb8 => (intro w hSw; (try dsimp only at hSw); go_simp; try (with_reducible rfl))
      simp only [Act.put, List.setIfInBounds_toArray, List.set_cons_zero, List.set_cons_succ, List.getElem_toArray, List.getElem_cons_zero, List.getElem_cons_succ]
      refine wpAnyH_done (by kernel_rfl) ?_ _
      go_wp2_with fail
      go_round
      case rel => exact ⟨k + 1, by omega, by go_num, bw.drew⟩
      case measure => simp [intOf]; omega
    · obtain rfl : k = n := by omega
      go_wp2_with fail
      go_ret
      exact ⟨rfl, bw⟩
/-- What PathGet answers, whatever it is. -/
theorem pathForm {s : ByteArray} {w w' : World} {e : Ending} (h : PathP s w e w') : ∃ (o : Option Addr) (cap n : Nat) (b : Bool) (D : Nat → Bool) (N A T : Nat → ByteArray), e = .returned (.tuple #[.slice o n cap, .bool b]) ∧ OwnS w' w.heap.size (.slice o n cap) n D N A T ∧ n ≤ 5 ∧ ((b = true ∧ IsPath s n D N A T) ∨ (b = false ∧ n = 0 ∧ ∀ (n9 : Nat) (D9 : Nat → Bool) (N9 A9 T9 : Nat → ByteArray), ¬ IsPath s n9 D9 N9 A9 T9)) := by
  rcases h with ⟨o, cap, n, D, N, A, T, rfl, hO, hp⟩ | ⟨rfl, hno⟩
  · exact ⟨o, cap, n, true, D, N, A, T, rfl, hO, path_five hp.2.1, .inl ⟨rfl, hp⟩⟩
  · exact ⟨none, 0, 0, false, fun _ => false, fun _ => ⟨#[]⟩, fun _ => ⟨#[]⟩, fun _ => ⟨#[]⟩, rfl, OwnL.nil _ _ _ _ _, by omega, .inr ⟨rfl, rfl, hno⟩⟩
theorem formsSame {s : ByteArray} {n n2 : Nat} {b b2 : Bool} {D D2 : Nat → Bool} {N A T N2 A2 T2 : Nat → ByteArray} (h1 : (b = true ∧ IsPath s n D N A T) ∨ (b = false ∧ n = 0 ∧ ∀ (n9 : Nat) (D9 : Nat → Bool) (N9 A9 T9 : Nat → ByteArray), ¬ IsPath s n9 D9 N9 A9 T9)) (h2 : (b2 = true ∧ IsPath s n2 D2 N2 A2 T2) ∨ (b2 = false ∧ n2 = 0 ∧ ∀ (n9 : Nat) (D9 : Nat → Bool) (N9 A9 T9 : Nat → ByteArray), ¬ IsPath s n9 D9 N9 A9 T9)) : b2 = b ∧ n2 = n ∧ Agree D2 D N2 A2 T2 N A T n2 := by
  rcases h1 with ⟨rfl, p1⟩ | ⟨rfl, rfl, q1⟩
  · rcases h2 with ⟨rfl, p2⟩ | ⟨rfl, rfl, q2⟩
    · obtain ⟨e, hag⟩ := p2.2.2.2.2 n D N A T p1.2.1 p1.2.2.1
      exact ⟨rfl, e, hag⟩
    · exact absurd p1 (q2 _ _ _ _ _)
  · rcases h2 with ⟨rfl, p2⟩ | ⟨rfl, rfl, q2⟩
    · exact absurd p2 (q1 _ _ _ _ _)
    · exact ⟨rfl, rfl, fun j hj => absurd hj (by omega)⟩
theorem ownAs {W : World} {base n : Nat} {v : Value} {D D2 : Nat → Bool} {N A T N2 A2 T2 : Nat → ByteArray} (h : OwnS W base v n D2 N2 A2 T2) (ha : Agree D2 D N2 A2 T2 N A T n) : OwnS W base v n D N A T :=
  OwnL.congr h (fun j hj => by obtain ⟨e1, e2, e3, e4⟩ := ha j hj; simp only [stepC, e1, e2, e3, e4])
end Go.Proofs.Ytocpbcghkphcgaa.Hub
