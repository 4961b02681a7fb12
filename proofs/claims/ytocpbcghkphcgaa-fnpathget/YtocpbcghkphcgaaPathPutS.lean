/-
  The model's PathPut.
-/
import Derived.Test.YtocpbcghkphcgaaPathPutD
namespace Go.Proofs.Ytocpbcghkphcgaa.Hub
open Go.RowKit
set_option linter.unusedVariables false
set_option linter.unusedSimpArgs false

set_option maxRecDepth 100000 in
set_option maxHeartbeats 40000000 in
theorem l12Put_any (v : Value) (n : Nat) (D : Nat → Bool) (N A T : Nat → ByteArray) (w : World) (hm : StepAt w v n D N A T) (h5 : n ≤ 5) (ho : stepsT N A T n = true) :
    Calls Try.prog 19 #[v] w fun e w' => e = .returned (.string (putS D N A T n)) ∧ Below w.heap.size w w' := by
  obtain ⟨o, cap, rfl, g1, g2', hc⟩ := hm
  have g2 : cap ≤ 9223372036854775807 := g2'
  clear g2'
  have HC : Hid (∀ j, j < n → ∃ b f : Nat, o = some ⟨b, f, none⟩ ∧ b < w.heap.size ∧ w.cell? ⟨b, f + j * 4, none⟩ = some (.bool (D j)) ∧ w.cell? ⟨b, f + j * 4 + 1, none⟩ = some (.string (N j)) ∧ w.cell? ⟨b, f + j * 4 + 2, none⟩ = some (.string (A j)) ∧ w.cell? ⟨b, f + j * 4 + 3, none⟩ = some (.string (T j))) := hc
  have HL : Hid (∀ k, k ≤ n → (putL D N A T k).length ≤ 45 * k) := putL_len ho
  have HZ : Hid (∀ j, j < n → (N j).size ≤ 12 ∧ (A j).size ≤ 12 ∧ (T j).size ≤ 10) := fun j hj => steps_at ho hj
  clear hc ho
  go_enter Try.func19, Try.ntmps19
  go_wp2_with fail
  go_loopw [3, 4] (fun s i wr => ∃ (k : Nat) (O : ByteArray), k ≤ n ∧ s = .string O ∧ i = .int .i64 k ∧ Hid (O.data.toList = putL D N A T k) ∧ O.size ≤ 45 * k ∧ Below w.heap.size w wr) (fun _ i _ => n - (intOf i).toNat)
  case atStart => exact ⟨0, _, Nat.zero_le _, rfl, rfl, (rfl : (⟨#[]⟩ : ByteArray).data.toList = []), by decide, Below.refl _ _⟩
  case round =>
    obtain ⟨k, O, hk, rfl, rfl, HO, hO, bw⟩ := hrel
    by_cases hlt : k < n
    · obtain ⟨b, f, ho, hb, c0, c1, c2, c3⟩ := HC.out k hlt
      subst ho
      have i1 : (0 : Int) ≤ (k : Int) := by omega
      have i2 : (k : Int) < (n : Int) := by omega
      obtain ⟨z1, z2, z3⟩ := HZ.out k hlt
      have d0 := (bw.cell (p := ⟨b, f + k * 4, none⟩) hb).trans c0
      have d1 := (bw.cell (p := ⟨b, f + k * 4 + 1, none⟩) hb).trans c1
      have d2 := (bw.cell (p := ⟨b, f + k * 4 + 2, none⟩) hb).trans c2
      have d3 := (bw.cell (p := ⟨b, f + k * 4 + 3, none⟩) hb).trans c3
      have HP : Hid (putL D N A T (k + 1) = putL D N A T k ++ stepL k (D k) (N k) (A k) (T k)) := rfl
      obtain ⟨n9, hn9⟩ : ∃ x, N k = x := ⟨_, rfl⟩
      obtain ⟨a9, ha9⟩ : ∃ x, A k = x := ⟨_, rfl⟩
      obtain ⟨t9, ht9⟩ : ∃ x, T k = x := ⟨_, rfl⟩
      obtain ⟨e9, he9⟩ : ∃ x, D k = x := ⟨_, rfl⟩
      have HQ := HP.out
      rw [hn9, ha9, ht9, he9] at HQ
      have HP2 : Hid (putL D N A T (k + 1) = putL D N A T k ++ stepL k e9 n9 a9 t9) := HQ
      rw [hn9] at z1 d1
      rw [ha9] at z2 d2
      rw [ht9] at z3 d3
      rw [he9] at d0
      have bz : Below w.heap.size w (wr.alloc (.cells #[.bool e9, .string n9, .string a9, .string t9] 37)) := bw.alloc bw.size _
      clear hn9 ha9 ht9 he9 HP HQ c0 c1 c2 c3
      by_cases hae : a9 = ⟨#[]⟩
      · subst hae
        cases e9
        · by_cases hk0 : k = 0
          · have hkp : ¬ (0 : Int) < (k : Int) := by omega
            have hkq : ¬ 0 < k := by omega
            clear hk0
            have rj := rel_join HO.out HP2.out ⟨z1, z2, z3⟩ hO (join00 hkq)
            obtain ⟨r1, r2⟩ := rj
            go_wp2_with fail
            go_roundw
            case rel => exact ⟨k + 1, _, by omega, rfl, by go_num, r1, r2, bz⟩
            case measure => simp [intOf]; omega
          · have hkp : (0 : Int) < (k : Int) := by omega
            have hkq : 0 < k := by omega
            clear hk0
            have rj := rel_join HO.out HP2.out ⟨z1, z2, z3⟩ hO (join10 hkq)
            obtain ⟨r1, r2⟩ := rj
            go_wp2_with fail
            go_roundw
            case rel => exact ⟨k + 1, _, by omega, rfl, by go_num, r1, r2, bz⟩
            case measure => simp [intOf]; omega
        · skip
          have rj := rel_join HO.out HP2.out ⟨z1, z2, z3⟩ hO (join20)
          obtain ⟨r1, r2⟩ := rj
          go_wp2_with fail
          go_roundw
          case rel => exact ⟨k + 1, _, by omega, rfl, by go_num, r1, r2, bz⟩
          case measure => simp [intOf]; omega
      · have h3 := ne_none hae
        cases e9
        · by_cases hk0 : k = 0
          · have hkp : ¬ (0 : Int) < (k : Int) := by omega
            have hkq : ¬ 0 < k := by omega
            clear hk0
            have rj := rel_join HO.out HP2.out ⟨z1, z2, z3⟩ hO (join01 hkq hae)
            obtain ⟨r1, r2⟩ := rj
            go_wp2_with fail
            go_roundw
            case rel => exact ⟨k + 1, _, by omega, rfl, by go_num, r1, r2, bz⟩
            case measure => simp [intOf]; omega
          · have hkp : (0 : Int) < (k : Int) := by omega
            have hkq : 0 < k := by omega
            clear hk0
            have rj := rel_join HO.out HP2.out ⟨z1, z2, z3⟩ hO (join11 hkq hae)
            obtain ⟨r1, r2⟩ := rj
            go_wp2_with fail
            go_roundw
            case rel => exact ⟨k + 1, _, by omega, rfl, by go_num, r1, r2, bz⟩
            case measure => simp [intOf]; omega
        · skip
          have rj := rel_join HO.out HP2.out ⟨z1, z2, z3⟩ hO (join21 hae)
          obtain ⟨r1, r2⟩ := rj
          go_wp2_with fail
          go_roundw
          case rel => exact ⟨k + 1, _, by omega, rfl, by go_num, r1, r2, bz⟩
          case measure => simp [intOf]; omega
    · obtain rfl : k = n := by omega
      have hE := list_str O _ HO.out
      subst hE
      go_wp2_with fail
      go_ret
      exact ⟨rfl, bw⟩

set_option maxRecDepth 100000 in
theorem specPathPut_any (v : Value) (n : Nat) (D : Nat → Bool) (N A T : Nat → ByteArray) (w : World) (hm : StepAt w v n D N A T) (hs : ∀ j, j < n → (N j).size ≤ 1048576 ∧ (A j).size ≤ 1048576 ∧ (T j).size ≤ 1048576) :
    Calls Try.prog 13 #[v] w fun e w' => e = .returned (.string (pputT D N A T n)) ∧ Below w.heap.size w w' := by
  have c := l12Ok_any v n D N A T w hm hs
  have HM : Hid (∀ W, Below w.heap.size w W → StepAt W v n D N A T) := fun W bb => hm.below bb
  obtain ⟨o1, cap1, rfl, -⟩ := hm
  clear hs
  unfold pputT
  cases hp : pathT N A T n
  · rw [hp] at c
    clear hp
    go_enter Try.func13, Try.ntmps13
    go_wp2_with (go_at_call 18; go_fit c; rintro e w1 ⟨rfl, b1⟩)
    go_ret
    exact ⟨rfl, b1⟩
  · have hq := hp
    unfold pathT at hq
    rw [Bool.and_eq_true, decide_eq_true_eq] at hq
    have cP := fun W (bb : Below w.heap.size w W) => l12Put_any (.slice o1 n cap1) n D N A T W (HM.out W bb) hq.1.2 hq.2
    rw [hp] at c
    clear hp hq
    generalize putS D N A T n = PP at *
    go_enter Try.func13, Try.ntmps13
    go_wp2_with first
      | (go_at_call 19; go_fit (cP w1 b1); rintro e w2 ⟨rfl, b2⟩)
      | (go_at_call 18; go_fit c; rintro e w1 ⟨rfl, b1⟩)
    go_ret
    exact ⟨rfl, b1.trans (b2.mono b1.size)⟩
end Go.Proofs.Ytocpbcghkphcgaa.Hub
