/-
  The program's and the model's PathOk.
-/
import Derived.Test.YtocpbcghkphcgaaStepOk
import Derived.Laws.EntriesVeiled
import Derived.Shelf.Abstract
namespace Go.Proofs.Ytocpbcghkphcgaa.Hub
open Go.RowKit
set_option linter.unusedVariables false
set_option linter.unusedSimpArgs false

/-- The first n are steps. -/
def stepsT (N A T : Nat → ByteArray) (n : Nat) : Bool := (List.range n).all fun j => stepT (N j) (A j) (T j)
/-- Steps are a path. -/
def pathT (N A T : Nat → ByteArray) (n : Nat) : Bool := decide (1 ≤ n ∧ n ≤ 5) && stepsT N A T n
theorem steps_succ (N A T : Nat → ByteArray) (k : Nat) : stepsT N A T (k + 1) = (stepsT N A T k && stepT (N k) (A k) (T k)) := by
  unfold stepsT
  rw [List.range_succ, List.all_append]
  simp
theorem steps_false (N A T : Nat → ByteArray) (n k : Nat) (h : k < n) (hk : stepT (N k) (A k) (T k) = false) : stepsT N A T n = false := by
  unfold stepsT
  rw [List.all_eq_false]
  exact ⟨k, List.mem_range.2 h, by rw [hk]; decide⟩

set_option maxRecDepth 100000 in
set_option maxHeartbeats 2000000 in
theorem indexSteps_any (v : Value) (n : Nat) (D : Nat → Bool) (N A T : Nat → ByteArray) (w : World) (hm : StepAt w v n D N A T) (hs : ∀ j, j < n → (N j).size ≤ 1048576 ∧ (A j).size ≤ 1048576 ∧ (T j).size ≤ 1048576) :
    Calls Try.prog 38 #[v, .func (.func 29) #[] #[]] w fun e w' => (∃ z : Int, e = .returned (.int .i64 z) ∧ ((z < 0 ∧ stepsT N A T n = true) ∨ (0 ≤ z ∧ stepsT N A T n = false))) ∧ Below w.heap.size w w' := by
  have eg : ∀ args w, (callFunc 29 args).run Try.prog w = .ok (.enter 29 args) w := enters_of Try.func29 (by kernel_rfl) rfl
  obtain ⟨o, cap, rfl, g1, g2', hc⟩ := hm
  have g2 : cap ≤ 9223372036854775807 := g2'
  clear g2'
  have HC : Hid (∀ j, j < n → ∃ b f : Nat, o = some ⟨b, f, none⟩ ∧ b < w.heap.size ∧ w.cell? ⟨b, f + j * 4, none⟩ = some (.bool (D j)) ∧ w.cell? ⟨b, f + j * 4 + 1, none⟩ = some (.string (N j)) ∧ w.cell? ⟨b, f + j * 4 + 2, none⟩ = some (.string (A j)) ∧ w.cell? ⟨b, f + j * 4 + 3, none⟩ = some (.string (T j))) := hc
  have HS : Hid (∀ j, j < n → (N j).size ≤ 1048576 ∧ (A j).size ≤ 1048576 ∧ (T j).size ≤ 1048576) := hs
  clear hc hs
  go_enter Try.func38, Try.ntmps38
  go_wp2_with fail
  go_loopw [8] (fun i wr => ∃ k : Nat, k ≤ n ∧ i = .int .i64 k ∧ Hid (stepsT N A T k = true) ∧ Below w.heap.size w wr) (fun i _ => n - (intOf i).toNat)
  case atStart => exact ⟨0, Nat.zero_le _, rfl, (rfl : stepsT N A T 0 = true), Below.refl _ _⟩
  case round =>
    obtain ⟨k, hk, rfl, HA, bw⟩ := hrel
    by_cases hlt : k < n
    · obtain ⟨b, f, ho, hb, c0, c1, c2, c3⟩ := HC.out k hlt
      subst ho
      have i1 : (0 : Int) ≤ (k : Int) := by omega
      have i2 : (k : Int) < (n : Int) := by omega
      have hz := HS.out k hlt
      have d0 := (bw.cell (p := ⟨b, f + k * 4, none⟩) hb).trans c0
      have d1 := (bw.cell (p := ⟨b, f + k * 4 + 1, none⟩) hb).trans c1
      have d2 := (bw.cell (p := ⟨b, f + k * 4 + 2, none⟩) hb).trans c2
      have d3 := (bw.cell (p := ⟨b, f + k * 4 + 3, none⟩) hb).trans c3
      have cT := isNoStep_any (D k) (N k) (A k) (T k) wr hz.1 hz.2.1 hz.2.2
      cases hst : stepT (N k) (A k) (T k)
      · rw [hst] at cT
        go_wp2_with fail
        go_fit cT
        rintro e w1 ⟨rfl, b1⟩
        go_wp2_with fail
        go_ret
        exact ⟨⟨(k : Int), rfl, .inr ⟨by omega, steps_false N A T n k hlt hst⟩⟩, bw.trans (b1.mono bw.size)⟩
      · rw [hst] at cT
        go_wp2_with fail
        go_fit cT
        rintro e w1 ⟨rfl, b1⟩
        have bw1 := bw.trans (b1.mono bw.size)
        have HB : Hid (stepsT N A T (k + 1) = true) := (by rw [steps_succ, HA.out, hst]; rfl : stepsT N A T (k + 1) = true)
        clear d0 d1 d2 d3 c0 c1 c2 c3 HA hst cT
        go_wp2_with fail
        first
          | exact ⟨⟨k + 1, by omega, rfl, HB, bw1⟩, by simp [intOf]; omega⟩
          | (go_round
             case rel => exact ⟨k + 1, by omega, by go_num, HB, bw1⟩
             case measure => simp [intOf]; omega)
    · obtain rfl : k = n := by omega
      go_wp2_with fail
      go_ret
      exact ⟨⟨-1, rfl, .inl ⟨by omega, HA.out⟩⟩, bw⟩
set_option maxRecDepth 100000 in
set_option maxHeartbeats 2000000 in
theorem containsSteps_any (v : Value) (n : Nat) (D : Nat → Bool) (N A T : Nat → ByteArray) (w : World) (hm : StepAt w v n D N A T) (hs : ∀ j, j < n → (N j).size ≤ 1048576 ∧ (A j).size ≤ 1048576 ∧ (T j).size ≤ 1048576) :
    Calls Try.prog 28 #[v, .func (.func 29) #[] #[]] w fun e w' => e = .returned (.bool (!stepsT N A T n)) ∧ Below w.heap.size w w' := by
  have c := indexSteps_any v n D N A T w hm hs
  obtain ⟨o1, cap1, rfl, -⟩ := hm
  clear hs
  obtain ⟨R, hR⟩ : ∃ R, stepsT N A T n = R := ⟨_, rfl⟩
  rw [hR] at c ⊢
  clear hR
  go_enter Try.func28, Try.ntmps28
  go_wp2_with fail
  go_fit c
  rintro e w' ⟨⟨z, rfl, hz⟩, b1⟩
  rcases hz with ⟨hz, rfl⟩ | ⟨hz, rfl⟩
  · have hd : decide (0 ≤ z) = false := decide_eq_false (by omega)
    go_wp2_with fail
    go_ret
    first | exact ⟨rfl, b1⟩ | exact ⟨by congr 2; simp; omega, b1⟩
  · have hd : decide (0 ≤ z) = true := decide_eq_true hz
    go_wp2_with fail
    go_ret
    first | exact ⟨rfl, b1⟩ | exact ⟨by congr 2; simp; omega, b1⟩

set_option maxRecDepth 100000 in
set_option maxHeartbeats 2000000 in
theorem implPathOk_any (v : Value) (n : Nat) (D : Nat → Bool) (N A T : Nat → ByteArray) (w : World) (hm : StepAt w v n D N A T) (hs : ∀ j, j < n → (N j).size ≤ 1048576 ∧ (A j).size ≤ 1048576 ∧ (T j).size ≤ 1048576) :
    Calls Try.prog 14 #[v] w fun e w' => e = .returned (.bool (pathT N A T n)) ∧ Below w.heap.size w w' := by
  have c := containsSteps_any v n D N A T w hm hs
  obtain ⟨o1, cap1, rfl, -, h2', -⟩ := id hm
  have h2 : cap1 ≤ 9223372036854775807 := h2'
  have hn2 : n ≤ 9223372036854775807 := by obtain ⟨o9, c9, e9, g1, -⟩ := id hm; injection e9 with e1 e2 e3; omega
  clear hs hm h2'
  unfold pathT
  obtain ⟨R, hR⟩ : ∃ R, stepsT N A T n = R := ⟨_, rfl⟩
  rw [hR] at c ⊢
  clear hR
  by_cases h1 : 1 ≤ n
  · have h1' : (1 : Int) ≤ (n : Int) := by omega
    by_cases h5 : n ≤ 5
    · have h5' : (n : Int) ≤ 5 := by omega
      rw [decide_eq_true ⟨h1, h5⟩]
      go_enter Try.func14, Try.ntmps14
      go_wp2_with first
        | (go_at_call 28; go_fit c; rintro e w1 ⟨rfl, b1⟩)
        | (go_at_call 27; go_in)
      go_ret
      exact ⟨ret_bool (by simp), b1⟩
    · have h5' : ¬ (n : Int) ≤ 5 := by omega
      rw [decide_eq_false (fun h => h5 h.2)]
      go_enter Try.func14, Try.ntmps14
      go_wp2_with (go_at_call 27; go_in)
      go_ret
      exact ⟨rfl, Below.refl _ _⟩
  · have h1' : ¬ (1 : Int) ≤ (n : Int) := by omega
    rw [decide_eq_false (fun h => h1 h.1)]
    go_enter Try.func14, Try.ntmps14
    go_wp2_with (go_at_call 27; go_in)
    go_ret
    exact ⟨rfl, Below.refl _ _⟩

set_option maxRecDepth 100000 in
set_option maxHeartbeats 2000000 in
theorem l12Ok_any (v : Value) (n : Nat) (D : Nat → Bool) (N A T : Nat → ByteArray) (w : World) (hm : StepAt w v n D N A T) (hs : ∀ j, j < n → (N j).size ≤ 1048576 ∧ (A j).size ≤ 1048576 ∧ (T j).size ≤ 1048576) :
    Calls Try.prog 18 #[v] w fun e w' => e = .returned (.bool (pathT N A T n)) ∧ Below w.heap.size w w' := by
  obtain ⟨o, cap, rfl, g1, g2', hc⟩ := hm
  have g2 : cap ≤ 9223372036854775807 := g2'
  clear g2'
  have HC : Hid (∀ j, j < n → ∃ b f : Nat, o = some ⟨b, f, none⟩ ∧ b < w.heap.size ∧ w.cell? ⟨b, f + j * 4, none⟩ = some (.bool (D j)) ∧ w.cell? ⟨b, f + j * 4 + 1, none⟩ = some (.string (N j)) ∧ w.cell? ⟨b, f + j * 4 + 2, none⟩ = some (.string (A j)) ∧ w.cell? ⟨b, f + j * 4 + 3, none⟩ = some (.string (T j))) := hc
  have HS : Hid (∀ j, j < n → (N j).size ≤ 1048576 ∧ (A j).size ≤ 1048576 ∧ (T j).size ≤ 1048576) := hs
  clear hc hs
  obtain ⟨R, hR⟩ : ∃ R, pathT N A T n = R := ⟨_, rfl⟩
  have HR : Hid ((decide (1 ≤ n ∧ n ≤ 5) && stepsT N A T n) = R) := hR
  rw [hR]
  clear hR
  go_enter Try.func18, Try.ntmps18
  go_wp2_with fail
  go_loopw [3] (fun i wr => ∃ k : Nat, k ≤ n ∧ i = .int .i64 k ∧ Hid (stepsT N A T k = true) ∧ Below w.heap.size w wr) (fun i _ => n - (intOf i).toNat)
  case atStart => exact ⟨0, Nat.zero_le _, rfl, (rfl : stepsT N A T 0 = true), Below.refl _ _⟩
  case round =>
    obtain ⟨k, hk, rfl, HA, bw⟩ := hrel
    by_cases hlt : k < n
    · obtain ⟨b, f, ho, hb, c0, c1, c2, c3⟩ := HC.out k hlt
      subst ho
      have i1 : (0 : Int) ≤ (k : Int) := by omega
      have i2 : (k : Int) < (n : Int) := by omega
      have hz := HS.out k hlt
      have d0 := (bw.cell (p := ⟨b, f + k * 4, none⟩) hb).trans c0
      have d1 := (bw.cell (p := ⟨b, f + k * 4 + 1, none⟩) hb).trans c1
      have d2 := (bw.cell (p := ⟨b, f + k * 4 + 2, none⟩) hb).trans c2
      have d3 := (bw.cell (p := ⟨b, f + k * 4 + 3, none⟩) hb).trans c3
      have cT := l12StepOk_any (D k) (N k) (A k) (T k) wr hz.1 hz.2.1 hz.2.2
      cases hst : stepT (N k) (A k) (T k)
      · rw [hst] at cT
        have hRf : R = false := by rw [← HR.out, steps_false N A T n k hlt hst, Bool.and_false]
        subst hRf
        clear HR HA hst
        go_wp2_with (go_at_call 33; go_fit cT; rintro e w1 ⟨rfl, b1⟩)
        go_ret
        exact ⟨rfl, bw.trans (b1.mono bw.size)⟩
      · rw [hst] at cT
        have HB : Hid (stepsT N A T (k + 1) = true) := (by rw [steps_succ, HA.out, hst]; rfl : stepsT N A T (k + 1) = true)
        clear HA hst
        go_wp2_with (go_at_call 33; go_fit cT; rintro e w1 ⟨rfl, b1⟩)
        clear d0 d1 d2 d3 c0 c1 c2 c3 cT
        go_round
        case rel => exact ⟨k + 1, by omega, by go_num, HB, bw.trans (b1.mono bw.size)⟩
        case measure => simp [intOf]; omega
    · obtain rfl : k = n := by omega
      have hRt : R = decide (1 ≤ k ∧ k ≤ 5) := by rw [← HR.out, HA.out, Bool.and_true]
      subst hRt
      clear HR HA
      by_cases h1 : 1 ≤ k
      · have h1' : (1 : Int) ≤ (k : Int) := by omega
        by_cases h5 : k ≤ 5
        · have h5' : (k : Int) ≤ 5 := by omega
          go_wp2_with (go_at_call 34; go_in)
          go_ret
          exact ⟨ret_bool (by first | (simp; done) | (simp; omega)), bw⟩
        · have h5' : ¬ (k : Int) ≤ 5 := by omega
          go_wp2_with (go_at_call 34; go_in)
          go_ret
          exact ⟨ret_bool (by first | (simp; done) | (simp; omega)), bw⟩
      · have h1' : ¬ (1 : Int) ≤ (k : Int) := by omega
        go_wp2_with (go_at_call 34; go_in)
        go_ret
        exact ⟨ret_bool (by first | (simp; done) | (simp; omega)), bw⟩

end Go.Proofs.Ytocpbcghkphcgaa.Hub
