/-
  The law's own eqWorld, markWorld, heldWorld over worlds of accounts and clients alone.
-/
import Derived.Test.YtkfdggcccegmlaaWldI
namespace Go.Proofs.Ytkfdggcccegmlaa.Hub
open Go.RowKit
set_option linter.unusedVariables false

theorem OwnA.shape {W : World} {base : Nat} {v : Value} {n : Nat} {U N : Nat → ByteArray} (h : OwnA W base v n U N) : ∃ o c, v = .slice o n c := by
  rcases h.2 with ⟨e, h0⟩ | ⟨g, c, cur, e, _⟩
  · subst h0; exact ⟨_, _, e⟩
  · exact ⟨_, _, e⟩

set_option maxRecDepth 100000 in
set_option maxHeartbeats 4000000 in
theorem eqWorld_same (a1 a2 c1 c2 : Value) (n m : Nat) (U N : Nat → ByteArray) (L C : Nat → Int) (K : Nat → ByteArray) (w : World) (h1 : AccAt w a1 n U N) (h2 : AccAt w a2 n U N) (k1 : CliAt w c1 m L C K) (k2 : CliAt w c2 m L C K) :
    Calls Try.prog 8 #[wldV a1 c1, wldV a2 c2] w fun e w' => e = .returned (.bool true) ∧ Below w.heap.size w w' := by
  obtain ⟨W1, hW1⟩ : ∃ W1, (w.alloc (.cells (wldC a1 c1) 31)).alloc (.cells (wldC a2 c2) 31) = W1 := ⟨_, rfl⟩
  have b1 : Below w.heap.size w W1 := by rw [← hW1]; exact ((Below.refl _ w).alloc (Nat.le_refl _) _).alloc (by simp) _
  have cE := eqServer_same a1 a2 n U N W1 (h1.below b1) (h2.below b1)
  have cK := fun (W : World) (bb : Below w.heap.size w W) => eqClientS_same c1 c2 m L C K W (k1.below bb) (k2.below bb)
  have NEW : Hid (∀ W : World, Below W1.heap.size W1 W → (W.cell? ⟨w.heap.size, 0, none⟩ = some a1 ∧ W.cell? ⟨w.heap.size, 1, none⟩ = some (.slice none 0 0) ∧ W.cell? ⟨w.heap.size, 2, none⟩ = some (.string ⟨#[]⟩) ∧ W.cell? ⟨w.heap.size, 3, none⟩ = some (.slice none 0 0) ∧ W.cell? ⟨w.heap.size, 4, none⟩ = some (.int .i64 0) ∧ W.cell? ⟨w.heap.size, 5, none⟩ = some c1 ∧ W.cell? ⟨w.heap.size, 6, none⟩ = some (.int .i64 0)) ∧ W.cell? ⟨w.heap.size + 1, 0, none⟩ = some a2 ∧ W.cell? ⟨w.heap.size + 1, 1, none⟩ = some (.slice none 0 0) ∧ W.cell? ⟨w.heap.size + 1, 2, none⟩ = some (.string ⟨#[]⟩) ∧ W.cell? ⟨w.heap.size + 1, 3, none⟩ = some (.slice none 0 0) ∧ W.cell? ⟨w.heap.size + 1, 4, none⟩ = some (.int .i64 0) ∧ W.cell? ⟨w.heap.size + 1, 5, none⟩ = some c2 ∧ W.cell? ⟨w.heap.size + 1, 6, none⟩ = some (.int .i64 0)) := fun W bb => by
    have l1 : w.heap.size < W1.heap.size := by rw [← hW1]; simp; omega
    have l2 : w.heap.size + 1 < W1.heap.size := by rw [← hW1]; simp
    have e1 : W1.heap[w.heap.size]? = some (.cells (wldC a1 c1) 31 (0, 0)) := by
      rw [← hW1]
      exact (Below.heap_alloc _ _ _ (by simp)).trans (World.alloc_heap_new w _)
    have e2 : W1.heap[w.heap.size + 1]? = some (.cells (wldC a2 c2) 31 (0, 0)) := by
      rw [← hW1]
      have := World.alloc_heap_new (w.alloc (.cells (wldC a1 c1) 31)) (.cells (wldC a2 c2) 31)
      simpa using this
    exact ⟨seven_cells ((bb.block _ l1).trans e1), seven_cells ((bb.block _ l2).trans e2)⟩
  obtain ⟨⟨u0, u1, u2, u3, u4, u5, u6⟩, v0, v1, v2, v3, v4, v5, v6⟩ := NEW.out W1 (Below.refl _ _)
  obtain ⟨o1, cap1, rfl, -⟩ := h1
  obtain ⟨o2, cap2, rfl, -⟩ := h2
  obtain ⟨o3, cap3, rfl, -⟩ := k1
  obtain ⟨o4, cap4, rfl, -⟩ := k2
  go_enter Try.func8, Try.ntmps8
  go_wp2_with first
    | (go_at_call 20; refine (cK _ B2).mono ?_; rintro e w3 ⟨rfl, b3⟩; obtain ⟨⟨g0, g1, g2, g3, g4, g5, g6⟩, j0, j1, j2, j3, j4, j5, j6⟩ := NEW.out w3 (b2.trans (b3.mono b2.size)))
    | (go_at_call 19; (try rw [hW1]); go_fit cE; rintro e w2 ⟨rfl, b2⟩; have B2 : Below w.heap.size w w2 := b1.trans (b2.mono b1.size); obtain ⟨⟨x0, x1, x2, x3, x4, x5, x6⟩, y0, y1, y2, y3, y4, y5, y6⟩ := NEW.out w2 b2)
  go_ret
  exact ⟨rfl, B2.trans (b3.mono B2.size)⟩

set_option maxRecDepth 100000 in
set_option maxHeartbeats 4000000 in
theorem markWorld_any (base mid : Nat) (a c : Value) (n m : Nat) (U N : Nat → ByteArray) (L C : Nat → Int) (K : Nat → ByteArray) (w : World) (hm : OwnA w base a n U N) (hk : OwnC w mid c m L C K) (hn : n ≤ 4) (hm4 : m ≤ 4) (hq : ∀ q, a.ownBlock = some q → q < mid) (hb : base ≤ mid) :
    Calls Try.prog 11 #[wldV a c, .int .i64 1] w fun e w' => e = .returned (.int .i64 ((1 + 2 * n + 3 * m : Nat) : Int)) ∧ OwnA w' base a n (fun j => markT (1 + 2 * j)) (fun j => markT (1 + 2 * j + 1)) ∧ OwnC w' mid c m (fun j => ((1 + 2 * n + 3 * j : Nat) : Int)) (fun j => ((1 + 2 * n + 3 * j + 1 : Nat) : Int)) (fun j => markT (1 + 2 * n + 3 * j + 2)) ∧ (w'.os = w.os ∧ w'.tape = w.tape ∧ w'.output = w.output ∧ w.heap.size ≤ w'.heap.size ∧ ∀ q, q < w.heap.size → a.ownBlock ≠ some q → c.ownBlock ≠ some q → w'.heap[q]? = w.heap[q]?) := by
  obtain ⟨ao, ac, rfl⟩ := hm.shape
  obtain ⟨co, cc, rfl⟩ := hk.shape
  have AL := World.ownsRow.lt hm
  have CL := World.ownsRow.lt hk
  obtain ⟨W1, hW1⟩ : ∃ W1, w.alloc (.cells (wldC (.slice ao n ac) (.slice co m cc)) 31) = W1 := ⟨_, rfl⟩
  have hm1 : OwnA W1 base (.slice ao n ac) n U N := by rw [← hW1]; exact hm.alloc _
  have hk1 : OwnC W1 mid (.slice co m cc) m L C K := by rw [← hW1]; exact hk.alloc _
  have cA := markServer_any base (.slice ao n ac) n U N W1 hm1 (by omega)
  have cC := fun (W : World) (h : OwnC W mid (.slice co m cc) m L C K) => markClientS_any mid (.slice co m cc) m (1 + 2 * n) L C K W h hm4 (by omega)
  have e1 : W1.heap[w.heap.size]? = some (.cells (wldC (.slice ao n ac) (.slice co m cc)) 31 (0, 0)) := by rw [← hW1]; exact World.alloc_heap_new w _
  have b1 : Below w.heap.size w W1 := by rw [← hW1]; exact (Below.refl _ w).alloc (Nat.le_refl _) _
  have l1 : w.heap.size < W1.heap.size := by rw [← hW1]; simp
  obtain ⟨u0, u1, u2, u3, u4, u5, u6⟩ := seven_cells e1
  obtain ⟨kk, hkk⟩ : ∃ kk, 1 + 2 * n = kk := ⟨_, rfl⟩
  rw [hkk] at cA
  simp only [hkk] at cC ⊢
  go_enter Try.func11, Try.ntmps11
  go_wp2_with fail
  try rw [hW1]
  go_fit cA
  rintro e w2 ⟨rfl, o2, g2⟩
  have e2 := (g2.block w.heap.size l1 (fun e => by have := (AL _ e.symm).2; omega)).trans e1
  obtain ⟨x0, x1, x2, x3, x4, x5, x6⟩ := seven_cells e2
  have hk2 : OwnC w2 mid (.slice co m cc) m L C K := World.ownsRow.kept hk1 g2 (by
    cases hc : (Value.slice co m cc).ownBlock with
    | none => exact .inl rfl
    | some q => right; intro e; have h1 := (CL q hc).1; have h2 := hq q e.symm; omega)
  go_wp2_with fail
  refine (cC w2 hk2).mono ?_
  rintro e w3 ⟨rfl, o3, g3⟩
  go_wp2_with fail
  go_ret
  have o2' : OwnA w3 base (.slice ao n ac) n (fun j => markT (1 + 2 * j)) (fun j => markT (1 + 2 * j + 1)) := World.ownsRow.kept o2 g3 (by
    cases hc : (Value.slice ao n ac).ownBlock with
    | none => exact .inl rfl
    | some q => right; intro e; have h1 := hq q hc; have h2 := (CL q e.symm).1; omega)
  exact ⟨rfl, o2', o3, g3.os.trans (g2.os.trans b1.os), g3.tape.trans (g2.tape.trans b1.tape), g3.output.trans (g2.output.trans b1.output), Nat.le_trans b1.size (Nat.le_trans g2.size g3.size), fun q hq0 ha hc => (g3.block q (Nat.lt_of_lt_of_le (Nat.lt_of_lt_of_le hq0 b1.size) g2.size) (fun e => hc e.symm)).trans ((g2.block q (Nat.lt_of_lt_of_le hq0 b1.size) (fun e => ha e.symm)).trans (b1.block q hq0))⟩

set_option maxRecDepth 100000 in
set_option maxHeartbeats 4000000 in
theorem heldWorld_any (a c : Value) (n m : Nat) (w : World) (hm : AccAt w a n (fun j => markT (1 + 2 * j)) (fun j => markT (1 + 2 * j + 1))) (hk : CliAt w c m (fun j => ((1 + 2 * n + 3 * j : Nat) : Int)) (fun j => ((1 + 2 * n + 3 * j + 1 : Nat) : Int)) (fun j => markT (1 + 2 * n + 3 * j + 2))) (hn : n ≤ 4) (hm4 : m ≤ 4) :
    Calls Try.prog 12 #[wldV a c, .int .i64 1] w fun e w' => e = .returned (.int .i64 ((1 + 2 * n + 3 * m : Nat) : Int)) ∧ Below w.heap.size w w' := by
  have hm' := hm
  have hk' := hk
  obtain ⟨ao, ac, rfl, -⟩ := hm'
  obtain ⟨co, cc, rfl, -⟩ := hk'
  obtain ⟨W1, hW1⟩ : ∃ W1, w.alloc (.cells (wldC (.slice ao n ac) (.slice co m cc)) 31) = W1 := ⟨_, rfl⟩
  have b1 : Below w.heap.size w W1 := by rw [← hW1]; exact (Below.refl _ w).alloc (Nat.le_refl _) _
  have cA := heldServer_any (.slice ao n ac) n W1 (hm.below b1) (by omega)
  have cC := fun (W : World) (bb : Below w.heap.size w W) => heldClientS_any (.slice co m cc) m (1 + 2 * n) W (hk.below bb) hm4 (by omega)
  have e1 : W1.heap[w.heap.size]? = some (.cells (wldC (.slice ao n ac) (.slice co m cc)) 31 (0, 0)) := by rw [← hW1]; exact World.alloc_heap_new w _
  have l1 : w.heap.size < W1.heap.size := by rw [← hW1]; simp
  obtain ⟨u0, u1, u2, u3, u4, u5, u6⟩ := seven_cells e1
  obtain ⟨kk, hkk⟩ : ∃ kk, kk = 1 + 2 * n := ⟨_, rfl⟩
  rw [← hkk] at cA
  simp only [← hkk] at cC ⊢
  have z1 : ¬ (kk : Int) < 0 := by omega
  obtain ⟨mm, hmm⟩ : ∃ mm, mm = kk + 3 * m := ⟨_, rfl⟩
  simp only [← hmm] at cC ⊢
  have z2 : ¬ (mm : Int) < 0 := by omega
  clear hkk hmm hm hk
  go_enter Try.func12, Try.ntmps12
  go_wp2_with fail
  try rw [hW1]
  go_fit cA
  rintro e w2 ⟨rfl, b2⟩
  obtain ⟨x0, x1, x2, x3, x4, x5, x6⟩ := seven_cells ((b2.block w.heap.size l1).trans e1)
  have B2 := b1.trans (b2.mono b1.size)
  go_wp2_with fail
  refine (cC w2 B2).mono ?_
  rintro e w3 ⟨rfl, b3⟩
  go_wp2_with fail
  go_ret
  exact ⟨rfl, B2.trans (b3.mono B2.size)⟩
end Go.Proofs.Ytkfdggcccegmlaa.Hub
