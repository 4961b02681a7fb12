/-
  For every line and every text the law FnExactLinePut returns true: impl.LinePut answers as spec.LinePut, every field; it writes into no argument, and what it answers owns its memory. No condition: the law itself passes lines whose texts have more than 1048576 bytes and places together by, and texts of more.
-/
import Derived.Test.YtpicccdlaiaemabRows
import Derived.Test.YtpicccdlaiaemabArgLine
import Derived.Test.YtpicccdlaiaemabLinePutI
import Derived.ProofKit
import Derived.OpenShut
import Derived.ShutString
import Derived.Carry
namespace Go.Proofs.Ytpicccdlaiaemab.fnExactLinePut
open Go.ChangeShapes Go.WideShapes Go.ChangeAt Go.RowKit
open Go.ChangeMaps (open_string shut_string)
set_option linter.unusedVariables false

set_option maxRecDepth 100000 in
set_option maxHeartbeats 8000000 in
theorem walk (b g : Int) (o : Bool) (q : Value) (n : Nat) (S : Nat → ByteArray) (s : ByteArray) (w : World) (hm : Hub.StrAt w q n S) (hs : ∀ j, j < n → (S j).size ≤ maxLen) (rb : -9223372036854775808 ≤ b ∧ b ≤ 9223372036854775807) (rg : -9223372036854775808 ≤ g ∧ g ≤ 9223372036854775807) (ws : s.size ≤ maxLen) :
    Calls Try.prog 4 #[Hub.lineV b q g o, .string s] w fun e w' => e = .returned (.bool true) ∧ Below w.heap.size w w' := by
  unfold maxLen at hs ws
  obtain ⟨o1, c1, rfl⟩ := hm.shape
  obtain ⟨W1, hW1⟩ : ∃ W1, W1 = w.alloc (.cells #[.int .i64 b, .slice o1 n c1, .int .i64 g, .bool o] 24) := ⟨_, rfl⟩
  obtain ⟨B, hB0⟩ : ∃ B, B = w.heap.size := ⟨_, rfl⟩
  have c0 : Below w.heap.size w W1 := by rw [hW1]; exact Hub.below_alloc w _
  have hw0 : B < W1.heap.size := by rw [hW1, hB0]; simp
  have eB : W1.heap[B]? = some (.cells #[.int .i64 b, .slice o1 n c1, .int .i64 g, .bool o] 24 (0, 0)) := by rw [hW1, hB0]; exact World.alloc_heap_new w _
  have NEW : Hid (∀ W : World, Below W1.heap.size W1 W → W.cell? ⟨B, 0, none⟩ = some (.int .i64 b) ∧ W.cell? ⟨B, 1, none⟩ = some (.slice o1 n c1) ∧ W.cell? ⟨B, 2, none⟩ = some (.int .i64 g) ∧ W.cell? ⟨B, 3, none⟩ = some (.bool o)) := fun W bb => by
    have q := (bb.block B hw0).trans eB
    exact ⟨Hub.cell_of _ _ _ _ _ q, Hub.cell_of _ _ _ _ _ q, Hub.cell_of _ _ _ _ _ q, Hub.cell_of _ _ _ _ _ q⟩
  have hm1 := hm.below c0
  have cS := Hub.szLine_any b g o (.slice o1 n c1) n S W1 hm1 (fun j hj => by have := hs j hj; omega)
  have HM : Hid (Hub.StrAt W1 (.slice o1 n c1) n S) := hm1
  clear hm hm1 eB
  by_cases hbig : (1048576 : Int) < (s.size : Int)
  · go_enter Try.func4, Try.ntmps4
    go_wp2_with fail
    go_ret
    rw [← hW1]
    exact ⟨rfl, c0⟩
  go_enter Try.func4, Try.ntmps4
  go_wp2_with fail
  rw [← hW1, ← hB0]
  have HB0 : Hid (B = w.heap.size) := hB0
  clear hW1 hB0
  go_fit cS
  clear cS
  rintro e w2 ⟨⟨y, rfl, hy⟩, b2⟩
  obtain ⟨x0, x1, x2, x3⟩ := NEW.out w2 b2
  rcases hy with hy | ⟨hy, s0, s1⟩
  · go_wp2_with fail
    go_ret
    exact ⟨rfl, c0.trans (b2.mono c0.size)⟩
  have hy' : ¬ y < 0 := by omega
  have HS : Hid (∀ j, j < n → (S j).size ≤ 9223372036854775807) := fun j hj => by have := s1 j hj; omega
  have hn : n ≤ 1048576 := by omega
  have TO := fun W (bb : Below W1.heap.size W1 W) => Hub.toLine_any b g o (.slice o1 n c1) n S W (HM.out.below bb) hn
  clear s1 hs
  obtain ⟨b', hb'⟩ : ∃ b', Hub.putB b g o n S s = b' := ⟨_, rfl⟩
  obtain ⟨g', hg'⟩ : ∃ g', Hub.putG b g o n S s = g' := ⟨_, rfl⟩
  obtain ⟨o', ho'⟩ : ∃ o', Hub.putO b g o n S s = o' := ⟨_, rfl⟩
  obtain ⟨n', hn'⟩ : ∃ n', Hub.putN b g o n S s = n' := ⟨_, rfl⟩
  have hn8 : n' ≤ 1048600 := by rw [← hn']; unfold Hub.putN; split <;> (try split) <;> omega
  obtain ⟨S', hS'⟩ : ∃ S', (Hub.putS n S s) = S' := ⟨_, rfl⟩
  have SP := fun W v (hv : Hub.StrAt W v n S) => Hub.specLinePut_any b g o v n S s W hv hn (by omega) HS.out
  have IM := fun W v (hv : Hub.StrAt W v n S) => Hub.linePut_any b g o v n S s W hv hn (by omega) HS.out
  simp only [hb', hg', ho', hn', hS'] at SP IM
  clear hb' hg' ho' hn' hS'
  go_wp2_with fail
  go_fit (TO w2 b2)
  rintro e w3 ⟨⟨q3, rfl, hm3⟩, b3⟩
  have d3 := b2.trans (b3.mono b2.size)
  have cP := SP w3 q3 hm3.strAt
  clear hm3 x0 x1 x2 x3
  go_wp2_with fail
  go_fit cP
  rintro e w4 ⟨⟨q4, rfl, hm4⟩, b4⟩
  have d4 := d3.trans (b4.mono d3.size)
  obtain ⟨o4, c4, rfl⟩ := hm4.shape
  clear cP SP
  obtain ⟨X4, hX4⟩ : ∃ X4, X4 = w4.heap.size := ⟨_, rfl⟩
  obtain ⟨W5, hW5⟩ : ∃ W5, W5 = w4.alloc (.cells #[.int .i64 b', .slice o4 n' c4, .int .i64 g', .bool o'] 27) := ⟨_, rfl⟩
  have b5 : Below w4.heap.size w4 W5 := by rw [hW5]; exact Hub.below_alloc _ _
  have d5 := d4.trans (b5.mono d4.size)
  have s5 : W5.heap.size = X4 + 1 := by rw [hW5, hX4]; simp
  have e4 : W5.heap[X4]? = some (.cells #[.int .i64 b', .slice o4 n' c4, .int .i64 g', .bool o'] 27 (0, 0)) := by rw [hW5, hX4]; exact World.alloc_heap_new _ _
  have HQ4 : Hid (Hub.StrAt W5 (.slice o4 n' c4) n' S') := hm4.strAt.below b5
  have lB : B < W5.heap.size := by have := d5.size; omega
  have NEW4 : Hid (∀ W : World, Below W5.heap.size W5 W → (W.cell? ⟨B, 0, none⟩ = some (.int .i64 b) ∧ W.cell? ⟨B, 1, none⟩ = some (.slice o1 n c1) ∧ W.cell? ⟨B, 2, none⟩ = some (.int .i64 g) ∧ W.cell? ⟨B, 3, none⟩ = some (.bool o)) ∧ W.cell? ⟨X4, 0, none⟩ = some (.int .i64 b') ∧ W.cell? ⟨X4, 1, none⟩ = some (.slice o4 n' c4) ∧ W.cell? ⟨X4, 2, none⟩ = some (.int .i64 g') ∧ W.cell? ⟨X4, 3, none⟩ = some (.bool o')) := fun W bb => by
    have q := (bb.block X4 (by omega)).trans e4
    exact ⟨NEW.out W (d5.trans (bb.mono d5.size)), Hub.cell_of _ _ _ _ _ q, Hub.cell_of _ _ _ _ _ q, Hub.cell_of _ _ _ _ _ q, Hub.cell_of _ _ _ _ _ q⟩
  obtain ⟨x0, x1, x2, x3⟩ := NEW.out w4 d4
  have lB4 : B < w4.heap.size := by have := d4.size; omega
  clear hm4 e4
  go_wp2_with fail
  rw [← hW5, ← hX4]
  clear hW5 hX4 b5
  have TO5 := fun W (bb : Below W5.heap.size W5 W) => TO W (d5.trans (bb.mono d5.size))
  go_fit (TO5 W5 (Below.refl _ _))
  rintro e w6 ⟨⟨q6, rfl, hm6⟩, b6⟩
  obtain ⟨o6, c6, rfl⟩ := hm6.shape
  obtain ⟨X5, hX5⟩ : ∃ X5, X5 = w6.heap.size := ⟨_, rfl⟩
  obtain ⟨W7, hW7⟩ : ∃ W7, W7 = w6.alloc (.cells #[.int .i64 b, .slice o6 n c6, .int .i64 g, .bool o] 27) := ⟨_, rfl⟩
  have b7 : Below w6.heap.size w6 W7 := by rw [hW7]; exact Hub.below_alloc _ _
  have s7 : W7.heap.size = X5 + 1 := by rw [hW7, hX5]; simp
  have lX5 : W5.heap.size ≤ X5 := by have := b6.size; omega
  have e5 : W7.heap[X5]? = some (.cells #[.int .i64 b, .slice o6 n c6, .int .i64 g, .bool o] 27 (0, 0)) := by rw [hW7, hX5]; exact World.alloc_heap_new _ _
  have f7 := b6.trans (b7.mono b6.size)
  have HQ6 : Hid (Hub.Own W7 W5.heap.size (.slice o6 n c6) n S) := hm6.below b7
  have ROW6 : Hid (∀ k, Value.ownBlock (.slice o6 n c6) = some k → W5.heap.size ≤ k ∧ k < X5) := fun k hk => by rw [hX5]; exact hm6.row k hk
  have NEW5 : Hid (∀ W : World, Below W7.heap.size W7 W → W.cell? ⟨X5, 0, none⟩ = some (.int .i64 b) ∧ W.cell? ⟨X5, 1, none⟩ = some (.slice o6 n c6) ∧ W.cell? ⟨X5, 2, none⟩ = some (.int .i64 g) ∧ W.cell? ⟨X5, 3, none⟩ = some (.bool o)) := fun W bb => by
    have q := (bb.block X5 (by omega)).trans e5
    exact ⟨Hub.cell_of _ _ _ _ _ q, Hub.cell_of _ _ _ _ _ q, Hub.cell_of _ _ _ _ _ q, Hub.cell_of _ _ _ _ _ q⟩
  have E5 : Hid (∀ W : World, W.heap[X5]? = some (.cells #[.int .i64 b, .slice o6 n c6, .int .i64 g, .bool o] 27 (0, 0)) → W.cell? ⟨X5, 0, none⟩ = some (.int .i64 b) ∧ W.cell? ⟨X5, 1, none⟩ = some (.slice o6 n c6) ∧ W.cell? ⟨X5, 2, none⟩ = some (.int .i64 g) ∧ W.cell? ⟨X5, 3, none⟩ = some (.bool o)) := fun W q => ⟨Hub.cell_of _ _ _ _ _ q, Hub.cell_of _ _ _ _ _ q, Hub.cell_of _ _ _ _ _ q, Hub.cell_of _ _ _ _ _ q⟩
  have HE5 : Hid (W7.heap[X5]? = some (.cells #[.int .i64 b, .slice o6 n c6, .int .i64 g, .bool o] 27 (0, 0))) := e5
  have cI := IM W7 _ HQ6.out.strAt
  clear hm6 e5 x0 x1 x2 x3
  go_wp2_with fail
  rw [← hW7, ← hX5]
  clear hW7 hX5 b7
  go_fit cI
  rintro e w8 ⟨⟨q8, rfl, hm8⟩, b8⟩
  obtain ⟨o8, c8, rfl⟩ := hm8.shape
  obtain ⟨X6, hX6⟩ : ∃ X6, X6 = w8.heap.size := ⟨_, rfl⟩
  obtain ⟨W9, hW9⟩ : ∃ W9, W9 = w8.alloc (.cells #[.int .i64 b', .slice o8 n' c8, .int .i64 g', .bool o'] 27) := ⟨_, rfl⟩
  have b9 : Below w8.heap.size w8 W9 := by rw [hW9]; exact Hub.below_alloc _ _
  have s9 : W9.heap.size = X6 + 1 := by rw [hW9, hX6]; simp
  have lX6 : W7.heap.size ≤ X6 := by have := b8.size; omega
  have e6 : W9.heap[X6]? = some (.cells #[.int .i64 b', .slice o8 n' c8, .int .i64 g', .bool o'] 27 (0, 0)) := by rw [hW9, hX6]; exact World.alloc_heap_new _ _
  have g9 := b8.trans (b9.mono b8.size)
  have f9 := f7.trans (g9.mono (by omega))
  have HQ8 : Hid (Hub.Own W9 W7.heap.size (.slice o8 n' c8) n' S') := hm8.below b9
  have ROW8 : Hid (∀ k, Value.ownBlock (.slice o8 n' c8) = some k → W7.heap.size ≤ k ∧ k < X6) := fun k hk => by rw [hX6]; exact hm8.row k hk
  have E6 : Hid (∀ W : World, W.heap[X6]? = some (.cells #[.int .i64 b', .slice o8 n' c8, .int .i64 g', .bool o'] 27 (0, 0)) → W.cell? ⟨X6, 0, none⟩ = some (.int .i64 b') ∧ W.cell? ⟨X6, 1, none⟩ = some (.slice o8 n' c8) ∧ W.cell? ⟨X6, 2, none⟩ = some (.int .i64 g') ∧ W.cell? ⟨X6, 3, none⟩ = some (.bool o')) := fun W q => ⟨Hub.cell_of _ _ _ _ _ q, Hub.cell_of _ _ _ _ _ q, Hub.cell_of _ _ _ _ _ q, Hub.cell_of _ _ _ _ _ q⟩
  have HE5b : Hid (W9.heap[X5]? = some (.cells #[.int .i64 b, .slice o6 n c6, .int .i64 g, .bool o] 27 (0, 0))) := (g9.block X5 (by omega)).trans HE5.out
  have HE6 : Hid (W9.heap[X6]? = some (.cells #[.int .i64 b', .slice o8 n' c8, .int .i64 g', .bool o'] 27 (0, 0))) := e6
  have HQ6b : Hid (Hub.Own W9 W5.heap.size (.slice o6 n c6) n S) := HQ6.out.below g9
  clear cI hm8 e6
  obtain ⟨_, y0, y1, y2, y3⟩ := NEW4.out w8 (f7.trans (b8.mono (by omega)))
  have l48 : X4 < w8.heap.size := by omega
  have cE := Hub.eqLine_same b' g' o' (.slice o8 n' c8) (.slice o4 n' c4) n' S' W9 HQ8.out.strAt (HQ4.out.below f9)
  go_wp2_with fail
  rw [← hW9, ← hX6]
  clear hW9 hX6 b9 b8 HE5 HQ6
  go_fit cE
  rintro e w10 ⟨rfl, b10⟩
  clear cE y0 y1 y2 y3 l48
  have f10 := f9.trans (b10.mono (by omega))
  have BOTH : Hid (∀ W : World, Below W9.heap.size W9 W → (W.cell? ⟨X5, 0, none⟩ = some (.int .i64 b) ∧ W.cell? ⟨X5, 1, none⟩ = some (.slice o6 n c6) ∧ W.cell? ⟨X5, 2, none⟩ = some (.int .i64 g) ∧ W.cell? ⟨X5, 3, none⟩ = some (.bool o)) ∧ W.cell? ⟨B, 0, none⟩ = some (.int .i64 b) ∧ W.cell? ⟨B, 1, none⟩ = some (.slice o1 n c1) ∧ W.cell? ⟨B, 2, none⟩ = some (.int .i64 g) ∧ W.cell? ⟨B, 3, none⟩ = some (.bool o)) := fun W bb =>
    ⟨E5.out W ((bb.block X5 (by omega)).trans HE5b.out), (NEW4.out W (f9.trans (bb.mono (by omega)))).1⟩
  go_wp2_with fail
  refine wp_region_held_drew (S := (fun W => (W.cell? ⟨X5, 0, none⟩ = some (.int .i64 b) ∧ W.cell? ⟨X5, 1, none⟩ = some (.slice o6 n c6) ∧ W.cell? ⟨X5, 2, none⟩ = some (.int .i64 g) ∧ W.cell? ⟨X5, 3, none⟩ = some (.bool o)) ∧ W.cell? ⟨B, 0, none⟩ = some (.int .i64 b) ∧ W.cell? ⟨B, 1, none⟩ = some (.slice o1 n c1) ∧ W.cell? ⟨B, 2, none⟩ = some (.int .i64 g) ∧ W.cell? ⟨B, 3, none⟩ = some (.bool o))) (by kernel_rfl) ?_ (fun hHeld => ?_)
  · exact BOTH.out _ b10.drew
  refine wpAnyH_take (i := 0) (v := ?_) rfl (by kernel_rfl) (by kernel_rfl) (by kernel_rfl) (fun _ _ _ h => h) (Or.inl ⟨by rfl, ?takeYx0⟩) (by assumption) ?takeRx0
  case takeYx0 => (intro w hSw; (try dsimp only at hSw); go_simp; try (with_reducible rfl))
  simp only [Act.put, List.setIfInBounds_toArray, List.set_cons_zero, List.set_cons_succ, List.getElem_toArray, List.getElem_cons_zero]
  refine wpAnyH_take (i := 1) (v := ?_) rfl (by kernel_rfl) (by kernel_rfl) (by kernel_rfl) (fun _ _ _ h => h) (Or.inl ⟨by rfl, ?takeYx1⟩) (by assumption) ?takeRx1
  case takeYx1 => (intro w hSw; (try dsimp only at hSw); go_simp; try (with_reducible rfl))
  simp only [Act.put, List.setIfInBounds_toArray, List.set_cons_zero, List.set_cons_succ, List.getElem_toArray, List.getElem_cons_zero, List.getElem_cons_succ]
  refine wpAnyH_ready (rs := [2]) (by kernel_rfl) (by simp) ?_
  refine AllReadyH.cons rfl (fun K hK => ?_) AllReadyH.nil
  go_simp
  refine (TO5 _ f10.drew).mono ?_
  rintro e w11 ⟨⟨q11, rfl, hm11⟩, p11⟩
  have b11 : Below W9.heap.size W9 w11 := b10.drew.trans (p11.mono b10.drew.size)
  have cE := Hub.eqLine_same b g o (.slice o6 n c6) q11 n S w11 (HQ6b.out.below b11).strAt hm11.strAt
  clear hm11
  go_wp2_with fail
  refine hK.out _ _ (BOTH.out w11 b11) (fun hHeldx2 => ?_)
  clear hK K
  try simp only [Act.put, List.setIfInBounds_toArray, List.set_cons_zero, List.set_cons_succ, List.getElem_toArray, List.getElem_cons_zero, List.getElem_cons_succ]
  refine wpAnyH_ready (rs := [3]) (by kernel_rfl) (by simp) ?_
  refine AllReadyH.cons rfl (fun K hK => ?_) AllReadyH.nil
  go_simp
  refine (cE).mono ?_
  rintro e w12 ⟨rfl, p12⟩
  have b12 : Below W9.heap.size W9 w12 := b11.trans (p12.mono b11.size)
  go_wp2_with fail
  refine hK.out _ _ (BOTH.out w12 b12) (fun hHeldx3 => ?_)
  clear hK K
  try simp only [Act.put, List.setIfInBounds_toArray, List.set_cons_zero, List.set_cons_succ, List.getElem_toArray, List.getElem_cons_zero, List.getElem_cons_succ]
  refine wpAnyH_take (i := 4) (v := ?_) rfl (by kernel_rfl) (by kernel_rfl) (by kernel_rfl) (fun _ _ _ h => h) (Or.inl ⟨by rfl, ?takeYx4⟩) (by assumption) ?takeRx4
  case takeYx4 => (intro w hSw; (try dsimp only at hSw); go_simp; try (with_reducible rfl))
  simp only [Act.put, List.setIfInBounds_toArray, List.set_cons_zero, List.set_cons_succ, List.getElem_toArray, List.getElem_cons_zero, List.getElem_cons_succ]
  refine wpAnyH_done (by kernel_rfl) ?_ _
  have f12 := f9.trans (b12.mono (by omega))
  have H5 : Hid (w12.heap[X5]? = some (.cells #[.int .i64 b, .slice o6 n c6, .int .i64 g, .bool o] 27 (0, 0))) := (b12.block X5 (by omega)).trans HE5b.out
  have H6 : Hid (w12.heap[X6]? = some (.cells #[.int .i64 b', .slice o8 n' c8, .int .i64 g', .bool o'] 27 (0, 0))) := (b12.block X6 (by omega)).trans HE6.out
  have Q6 : Hid (Hub.Own w12 W5.heap.size (.slice o6 n c6) n S) := HQ6b.out.below b12
  have Q8 : Hid (Hub.Own w12 W7.heap.size (.slice o8 n' c8) n' S') := HQ8.out.below b12
  have s12 := b12.size
  have cM := Hub.markLine_any W5.heap.size b g o (.slice o6 n c6) n 1 S w12 Q6.out (by omega) (by omega)
  clear BOTH hHeld hHeldx2 hHeldx3 HE5b HE6 HQ6b HQ8 cE
  obtain ⟨x0, x1, x2, x3⟩ := E5.out w12 H5.out
  go_wp2_with fail
  go_fit cM
  rintro e w13 ⟨rfl, _, gr13⟩
  clear cM Q6 x0 x1 x2 x3
  have bl13 : Below W5.heap.size w12 w13 := Hub.below_grown gr13 (by omega) (fun k hk => (ROW6.out k hk).1)
  have f13 := f12.trans bl13
  have s13 := gr13.size
  have H5b : Hid (w13.heap[X5]? = some (.cells #[.int .i64 b, .slice o6 n c6, .int .i64 g, .bool o] 27 (0, 0))) := (gr13.block X5 (by omega) (fun e => by have := (ROW6.out X5 e.symm).2; omega)).trans H5.out
  have H6b : Hid (w13.heap[X6]? = some (.cells #[.int .i64 b', .slice o8 n' c8, .int .i64 g', .bool o'] 27 (0, 0))) := (gr13.block X6 (by omega) (fun e => by have := (ROW6.out X6 e.symm).2; omega)).trans H6.out
  have Q8b : Hid (Hub.Own w13 W7.heap.size (.slice o8 n' c8) n' S') := Q8.out.kept gr13 (fun k hk => by have := (ROW6.out k hk).2; omega)
  clear H5 H6 Q8 gr13 bl13
  obtain ⟨_, y0, y1, y2, y3⟩ := NEW4.out w13 f13
  obtain ⟨x0, x1, x2, x3⟩ := E6.out w13 H6b.out
  have cE := Hub.eqLine_same b' g' o' (.slice o8 n' c8) (.slice o4 n' c4) n' S' w13 Q8b.out.strAt (HQ4.out.below f13)
  have hk1 : ¬ ((1 + n : Nat) : Int) < 0 := by omega
  go_wp2_with fail
  go_fit cE
  rintro e w14 ⟨rfl, b14⟩
  clear cE x0 x1 x2 x3 y0 y1 y2 y3
  have f14 := f13.trans (b14.mono (by omega))
  have s14 := b14.size
  have H6c : Hid (w14.heap[X6]? = some (.cells #[.int .i64 b', .slice o8 n' c8, .int .i64 g', .bool o'] 27 (0, 0))) := (b14.block X6 (by omega)).trans H6b.out
  have Q8c : Hid (Hub.Own w14 W7.heap.size (.slice o8 n' c8) n' S') := Q8b.out.below b14
  have cM := Hub.markLine_any W7.heap.size b' g' o' (.slice o8 n' c8) n' 1 S' w14 Q8c.out (by omega) (by omega)
  clear H5b H6b Q8b
  obtain ⟨x0, x1, x2, x3⟩ := E6.out w14 H6c.out
  go_wp2_with fail
  go_fit cM
  rintro e w15 ⟨rfl, hm15, gr15⟩
  clear cM x0 x1 x2 x3
  have bl15 : Below W5.heap.size w14 w15 := Hub.below_grown gr15 (by omega) (fun k hk => by have := (ROW8.out k hk).1; omega)
  have f15 := f14.trans bl15
  have s15 := gr15.size
  have H6d : Hid (w15.heap[X6]? = some (.cells #[.int .i64 b', .slice o8 n' c8, .int .i64 g', .bool o'] 27 (0, 0))) := (gr15.block X6 (by omega) (fun e => by have := (ROW8.out X6 e.symm).2; omega)).trans H6c.out
  have Q8d : Hid (Hub.Own w15 W7.heap.size (.slice o8 n' c8) n' (fun j => Hub.markT (1 + j))) := hm15
  clear hm15 H6c Q8c gr15 bl15
  have cH := Hub.heldLine_any b' g' o' (.slice o8 n' c8) n' 1 w15 Q8d.out.strAt (by omega) (by omega)
  obtain ⟨x0, x1, x2, x3⟩ := E6.out w15 H6d.out
  have hk2 : ¬ ((1 + n' : Nat) : Int) < 0 := by omega
  go_wp2_with fail
  go_fit cH
  rintro e w16 ⟨rfl, b16⟩
  clear cH x0 x1 x2 x3
  have f16 := f15.trans (b16.mono (by omega))
  have s16 := b16.size
  have H6e : Hid (w16.heap[X6]? = some (.cells #[.int .i64 b', .slice o8 n' c8, .int .i64 g', .bool o'] 27 (0, 0))) := (b16.block X6 (by omega)).trans H6d.out
  have Q8e : Hid (Hub.Own w16 W7.heap.size (.slice o8 n' c8) n' (fun j => Hub.markT (1 + j))) := Q8d.out.below b16
  clear H6d Q8d
  obtain ⟨⟨x0, x1, x2, x3⟩, _⟩ := NEW4.out w16 f16
  go_wp2_with fail
  go_fit (TO5 w16 f16)
  rintro e w17 ⟨⟨q17, rfl, hm17⟩, b17⟩
  have f17 := f16.trans (b17.mono (by omega))
  have s17 := b17.size
  have H6f : Hid (w17.heap[X6]? = some (.cells #[.int .i64 b', .slice o8 n' c8, .int .i64 g', .bool o'] 27 (0, 0))) := (b17.block X6 (by omega)).trans H6e.out
  have Q8f : Hid (Hub.Own w17 W7.heap.size (.slice o8 n' c8) n' (fun j => Hub.markT (1 + j))) := Q8e.out.below b17
  have cI := IM w17 q17 hm17.strAt
  clear hm17 H6e Q8e x0 x1 x2 x3
  go_wp2_with fail
  go_fit cI
  rintro e w18 ⟨⟨q18, rfl, hm18⟩, b18⟩
  obtain ⟨o18, c18, rfl⟩ := hm18.shape
  obtain ⟨X7, hX7⟩ : ∃ X7, X7 = w18.heap.size := ⟨_, rfl⟩
  obtain ⟨W19, hW19⟩ : ∃ W19, W19 = w18.alloc (.cells #[.int .i64 b', .slice o18 n' c18, .int .i64 g', .bool o'] 27) := ⟨_, rfl⟩
  have b19 : Below w18.heap.size w18 W19 := by rw [hW19]; exact Hub.below_alloc _ _
  have e7 : W19.heap[X7]? = some (.cells #[.int .i64 b', .slice o18 n' c18, .int .i64 g', .bool o'] 27 (0, 0)) := by rw [hW19, hX7]; exact World.alloc_heap_new _ _
  have b20 := b18.trans (b19.mono b18.size)
  have s18 := b18.size
  have s19 := b19.size
  have f19 := f17.trans (b20.mono (by omega))
  have H6g : Hid (W19.heap[X6]? = some (.cells #[.int .i64 b', .slice o8 n' c8, .int .i64 g', .bool o'] 27 (0, 0))) := (b20.block X6 (by omega)).trans H6f.out
  have Q8g : Hid (Hub.Own W19 W7.heap.size (.slice o8 n' c8) n' (fun j => Hub.markT (1 + j))) := Q8f.out.below b20
  have cE := Hub.eqLine_same b' g' o' (.slice o18 n' c18) (.slice o4 n' c4) n' S' W19 (hm18.strAt.below b19) (HQ4.out.below f19)
  clear hm18 H6f Q8f cI
  obtain ⟨_, y0, y1, y2, y3⟩ := NEW4.out w18 (f17.trans (b18.mono (by omega)))
  have l418 : X4 < w18.heap.size := by omega
  clear e7
  go_wp2_with fail
  rw [← hW19, ← hX7]
  clear hW19 hX7 b19 b18 b20
  go_fit cE
  rintro e w20 ⟨rfl, b20⟩
  clear cE y0 y1 y2 y3 l418
  have f20 := f19.trans (b20.mono (by omega))
  have H6h : Hid (w20.heap[X6]? = some (.cells #[.int .i64 b', .slice o8 n' c8, .int .i64 g', .bool o'] 27 (0, 0))) := (b20.block X6 (by omega)).trans H6g.out
  have cH := Hub.heldLine_any b' g' o' (.slice o8 n' c8) n' 1 w20 (Q8g.out.below b20).strAt (by omega) (by omega)
  clear H6g Q8g
  obtain ⟨x0, x1, x2, x3⟩ := E6.out w20 H6h.out
  go_wp2_with fail
  go_fit cH
  rintro e w21 ⟨rfl, b21⟩
  have s20 := b20.size
  have f21 := f20.trans (b21.mono (by omega))
  clear cH x0 x1 x2 x3
  go_wp2_with fail
  go_ret
  exact ⟨rfl, c0.trans ((d5.trans (f21.mono d5.size)).mono c0.size)⟩

theorem own : ownKnob Try.prog.godebug = none := by kernel_rfl
theorem laidOut : laidOutB Try.prog = true := by kernel_rfl
set_option maxRecDepth 100000 in
theorem lifted (os : Os) (started : os.Started) (H : Type) (enc : TypeId × Value → H) :
    ReturnsInHanded {} Try.checked os 4 .any (Rows.fnExactLinePutSpec.pre6 enc Try.prog Try.f4 Rows.fnExactLinePutRow.domain false) (Rows.fnExactLinePutSpec.post enc Try.prog Try.f4 false true false false) := by
  refine returnsInHanded_of_change (C := Try.checked) own started (by kernel_rfl) Try.func4
    (ChangeSpec.witness6 (enc := enc) (C := Try.checked) false ⟨#[], #[.agg #[.int .i64 0, .slice none 0 0, .int .i64 0, .bool false], .string ByteArray.empty], []⟩ 8 (by kernel_rfl) (by kernel_rfl) (by kernel_rfl) (by kernel_rfl)) ?_
  intro W base args ds gs before hval0 hW hcnd _
  have hval : ∀ (j : Nat) t v, Try.f4.params[j]? = some t → args[j]? = some v → Value.okWide Try.prog W .any base t v := hval0
  have hW' := hW
  obtain ⟨p, q, hA0, hV, rfl, hfz, hnd⟩ := hW
  have hA : DataW.TrodAll enc Try.prog W 0 (fun _ => true) true Try.f4.params.toList args.toList ds p := hA0
  rw [Try.params4] at hA hval
  obtain ⟨v0, vs0, d0, ds0, p0, q_0, hargs, rfl, rfl, h0, r0⟩ := trodAll_cons hA
  obtain ⟨v1, vs1, d1, ds1, p1, q_1, hx1, rfl, rfl, h1, r1⟩ := trodAll_cons r0
  obtain ⟨hnil, rfl, rfl⟩ := trodAll_nil r1
  subst hnil
  obtain rfl : args = #[v0, v1] := by cases args; simp_all
  obtain ⟨rfl, rfl⟩ := trodVars_none hV
  obtain ⟨b0, g0, o0, q0, k0, S0, e0, hq0, hw0, rb0, rg0⟩ := Hub.open_line (hval 0 24 v0 rfl rfl) h0
  subst e0
  obtain ⟨a1, e1, _, _, w1⟩ := open_string Try.underlying9 (hval 1 9 v1 rfl rfl) h1
  subst e1
  clear hA0 hval0
  simp only [List.append_nil] at hW'
  have hlt0 := hW'.lt
  refine (walk b0 g0 o0 q0 k0 S0 a1 W hq0 hw0 rb0 rg0 w1).mono fun e W' ⟨he, bel⟩ => ?_
  subst he
  exact ⟨_, rfl, _, _, _, [], _, [], hW', trodAll_mk1 (shut_bool Try.underlying4 _), (trodAll_cons_mk (Below.trod laidOut (by kernel_rfl) (of_decide_eq_true (by kernel_rfl)) h0 bel (fun x hx => hlt0 x (by simp [hx]))) (trodAll_cons_mk (Below.trod laidOut (by kernel_rfl) (of_decide_eq_true (by kernel_rfl)) h1 bel (fun x hx => hlt0 x (by simp [hx]))) trodAll_mk0)), rfl, bel.frame _, fun h => by cases h⟩

theorem over : Rows.fnExactLinePutRow.holds Try.pinned (OpenSpec.ofChange Rows.fnExactLinePutSpec) :=
  OpenClaim.holds_of_wide 4 Try.f4 rfl rfl rfl rfl rfl rfl rfl ⟨rfl, rfl, rfl, rfl, rfl⟩ rfl rfl rfl rfl rfl (by kernel_rfl) Try.func4 (by kernel_rfl)
    (of_decide_eq_true (by kernel_rfl)) (by unfold Func.isWrapper; first | (rw [if_pos (by decide +kernel)]; kernel_rfl) | (rw [if_neg (by decide +kernel)]; exact ⟨rfl, rfl⟩))
    (fun os started H enc _ => lifted os started H enc)
theorem proved : Rows.FnExactLinePutSaid := over
#print axioms proved
end Go.Proofs.Ytpicccdlaiaemab.fnExactLinePut

namespace Go.Proofs.Ytpicccdlaiaemab
/-- The statement. -/
theorem fnExactLinePut_holds : Rows.FnExactLinePutSaid := fnExactLinePut.proved
end Go.Proofs.Ytpicccdlaiaemab
