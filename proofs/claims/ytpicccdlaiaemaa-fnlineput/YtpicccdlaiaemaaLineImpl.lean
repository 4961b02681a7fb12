/-
  impl's LineHeard and LinePut, at every line.
-/
import Derived.Test.YtpicccdlaiaemaaLineSpec
import Derived.Test.YtpicccdlaiaemaaRingList
namespace Go.Proofs.Ytpicccdlaiaemaa.Hub
open Go.RowKit
set_option linter.unusedVariables false

set_option maxRecDepth 100000 in
set_option maxHeartbeats 4000000 in
theorem lineHeard_any (b g : Int) (o : Bool) (q : Value) (n : Nat) (S : Nat → ByteArray) (w : World) (hm : StrAt w q n S) (hn : n ≤ 1048576) (hs : ∀ j, j < n → (S j).size ≤ 9223372036854775807) :
    Calls Try.prog 23 #[lineV b q g o] w fun e w' => (∃ q', e = .returned (lineV (hearB b g o n S) q' (hearG b g o n S) (hearO b g o n S)) ∧ Own w' w.heap.size q' (hearN b g o n S) S) ∧ Below w.heap.size w w' := by
  obtain ⟨o1, cap1, rfl⟩ := hm.shape
  obtain ⟨B, hB⟩ : ∃ B, B = w.heap.size := ⟨_, rfl⟩
  obtain ⟨WA, hWA⟩ : ∃ WA, WA = (w.alloc (.cells #[.int .i64 b, .slice o1 n cap1, .int .i64 g, .bool o] 28)).alloc (.cells #[.int .i64 0, .slice none 0 0, .int .i64 0, .bool false] 28) := ⟨_, rfl⟩
  have bA : Below w.heap.size w WA := by rw [hWA]; exact ((Below.refl _ w).alloc (Nat.le_refl _) _).alloc (by simp) _
  have sA : WA.heap.size = B + 2 := by rw [hWA, hB]; simp
  have a0 : WA.heap[B]? = some (.cells #[.int .i64 b, .slice o1 n cap1, .int .i64 g, .bool o] 28 (0, 0)) := by
    rw [hWA, hB, Below.heap_alloc _ _ _ (by simp)]; exact World.alloc_heap_new w _
  have a1 : WA.heap[B + 1]? = some (.cells #[.int .i64 0, .slice none 0 0, .int .i64 0, .bool false] 28 (0, 0)) := by
    rw [hWA, hB]
    have := World.alloc_heap_new (w.alloc (.cells #[.int .i64 b, .slice o1 n cap1, .int .i64 g, .bool o] 28)) (.cells #[.int .i64 0, .slice none 0 0, .int .i64 0, .bool false] 28)
    simpa using this
  have hm1 := hm.below bA
  have cO := lineOk_any b g o _ n S WA hm1 hn hs
  have HM : Hid (StrAt WA (.slice o1 n cap1) n S) := hm1
  clear hm hm1 hs
  have HB : Hid (B = w.heap.size) := hB
  rw [← hB] at bA
  unfold hearB hearG hearO hearN
  cases hR : lineT b g o n S
  · rw [hR] at cO
    simp only [Bool.false_eq_true, if_false, Bool.false_and]
    clear hR
    go_enter Try.func23, Try.ntmps23
    go_wp2_with fail
    rw [← hWA, ← hB]
    clear hWA hB
    go_fit cO
    rintro e w1 ⟨rfl, b1⟩
    have s1 := b1.size
    have q1 := (b1.block (B + 1) (by omega)).trans a1
    have cA := bA.trans (b1.mono (by omega))
    have m0 : w1.cell? ⟨B + 1, 0, none⟩ = some (.int .i64 0) := cell_of _ _ _ _ _ q1
    have m1 : w1.cell? ⟨B + 1, 1, none⟩ = some (.slice none 0 0) := cell_of _ _ _ _ _ q1
    have m2 : w1.cell? ⟨B + 1, 2, none⟩ = some (.int .i64 0) := cell_of _ _ _ _ _ q1
    have m3 : w1.cell? ⟨B + 1, 3, none⟩ = some (.bool false) := cell_of _ _ _ _ _ q1
    have f1 : ∀ i, w1.frozen? ⟨B + 1, i, none⟩ = false := fun i => by simp [World.frozen?, q1]
    clear a0 a1 b1 bA cO q1
    go_wp2_with fail
    obtain ⟨st, bl⟩ := four (Own.nil w1 (B + 2) S) cA (R := B + 1) (by omega) (by omega) (.int .i64 0) (.slice none 0 0) (.int .i64 0) (.bool false)
    refine bodyPost_ret (v := lineV 0 (.slice none 0 0) 0 false) (by simp [results, Try.results23, go_sem, m0, m1, m2, m3]) rfl ⟨⟨_, rfl, Own.nil _ _ _⟩, ?_⟩
    rw [← HB.out]
    exact bl
  · obtain ⟨hsm, ⟨hb0, hb1⟩, ⟨hg0, hg1⟩, hn8, _⟩ := lineT_parts hR
    rw [hR] at cO
    simp only [if_true, Bool.true_and]
    clear hR
    obtain ⟨bn, rfl⟩ : ∃ bn : Nat, b = (bn : Int) := ⟨b.toNat, by omega⟩
    have HSM : Hid (smallTo S n = true) := hsm
    clear hsm
    have e1 : IntKind.i64.wrap (g + 1) = g + 1 := by rw [IntKind.wrap_i64]; omega
    go_enter Try.func23, Try.ntmps23
    go_wp2_with fail
    rw [← hWA, ← hB]
    clear hWA hB
    go_fit cO
    rintro e w1 ⟨rfl, b1⟩
    have s1 := b1.size
    have cA := bA.trans (b1.mono (by omega))
    have cH := ringOf_any bn g o _ n S w1 (HM.out.below b1) (by omega) hn8 HSM.out
    have q0 := (b1.block B (by omega)).trans a0
    have q1 := (b1.block (B + 1) (by omega)).trans a1
    have y0 : w1.cell? ⟨B, 0, none⟩ = some (.int .i64 bn) := cell_of _ _ _ _ _ q0
    have y1 : w1.cell? ⟨B, 1, none⟩ = some (.slice o1 n cap1) := cell_of _ _ _ _ _ q0
    have y2 : w1.cell? ⟨B, 2, none⟩ = some (.int .i64 g) := cell_of _ _ _ _ _ q0
    have y3 : w1.cell? ⟨B, 3, none⟩ = some (.bool o) := cell_of _ _ _ _ _ q0
    clear a0 a1 bA cO
    go_wp2_with fail
    go_fit cH
    rintro e w2 ⟨⟨p, rfl, hp0, hpl⟩, b2⟩
    have s2 := b2.size
    have cB := cA.trans (b2.mono (by omega))
    obtain ⟨C, hC, hC8, hall⟩ := hpl
    have lp : p < w2.heap.size := (Array.getElem?_eq_some_iff.1 hC).1
    obtain ⟨M, hM⟩ : ∃ M, M = w2.heap.size := ⟨_, rfl⟩
    obtain ⟨W3, hW3⟩ : ∃ W3, W3 = w2.alloc (.cells #[.slice (some ⟨p, 0, none⟩) 8 8, .int .i64 bn, .int .i64 n] 49) := ⟨_, rfl⟩
    have b3 : Below w2.heap.size w2 W3 := by rw [hW3]; exact below_alloc _ _
    have r3 : RingAt W3 M p bn n S := by
      refine ⟨by omega, hn8, by rw [hW3, hM]; exact World.alloc_heap_new _ _, C, (b3.block p lp).trans hC, hC8, hall⟩
    have s3 : W3.heap.size = M + 1 := by rw [hW3, hM]; simp
    have lM : B + 2 ≤ M := by omega
    have HR3 : Hid (RingAt W3 M p bn n S) := r3
    have cC := cB.trans (b3.mono (by omega))
    have z0 := (b3.block B (by omega)).trans ((b2.block B (by omega)).trans q0)
    have z1 := (b3.block (B + 1) (by omega)).trans ((b2.block (B + 1) (by omega)).trans q1)
    have NEW : Hid (∀ W : World, Below W3.heap.size W3 W → W.cell? ⟨B, 0, none⟩ = some (.int .i64 bn) ∧ W.cell? ⟨B, 2, none⟩ = some (.int .i64 g) ∧ W.cell? ⟨B, 3, none⟩ = some (.bool o)) := fun W bb =>
      have zz := (bb.block B (by omega)).trans z0
      ⟨cell_of _ _ _ _ _ zz, cell_of _ _ _ _ _ zz, cell_of _ _ _ _ _ zz⟩
    have RES : Hid (∀ W : World, Below W3.heap.size W3 W → W.heap[B + 1]? = some (.cells #[.int .i64 0, .slice none 0 0, .int .i64 0, .bool false] 28 (0, 0))) := fun W bb => (bb.block (B + 1) (by omega)).trans z1
    clear y0 y1 y2 y3 q0 q1 hC hC8 hall cH b1 b2 r3 z0 z1 cA cB b3
    go_wp2_with fail
    rw [← hW3, ← hM]
    clear hW3 hM
    have cL := fun W (bb : Below W3.heap.size W3 W) => list_any M p bn n S W (by omega) (HR3.out.below bb)
    have cR := fun W => roundCount_any (g + 1) W (by omega) (by omega)
    have d0 := NEW.out W3 (Below.refl _ _)
    obtain ⟨y0, y2, y3⟩ := d0
    have BD : Below W3.heap.size W3 W3.drew := (Below.refl W3.heap.size W3).drew
    have RR := RES.out
    go_region_held3 (fun W => W.cell? ⟨B, 0, none⟩ = some (.int .i64 bn) ∧ W.cell? ⟨B, 2, none⟩ = some (.int .i64 g) ∧ W.cell? ⟨B, 3, none⟩ = some (.bool o))
      (first | go_keep | exact NEW.out _ b9)
      (first
        | (go_at_call 34; refine (cL W3.drew BD).mono ?_; rintro e w9 ⟨⟨v9, rfl, hv9⟩, p9⟩; obtain ⟨o9, c9, hs9⟩ := hv9.shape; subst hs9; have b9 : Below W3.heap.size W3 w9 := BD.trans (p9.mono BD.size); have HV9 : Hid (Own w9 W3.heap.size (.slice o9 n c9) n S) := hv9; have q9 := RES.out w9 b9; have m0 : w9.cell? ⟨B + 1, 0, none⟩ = some (.int .i64 0) := cell_of _ _ _ _ _ q9; have m1 : w9.cell? ⟨B + 1, 1, none⟩ = some (.slice none 0 0) := cell_of _ _ _ _ _ q9; have m2 : w9.cell? ⟨B + 1, 2, none⟩ = some (.int .i64 0) := cell_of _ _ _ _ _ q9; have m3 : w9.cell? ⟨B + 1, 3, none⟩ = some (.bool false) := cell_of _ _ _ _ _ q9; have f1 : ∀ i, w9.frozen? ⟨B + 1, i, none⟩ = false := fun i => (by simp [World.frozen?, q9]); clear hv9 p9 q9)
        | (go_at_call 39; refine (cR _).mono ?_; rintro e w9 ⟨rfl, rfl⟩))
    have cD := cC.trans (b9.mono (by omega))
    clear RR cL cR y0 y2 y3
    go_wp2_with fail
    obtain ⟨st, bl⟩ := four HV9.out cD (R := B + 1) (by omega) (by omega) (.int .i64 bn) (.slice o9 n c9) (.int .i64 ((g + 1) % 256)) (.bool o)
    refine bodyPost_ret (v := lineV bn (.slice o9 n c9) ((g + 1) % 256) o) (by simp [results, Try.results23, go_sem, m0, m1, m2, m3]) rfl ⟨⟨_, rfl, st.mono (by rw [← HB.out]; omega)⟩, ?_⟩
    rw [← HB.out]
    exact bl
end Go.Proofs.Ytpicccdlaiaemaa.Hub
