/-
  impl's LinePut, at every line and every text.
-/
import Derived.Test.YtpicccdlaiaemaaLinePut
namespace Go.Proofs.Ytpicccdlaiaemaa.Hub
open Go.RowKit
set_option linter.unusedVariables false

set_option maxRecDepth 100000 in
set_option maxHeartbeats 8000000 in
theorem linePut_any (b g : Int) (o : Bool) (q : Value) (n : Nat) (S : Nat → ByteArray) (s : ByteArray) (w : World) (hm : StrAt w q n S) (hn : n ≤ 1048576) (ht : s.size ≤ 1048576) (hs : ∀ j, j < n → (S j).size ≤ 9223372036854775807) :
    Calls Try.prog 12 #[lineV b q g o, .string s] w fun e w' => (∃ q', e = .returned (lineV (putB b g o n S s) q' (putG b g o n S s) (putO b g o n S s)) ∧ Own w' w.heap.size q' (putN b g o n S s) (putS n S s)) ∧ Below w.heap.size w w' := by
  obtain ⟨o1, cap1, rfl⟩ := hm.shape
  obtain ⟨B, hB⟩ : ∃ B, B = w.heap.size := ⟨_, rfl⟩
  obtain ⟨WA, hWA⟩ : ∃ WA, WA = (w.alloc (.cells #[.int .i64 b, .slice o1 n cap1, .int .i64 g, .bool o] 28)).alloc (.cells #[.int .i64 0, .slice none 0 0, .int .i64 0, .bool false] 28) := ⟨_, rfl⟩
  have bA : Below w.heap.size w WA := by rw [hWA]; exact ((Below.refl _ w).alloc (Nat.le_refl _) _).alloc (by simp) _
  have sA : WA.heap.size = B + 2 := by rw [hWA, hB]; simp
  have a0 : WA.heap[B]? = some (.cells #[.int .i64 b, .slice o1 n cap1, .int .i64 g, .bool o] 28 (0, 0)) := by
    rw [hWA, hB, Below.heap_alloc _ _ _ (by simp)]; exact World.alloc_heap_new w _
  have a1 : WA.heap[B + 1]? = some (.cells #[.int .i64 0, .slice none 0 0, .int .i64 0, .bool false] 28 (0, 0)) := by
    rw [hWA, hB]
    have := World.alloc_heap_new (w.alloc (.cells #[.int .i64 b, .slice o1 n cap1, .int .i64 g, .bool o] 28)) (.cells #[.int .i64 0, .slice none 0 0, .int .i64 0, .bool false] 28)
    simpa using this
  have hm1 := hm.below bA
  have cO := lineOk_any b g o _ n S WA hm1 hn hs
  have HM : Hid (StrAt WA (.slice o1 n cap1) n S) := hm1
  clear hm hm1 hs
  have HB : Hid (B = w.heap.size) := hB
  rw [← hB] at bA
  unfold putB putG putO putN putOk
  have cTM := fun W => isTooMuch_any s W (by omega)
  cases hR : lineT b g o n S
  · rw [hR] at cO
    simp only [Bool.false_and, Bool.false_eq_true, if_false]
    clear hR cTM
    go_enter Try.func12, Try.ntmps12
    go_wp2_with fail
    rw [← hWA, ← hB]
    clear hWA hB
    go_fit cO
    rintro e w1 ⟨rfl, b1⟩
    have s1 := b1.size
    have q1 := (b1.block (B + 1) (by omega)).trans a1
    have cA := bA.trans (b1.mono (by omega))
    have m0 : w1.cell? ⟨B + 1, 0, none⟩ = some (.int .i64 0) := cell_of _ _ _ _ _ q1
    have m1 : w1.cell? ⟨B + 1, 1, none⟩ = some (.slice none 0 0) := cell_of _ _ _ _ _ q1
    have m2 : w1.cell? ⟨B + 1, 2, none⟩ = some (.int .i64 0) := cell_of _ _ _ _ _ q1
    have m3 : w1.cell? ⟨B + 1, 3, none⟩ = some (.bool false) := cell_of _ _ _ _ _ q1
    have f1 : ∀ i, w1.frozen? ⟨B + 1, i, none⟩ = false := fun i => by simp [World.frozen?, q1]
    clear a0 a1 b1 bA cO q1
    go_wp2_with fail
    obtain ⟨st, bl⟩ := four (Own.nil w1 (B + 2) S) cA (R := B + 1) (by omega) (by omega) (.int .i64 0) (.slice none 0 0) (.int .i64 0) (.bool false)
    refine bodyPost_ret (v := lineV 0 (.slice none 0 0) 0 false) (by simp [results, Try.results12, go_sem, m0, m1, m2, m3]) rfl ⟨⟨_, rfl, Own.nil _ _ _⟩, ?_⟩
    rw [← HB.out]
    exact bl
  by_cases hbig : 3000 < s.size
  · rw [hR] at cO
    rw [decide_eq_false (by omega : ¬ s.size ≤ 3000)]
    rw [decide_eq_true hbig] at cTM
    simp only [Bool.and_false, Bool.false_and, Bool.false_eq_true, if_false]
    clear hR
    go_enter Try.func12, Try.ntmps12
    go_wp2_with fail
    rw [← hWA, ← hB]
    clear hWA hB
    go_fit cO
    rintro e w1 ⟨rfl, b1⟩
    have s1 := b1.size
    have q1 := (b1.block (B + 1) (by omega)).trans a1
    have cA := bA.trans (b1.mono (by omega))
    have m0 : w1.cell? ⟨B + 1, 0, none⟩ = some (.int .i64 0) := cell_of _ _ _ _ _ q1
    have m1 : w1.cell? ⟨B + 1, 1, none⟩ = some (.slice none 0 0) := cell_of _ _ _ _ _ q1
    have m2 : w1.cell? ⟨B + 1, 2, none⟩ = some (.int .i64 0) := cell_of _ _ _ _ _ q1
    have m3 : w1.cell? ⟨B + 1, 3, none⟩ = some (.bool false) := cell_of _ _ _ _ _ q1
    have f1 : ∀ i, w1.frozen? ⟨B + 1, i, none⟩ = false := fun i => by simp [World.frozen?, q1]
    clear a0 a1 b1 bA cO q1
    go_wp2_with fail
    go_fit (cTM _)
    rintro e w1 ⟨rfl, rfl⟩
    go_wp2_with fail
    obtain ⟨st, bl⟩ := four (Own.nil w1 (B + 2) S) cA (R := B + 1) (by omega) (by omega) (.int .i64 0) (.slice none 0 0) (.int .i64 0) (.bool false)
    refine bodyPost_ret (v := lineV 0 (.slice none 0 0) 0 false) (by simp [results, Try.results12, go_sem, m0, m1, m2, m3]) rfl ⟨⟨_, rfl, Own.nil _ _ _⟩, ?_⟩
    rw [← HB.out]
    exact bl
  · obtain ⟨hsm, ⟨hb0, hb1⟩, ⟨hg0, hg1⟩, hn8, hov⟩ := lineT_parts hR
    rw [hR] at cO
    rw [decide_eq_true (by omega : s.size ≤ 3000)]
    rw [decide_eq_false hbig] at cTM
    simp only [Bool.and_self, if_true, Bool.true_and]
    clear hR
    obtain ⟨bn, rfl⟩ : ∃ bn : Nat, b = (bn : Int) := ⟨b.toNat, by omega⟩
    have HSM : Hid (smallTo S n = true) := hsm
    clear hsm
    obtain ⟨F, hF⟩ : ∃ F, putFull o n = F := ⟨_, rfl⟩
    rw [hF]
    have HF : Hid (putFull o n = F) := hF
    have HOV : Hid (o = true → n = 0) := hov
    clear hF hov
    go_enter Try.func12, Try.ntmps12
    go_wp2_with fail
    rw [← hWA, ← hB]
    clear hWA hB
    go_fit cO
    rintro e w1 ⟨rfl, b1⟩
    have s1 := b1.size
    have cA := bA.trans (b1.mono (by omega))
    have q0 := (b1.block B (by omega)).trans a0
    have q1 := (b1.block (B + 1) (by omega)).trans a1
    have y0 : w1.cell? ⟨B, 0, none⟩ = some (.int .i64 bn) := cell_of _ _ _ _ _ q0
    have y1 : w1.cell? ⟨B, 1, none⟩ = some (.slice o1 n cap1) := cell_of _ _ _ _ _ q0
    have y2 : w1.cell? ⟨B, 2, none⟩ = some (.int .i64 g) := cell_of _ _ _ _ _ q0
    have y3 : w1.cell? ⟨B, 3, none⟩ = some (.bool o) := cell_of _ _ _ _ _ q0
    have cH := ringOf_any bn g o _ n S w1 (HM.out.below b1) (by omega) hn8 HSM.out
    clear a0 a1 bA cO
    go_wp2_with fail
    go_fit (cTM _)
    rintro e w1 ⟨rfl, rfl⟩
    go_wp2_with fail
    go_fit cH
    rintro e w2 ⟨⟨p, rfl, hp0, hpl⟩, b2⟩
    have s2 := b2.size
    have cB := cA.trans (b2.mono (by omega))
    obtain ⟨C, hC, hC8, hall⟩ := hpl
    have lp : p < w2.heap.size := (Array.getElem?_eq_some_iff.1 hC).1
    obtain ⟨M, hM⟩ : ∃ M, M = w2.heap.size := ⟨_, rfl⟩
    obtain ⟨W3, hW3⟩ : ∃ W3, W3 = w2.alloc (.cells #[.slice (some ⟨p, 0, none⟩) 8 8, .int .i64 bn, .int .i64 n] 49) := ⟨_, rfl⟩
    have b3 : Below w2.heap.size w2 W3 := by rw [hW3]; exact below_alloc _ _
    have r3 : RingAt W3 M p bn n S := by
      refine ⟨by omega, hn8, by rw [hW3, hM]; exact World.alloc_heap_new _ _, C, (b3.block p lp).trans hC, hC8, hall⟩
    have s3 : W3.heap.size = M + 1 := by rw [hW3, hM]; simp
    have lM : B + 2 ≤ M := by omega
    have lp0 : B + 2 ≤ p := by omega
    have HR3 : Hid (RingAt W3 M p bn n S) := r3
    have cC := cB.trans (b3.mono (by omega))
    have z0 := (b3.block B (by omega)).trans ((b2.block B (by omega)).trans q0)
    have z1 := (b3.block (B + 1) (by omega)).trans ((b2.block (B + 1) (by omega)).trans q1)
    have NEW : Hid (∀ W : World, Below (B + 2) W3 W → W.cell? ⟨B, 0, none⟩ = some (.int .i64 bn) ∧ W.cell? ⟨B, 2, none⟩ = some (.int .i64 g) ∧ W.cell? ⟨B, 3, none⟩ = some (.bool o)) := fun W bb =>
      have zz := (bb.block B (by omega)).trans z0
      ⟨cell_of _ _ _ _ _ zz, cell_of _ _ _ _ _ zz, cell_of _ _ _ _ _ zz⟩
    have RES : Hid (∀ W : World, Below (B + 2) W3 W → W.heap[B + 1]? = some (.cells #[.int .i64 0, .slice none 0 0, .int .i64 0, .bool false] 28 (0, 0))) := fun W bb => (bb.block (B + 1) (by omega)).trans z1
    clear y0 y1 y2 y3 hC hC8 hall cH r3 z0 z1 cA
    have k0 := (b2.block B (by omega)).trans q0
    have y0 : w2.cell? ⟨B, 0, none⟩ = some (.int .i64 bn) := cell_of _ _ _ _ _ k0
    have y2 : w2.cell? ⟨B, 2, none⟩ = some (.int .i64 g) := cell_of _ _ _ _ _ k0
    have y3 : w2.cell? ⟨B, 3, none⟩ = some (.bool o) := cell_of _ _ _ _ _ k0
    have k1 := (b2.block (B + 1) (by omega)).trans q1
    have l2 : B < w2.heap.size := by omega
    have l3 : B + 1 < w2.heap.size := by omega
    clear q0 q1 b1
    cases o
    · clear b2 k0 k1
      have cCl := clone_any s W3 (by omega)
      go_wp2_with fail
      rw [← hW3, ← hM]
      clear hW3 hM b3
      go_fit cCl
      rintro e w4 ⟨rfl, b4⟩
      have s4 := b4.size
      have c4 : Below (B + 2) W3 w4 := b4.mono (by omega)
      clear cCl y0 y2 y3
      by_cases h8 : n = 8
      · subst h8
        obtain rfl : F = true := by rw [← HF.out]; rfl
        have cF := put_full M p bn S s w4 (HR3.out.below b4)
        go_wp2_with fail
        go_fit cF
        rintro e w5 ⟨rfl, b5⟩
        have c5 : Below (B + 2) W3 w5 := c4.trans (b5.mono (by omega))
        have q5 := RES.out w5 c5
        obtain ⟨y0, y2, y3⟩ := NEW.out w5 c5
        have m0 : w5.cell? ⟨B + 1, 0, none⟩ = some (.int .i64 0) := cell_of _ _ _ _ _ q5
        have m1 : w5.cell? ⟨B + 1, 1, none⟩ = some (.slice none 0 0) := cell_of _ _ _ _ _ q5
        have m2 : w5.cell? ⟨B + 1, 2, none⟩ = some (.int .i64 0) := cell_of _ _ _ _ _ q5
        have m3 : w5.cell? ⟨B + 1, 3, none⟩ = some (.bool false) := cell_of _ _ _ _ _ q5
        have f1 : ∀ i, w5.frozen? ⟨B + 1, i, none⟩ = false := fun i => by simp [World.frozen?, q5]
        have cD := cC.trans (c5.mono (by omega))
        clear q5 cF b5 b4 c4 c5
        go_wp2_with fail
        obtain ⟨st, bl⟩ := four (Own.nil w5 (B + 2) S) cD (R := B + 1) (by omega) (by omega) (.int .i64 bn) (.slice none 0 0) (.int .i64 g) (.bool true)
        refine bodyPost_ret (v := lineV bn (.slice none 0 0) g true) (by simp [results, Try.results12, go_sem, m0, m1, m2, m3]) rfl ⟨⟨_, rfl, Own.nil _ _ _⟩, ?_⟩
        rw [← HB.out]
        exact bl
      · obtain rfl : F = false := by rw [← HF.out]; unfold putFull; rw [decide_eq_false (by omega : ¬ 8 ≤ n)]; rfl
        have hps : putS n S s n = s := if_pos rfl
        have cF := put_any (B + 2) M p bn n (putS n S s) (by omega) (by omega) w4 ((HR3.out.below b4).putS s) lM lp0
        rw [hps] at cF
        clear hps
        go_wp2_with fail
        go_fit cF
        rintro e w5 ⟨rfl, r5, b5⟩
        have c5 : Below (B + 2) W3 w5 := c4.trans b5
        have HR5 : Hid (RingAt w5 M p bn (n + 1) (putS n S s)) := r5
        have s5 := b5.size
        have BD : Below w5.heap.size w5 w5.drew := (Below.refl w5.heap.size w5).drew
        have cL := fun W (bb : Below w5.heap.size w5 W) => list_any M p bn (n + 1) (putS n S s) W (by omega) (HR5.out.below bb)
        obtain ⟨y0, y2, y3⟩ := NEW.out w5 c5
        have cD := cC.trans (c5.mono (by omega))
        clear cF r5 b5 b4 c4
        go_wp2_with fail
        go_region_held3 (fun W => W.cell? ⟨B, 0, none⟩ = some (.int .i64 bn) ∧ W.cell? ⟨B, 2, none⟩ = some (.int .i64 g))
          (first | go_keep | exact ⟨(NEW.out _ c9).1, (NEW.out _ c9).2.1⟩)
          (first
            | (go_at_call 34; refine (cL w5.drew BD).mono ?_; rintro e w9 ⟨⟨v9, rfl, hv9⟩, p9⟩; obtain ⟨o9, c9', hs9⟩ := hv9.shape; subst hs9; have b9 : Below w5.heap.size w5 w9 := BD.trans (p9.mono BD.size); have c9 : Below (B + 2) W3 w9 := c5.trans (b9.mono (by omega)); have HV9 : Hid (Own w9 w5.heap.size (.slice o9 (n + 1) c9') (n + 1) (putS n S s)) := hv9; have q9 := RES.out w9 c9; have m0 : w9.cell? ⟨B + 1, 0, none⟩ = some (.int .i64 0) := cell_of _ _ _ _ _ q9; have m1 : w9.cell? ⟨B + 1, 1, none⟩ = some (.slice none 0 0) := cell_of _ _ _ _ _ q9; have m2 : w9.cell? ⟨B + 1, 2, none⟩ = some (.int .i64 0) := cell_of _ _ _ _ _ q9; have m3 : w9.cell? ⟨B + 1, 3, none⟩ = some (.bool false) := cell_of _ _ _ _ _ q9; have f1 : ∀ i, w9.frozen? ⟨B + 1, i, none⟩ = false := fun i => (by simp [World.frozen?, q9]); clear hv9 p9 q9))
        have cE := cD.trans (b9.mono (by omega))
        clear cL y0 y2 y3
        go_wp2_with fail
        obtain ⟨st, bl⟩ := four HV9.out cE (R := B + 1) (by omega) (by omega) (.int .i64 bn) (.slice o9 (n + 1) c9') (.int .i64 g) (.bool false)
        refine bodyPost_ret (v := lineV bn (.slice o9 (n + 1) c9') g false) (by simp [results, Try.results12, go_sem, m0, m1, m2, m3]) rfl ⟨⟨_, rfl, st.mono (by rw [← HB.out]; omega)⟩, ?_⟩
        rw [← HB.out]
        exact bl
    · obtain rfl : F = true := by rw [← HF.out]; rfl
      have m0 : w2.cell? ⟨B + 1, 0, none⟩ = some (.int .i64 0) := cell_of _ _ _ _ _ k1
      have m1 : w2.cell? ⟨B + 1, 1, none⟩ = some (.slice none 0 0) := cell_of _ _ _ _ _ k1
      have m2 : w2.cell? ⟨B + 1, 2, none⟩ = some (.int .i64 0) := cell_of _ _ _ _ _ k1
      have m3 : w2.cell? ⟨B + 1, 3, none⟩ = some (.bool false) := cell_of _ _ _ _ _ k1
      have f1 : ∀ i, w2.frozen? ⟨B + 1, i, none⟩ = false := fun i => by simp [World.frozen?, k1]
      have sz : ∀ a0 a1 a2 a3 : Value, w2.heap.size ≤ ((((w2.setCell ⟨B + 1, 0, none⟩ a0).setCell ⟨B + 1, 1, none⟩ a1).setCell ⟨B + 1, 2, none⟩ a2).setCell ⟨B + 1, 3, none⟩ a3).heap.size := fun a0 a1 a2 a3 => ((((Below.refl 0 w2).setCell (p := ⟨B + 1, 0, none⟩) (Nat.zero_le _) a0).setCell (p := ⟨B + 1, 1, none⟩) (Nat.zero_le _) a1).setCell (p := ⟨B + 1, 2, none⟩) (Nat.zero_le _) a2).setCell (p := ⟨B + 1, 3, none⟩) (Nat.zero_le _) a3 |>.size
      clear hW3 hM b3 b2 k0 k1
      go_wp2_with fail
      obtain ⟨st, bl⟩ := four (Own.nil w2 (B + 2) S) cB (R := B + 1) (by omega) (by omega) (.int .i64 bn) (.slice none 0 0) (.int .i64 g) (.bool true)
      refine bodyPost_ret (v := lineV bn (.slice none 0 0) g true) (by simp [results, Try.results12, go_sem, m0, m1, m2, m3, l3]) rfl ⟨⟨_, rfl, Own.nil _ _ _⟩, ?_⟩
      rw [← HB.out]
      exact bl.alloc (Nat.le_trans (by omega : B ≤ w2.heap.size) (sz _ _ _ _)) _
end Go.Proofs.Ytpicccdlaiaemaa.Hub
