/-
  impl's LineAck at a line that is ok, not Over, and a count in 0..255; drop of a ring.
-/
import Derived.Test.YtpicccdlaiaemaaLinePutI
import Derived.Deep.RegionWith
namespace Go.Proofs.Ytpicccdlaiaemaa.Hub
open Go.RowKit
set_option linter.unusedVariables false

set_option maxRecDepth 100000 in
set_option maxHeartbeats 4000000 in
theorem drop_yes (base r p b n k : Nat) (S : Nat → ByteArray) (hb : b ≤ 255) (hk : k ≤ n) (w : World) (h : RingAt w r p b n S) (h1 : base ≤ r) :
    Calls Try.prog 40 #[.pointer (some ⟨r, 0, none⟩), .int .i64 k] w fun e w' => e = .returned (.bool true) ∧ RingAt w' r p ((b + k) % 8) (n - k) (fun j => S (k + j)) ∧ Below base w w' := by
  obtain ⟨hne, hn8, hr, C, hp, hC, hall⟩ := h
  have c0 : w.cell? ⟨r, 0, none⟩ = some (.slice (some ⟨p, 0, none⟩) 8 8) := cell_of w _ _ _ _ hr
  have c1 : w.cell? ⟨r, 1, none⟩ = some (.int .i64 b) := cell_of w _ _ _ _ hr
  have c2 : w.cell? ⟨r, 2, none⟩ = some (.int .i64 n) := cell_of w _ _ _ _ hr
  have f2 : ∀ i, w.frozen? ⟨r, i, none⟩ = false := fun i => by simp [World.frozen?, hr]
  have hgt : ¬ (n : Int) < (k : Int) := by omega
  have e1 : IntKind.i64.wrap ((n : Int) - (k : Int)) = (n : Int) - (k : Int) := by rw [IntKind.wrap_i64]; omega
  have HR : Hid (w.heap[r]? = some (.cells #[.slice (some ⟨p, 0, none⟩) 8 8, .int .i64 b, .int .i64 n] 49 (0, 0))) := hr
  have HP : Hid (w.heap[p]? = some (.cells C 9 (0, 0))) := hp
  have HALL : Hid (∀ j, j < n → C[(b + j) % 8]? = some (.string (S j))) := hall
  have cP := fun W x0 x1 => place_any r p b k hb (by omega) W x0 x1
  clear hr hp hall
  go_enter Try.func40, Try.ntmps40
  go_wp2_with fail
  go_region_with (go_at_call 46; refine (cP _ ?_ ?_).mono ?_; (simp [*]); (simp [*]); rintro e w' ⟨rfl, rfl⟩)
  all_goals
    go_wp2_with fail
    go_ret
    have k1 := set_heap w r 1 _ _ _ (.int .i64 (((b : Int) + (k : Int)) % 8)) HR.out
    have k2 := set_heap _ r 2 _ _ _ (.int .i64 ((n : Int) - (k : Int))) k1
    have k3 : ((w.setCell ⟨r, 1, none⟩ (.int .i64 (((b : Int) + (k : Int)) % 8))).setCell ⟨r, 2, none⟩ (.int .i64 ((n : Int) - (k : Int)))).heap[p]? = some (.cells C 9 (0, 0)) := (Below.heap_setCell _ _ _ _ hne).trans ((Below.heap_setCell _ _ _ _ hne).trans HP.out)
    have g1 : ((b : Int) + (k : Int)) % 8 = (((b + k) % 8 : Nat) : Int) := by omega
    have g2 : (n : Int) - (k : Int) = ((n - k : Nat) : Int) := by omega
    refine ⟨rfl, ⟨hne, by omega, ?_, C, k3, hC, fun j hj => ?_⟩, ?_⟩
    · refine Eq.trans k2 ?_
      rw [g1, g2]
      rfl
    · have := HALL.out (k + j) (by omega)
      rw [show ((b + k) % 8 + j) % 8 = (b + (k + j)) % 8 by omega]
      exact this
    · exact (((Below.refl base w).setCell (p := ⟨r, 1, none⟩) h1 _).setCell (p := ⟨r, 2, none⟩) h1 _).drew.drew

set_option maxRecDepth 100000 in
set_option maxHeartbeats 4000000 in
theorem drop_no (r p b n : Nat) (k : Int) (S : Nat → ByteArray) (hk : (n : Int) < k) (w : World) (h : RingAt w r p b n S) :
    Calls Try.prog 40 #[.pointer (some ⟨r, 0, none⟩), .int .i64 k] w fun e w' => e = .returned (.bool false) ∧ w' = w := by
  obtain ⟨hne, hn8, hr, C, hp, hC, hall⟩ := h
  have c2 : w.cell? ⟨r, 2, none⟩ = some (.int .i64 n) := cell_of w _ _ _ _ hr
  clear hr hp hall
  go_enter Try.func40, Try.ntmps40
  go_wp2_with fail
  go_ret
  exact ⟨rfl, rfl⟩

set_option maxRecDepth 100000 in
set_option maxHeartbeats 8000000 in
theorem lineAck_yes (b g h : Int) (q : Value) (n : Nat) (S : Nat → ByteArray) (w : World) (hm : StrAt w q n S) (hn : n ≤ 1048576) (hs : ∀ j, j < n → (S j).size ≤ 9223372036854775807) (hR : lineT b g false n S = true) (hh : 0 ≤ h ∧ h ≤ 255) (hk : ((h - b) % 256) ≤ (n : Int)) :
    Calls Try.prog 21 #[lineV b q g false, .int .i64 h] w fun e w' => (∃ q', e = .returned (.tuple #[lineV h q' g false, .bool true]) ∧ Own w' w.heap.size q' (n - ((h - b) % 256).toNat) (fun j => S (((h - b) % 256).toNat + j))) ∧ Below w.heap.size w w' := by
  obtain ⟨o1, cap1, rfl⟩ := hm.shape
  obtain ⟨B, hB⟩ : ∃ B, B = w.heap.size := ⟨_, rfl⟩
  obtain ⟨WA, hWA⟩ : ∃ WA, WA = (w.alloc (.cells #[.int .i64 b, .slice o1 n cap1, .int .i64 g, .bool false] 28)).alloc (.cells #[.int .i64 0, .slice none 0 0, .int .i64 0, .bool false] 28) := ⟨_, rfl⟩
  have bA : Below w.heap.size w WA := by rw [hWA]; exact ((Below.refl _ w).alloc (Nat.le_refl _) _).alloc (by simp) _
  have sA : WA.heap.size = B + 2 := by rw [hWA, hB]; simp
  have a0 : WA.heap[B]? = some (.cells #[.int .i64 b, .slice o1 n cap1, .int .i64 g, .bool false] 28 (0, 0)) := by
    rw [hWA, hB, Below.heap_alloc _ _ _ (by simp)]; exact World.alloc_heap_new w _
  have a1 : WA.heap[B + 1]? = some (.cells #[.int .i64 0, .slice none 0 0, .int .i64 0, .bool false] 28 (0, 0)) := by
    rw [hWA, hB]
    have := World.alloc_heap_new (w.alloc (.cells #[.int .i64 b, .slice o1 n cap1, .int .i64 g, .bool false] 28)) (.cells #[.int .i64 0, .slice none 0 0, .int .i64 0, .bool false] 28)
    simpa using this
  have hm1 := hm.below bA
  have cO := lineOk_any b g false _ n S WA hm1 hn hs
  have HM : Hid (StrAt WA (.slice o1 n cap1) n S) := hm1
  clear hm hm1 hs
  have HB : Hid (B = w.heap.size) := hB
  rw [← hB] at bA
  obtain ⟨hsm, ⟨hb0, hb1⟩, ⟨hg0, hg1⟩, hn8, _⟩ := lineT_parts hR
  rw [hR] at cO
  clear hR
  obtain ⟨bn, rfl⟩ : ∃ bn : Nat, b = (bn : Int) := ⟨b.toNat, by omega⟩
  have HSM : Hid (smallTo S n = true) := hsm
  clear hsm
  have hib : inB h = true := decide_eq_true hh
  have cCt := fun W => isCount_any h W
  rw [hib] at cCt
  have e1 : IntKind.i64.wrap (h - (bn : Int)) = h - (bn : Int) := by rw [IntKind.wrap_i64]; omega
  have cRc := fun W => roundCount_any (h - (bn : Int)) W (by omega) (by omega)
  obtain ⟨k, hkk⟩ : ∃ k : Nat, (h - (bn : Int)) % 256 = (k : Int) := ⟨((h - (bn : Int)) % 256).toNat, by omega⟩
  rw [hkk] at cRc hk
  rw [hkk]
  simp only [Int.toNat_natCast]
  clear hib
  go_enter Try.func21, Try.ntmps21
  go_wp2_with fail
  rw [← hWA, ← hB]
  clear hWA hB
  go_fit cO
  rintro e w1 ⟨rfl, b1⟩
  have s1 := b1.size
  have cA := bA.trans (b1.mono (by omega))
  have q0 := (b1.block B (by omega)).trans a0
  have q1 := (b1.block (B + 1) (by omega)).trans a1
  have y0 : w1.cell? ⟨B, 0, none⟩ = some (.int .i64 bn) := cell_of _ _ _ _ _ q0
  have y1 : w1.cell? ⟨B, 1, none⟩ = some (.slice o1 n cap1) := cell_of _ _ _ _ _ q0
  have y2 : w1.cell? ⟨B, 2, none⟩ = some (.int .i64 g) := cell_of _ _ _ _ _ q0
  have y3 : w1.cell? ⟨B, 3, none⟩ = some (.bool false) := cell_of _ _ _ _ _ q0
  have cH := ringOf_any bn g false _ n S w1 (HM.out.below b1) (by omega) hn8 HSM.out
  clear a0 a1 bA cO
  go_wp2_with fail
  go_fit cH
  rintro e w2 ⟨⟨p, rfl, hp0, hpl⟩, b2⟩
  have s2 := b2.size
  have cB := cA.trans (b2.mono (by omega))
  obtain ⟨C, hC, hC8, hall⟩ := hpl
  have lp : p < w2.heap.size := (Array.getElem?_eq_some_iff.1 hC).1
  obtain ⟨M, hM⟩ : ∃ M, M = w2.heap.size := ⟨_, rfl⟩
  obtain ⟨W3, hW3⟩ : ∃ W3, W3 = w2.alloc (.cells #[.slice (some ⟨p, 0, none⟩) 8 8, .int .i64 bn, .int .i64 n] 49) := ⟨_, rfl⟩
  have b3 : Below w2.heap.size w2 W3 := by rw [hW3]; exact below_alloc _ _
  have r3 : RingAt W3 M p bn n S := by
    refine ⟨by omega, hn8, by rw [hW3, hM]; exact World.alloc_heap_new _ _, C, (b3.block p lp).trans hC, hC8, hall⟩
  have s3 : W3.heap.size = M + 1 := by rw [hW3, hM]; simp
  have lM : B + 2 ≤ M := by omega
  have lp0 : B + 2 ≤ p := by omega
  have HR3 : Hid (RingAt W3 M p bn n S) := r3
  have cC := cB.trans (b3.mono (by omega))
  have z0 := (b3.block B (by omega)).trans ((b2.block B (by omega)).trans q0)
  have z1 := (b3.block (B + 1) (by omega)).trans ((b2.block (B + 1) (by omega)).trans q1)
  have NEW : Hid (∀ W : World, Below (B + 2) W3 W → W.cell? ⟨B, 0, none⟩ = some (.int .i64 bn) ∧ W.cell? ⟨B, 2, none⟩ = some (.int .i64 g) ∧ W.cell? ⟨B, 3, none⟩ = some (.bool false)) := fun W bb =>
    have zz := (bb.block B (by omega)).trans z0
    ⟨cell_of _ _ _ _ _ zz, cell_of _ _ _ _ _ zz, cell_of _ _ _ _ _ zz⟩
  have RES : Hid (∀ W : World, Below (B + 2) W3 W → W.heap[B + 1]? = some (.cells #[.int .i64 0, .slice none 0 0, .int .i64 0, .bool false] 28 (0, 0))) := fun W bb => (bb.block (B + 1) (by omega)).trans z1
  clear y0 y1 y2 y3 hC hC8 hall cH r3 z0 z1 cA
  have k0 := (b2.block B (by omega)).trans q0
  have y0 : w2.cell? ⟨B, 0, none⟩ = some (.int .i64 bn) := cell_of _ _ _ _ _ k0
  have y2 : w2.cell? ⟨B, 2, none⟩ = some (.int .i64 g) := cell_of _ _ _ _ _ k0
  have y3 : w2.cell? ⟨B, 3, none⟩ = some (.bool false) := cell_of _ _ _ _ _ k0
  have k1 := (b2.block (B + 1) (by omega)).trans q1
  have l2 : B < w2.heap.size := by omega
  have l3 : B + 1 < w2.heap.size := by omega
  clear q0 q1 b1
  clear b2 k0 k1
  go_wp2_with fail
  rw [← hW3, ← hM]
  clear hW3 hM b3
  go_fit (cCt _)
  rintro e w9 ⟨rfl, rfl⟩
  obtain ⟨y0, y2, y3⟩ := NEW.out w9 (Below.refl _ _)
  go_wp2_with fail
  go_fit (cRc _)
  rintro e w9 ⟨rfl, rfl⟩
  have cDr := drop_yes (B + 2) M p bn n k S (by omega) (by omega) w9 HR3.out lM
  go_wp2_with fail
  go_fit cDr
  rintro e w5 ⟨rfl, r5, b5⟩
  have c5 : Below (B + 2) w9 w5 := b5
  have HR5 : Hid (RingAt w5 M p ((bn + k) % 8) (n - k) (fun j => S (k + j))) := r5
  have cL := fun W (bb : Below w5.heap.size w5 W) => list_any M p ((bn + k) % 8) (n - k) (fun j => S (k + j)) W (by omega) (HR5.out.below bb)
  have s5 := c5.size
  have BD : Below w5.heap.size w5 w5.drew := (Below.refl w5.heap.size w5).drew
  clear y0 y2 y3 cDr
  obtain ⟨y0, y2, y3⟩ := NEW.out w5 c5
  have cD := cC.trans (c5.mono (by omega))
  go_wp2_with fail
  go_region_held3 (fun W => W.cell? ⟨B, 0, none⟩ = some (.int .i64 bn) ∧ W.cell? ⟨B, 2, none⟩ = some (.int .i64 g) ∧ W.cell? ⟨B, 3, none⟩ = some (.bool false))
    (first | go_keep | exact NEW.out _ c10)
    (first
      | (go_at_call 34; refine (cL w5.drew BD).mono ?_; rintro e w10 ⟨⟨v9, rfl, hv9⟩, p9⟩; obtain ⟨o9, c9', hs9⟩ := hv9.shape; subst hs9; have b10 : Below w5.heap.size w5 w10 := BD.trans (p9.mono BD.size); have c10 : Below (B + 2) w9 w10 := c5.trans (b10.mono (by omega)); have HV9 : Hid (Own w10 w5.heap.size (.slice o9 (n - k) c9') (n - k) (fun j => S (k + j))) := hv9; have q9 := RES.out w10 c10; have m0 : w10.cell? ⟨B + 1, 0, none⟩ = some (.int .i64 0) := cell_of _ _ _ _ _ q9; have m1 : w10.cell? ⟨B + 1, 1, none⟩ = some (.slice none 0 0) := cell_of _ _ _ _ _ q9; have m2 : w10.cell? ⟨B + 1, 2, none⟩ = some (.int .i64 0) := cell_of _ _ _ _ _ q9; have m3 : w10.cell? ⟨B + 1, 3, none⟩ = some (.bool false) := cell_of _ _ _ _ _ q9; have f1 : ∀ i, w10.frozen? ⟨B + 1, i, none⟩ = false := fun i => (by simp [World.frozen?, q9]); clear hv9 p9 q9))
  have cE := cD.trans (b10.mono (by omega))
  clear cL y0 y2 y3
  go_wp2_with fail
  obtain ⟨st, bl⟩ := four HV9.out cE (R := B + 1) (by omega) (by omega) (.int .i64 h) (.slice o9 (n - k) c9') (.int .i64 g) (.bool false)
  refine bodyPost_ret (v := .tuple #[lineV h (.slice o9 (n - k) c9') g false, .bool true]) (by simp [results, Try.results21, go_sem, m0, m1, m2, m3]) rfl ⟨⟨_, rfl, st.mono (by rw [← HB.out]; omega)⟩, ?_⟩
  rw [← HB.out]
  exact bl

set_option maxRecDepth 100000 in
set_option maxHeartbeats 8000000 in
theorem lineAck_no (b g h : Int) (q : Value) (n : Nat) (S : Nat → ByteArray) (w : World) (hm : StrAt w q n S) (hn : n ≤ 1048576) (hs : ∀ j, j < n → (S j).size ≤ 9223372036854775807) (hR : lineT b g false n S = true) (hh : 0 ≤ h ∧ h ≤ 255) (hk : (n : Int) < (h - b) % 256) :
    Calls Try.prog 21 #[lineV b q g false, .int .i64 h] w fun e w' => (∃ q', e = .returned (.tuple #[lineV b q' g false, .bool false]) ∧ Own w' w.heap.size q' n S) ∧ Below w.heap.size w w' := by
  obtain ⟨o1, cap1, rfl⟩ := hm.shape
  obtain ⟨B, hB⟩ : ∃ B, B = w.heap.size := ⟨_, rfl⟩
  obtain ⟨WA, hWA⟩ : ∃ WA, WA = (w.alloc (.cells #[.int .i64 b, .slice o1 n cap1, .int .i64 g, .bool false] 28)).alloc (.cells #[.int .i64 0, .slice none 0 0, .int .i64 0, .bool false] 28) := ⟨_, rfl⟩
  have bA : Below w.heap.size w WA := by rw [hWA]; exact ((Below.refl _ w).alloc (Nat.le_refl _) _).alloc (by simp) _
  have sA : WA.heap.size = B + 2 := by rw [hWA, hB]; simp
  have a0 : WA.heap[B]? = some (.cells #[.int .i64 b, .slice o1 n cap1, .int .i64 g, .bool false] 28 (0, 0)) := by
    rw [hWA, hB, Below.heap_alloc _ _ _ (by simp)]; exact World.alloc_heap_new w _
  have a1 : WA.heap[B + 1]? = some (.cells #[.int .i64 0, .slice none 0 0, .int .i64 0, .bool false] 28 (0, 0)) := by
    rw [hWA, hB]
    have := World.alloc_heap_new (w.alloc (.cells #[.int .i64 b, .slice o1 n cap1, .int .i64 g, .bool false] 28)) (.cells #[.int .i64 0, .slice none 0 0, .int .i64 0, .bool false] 28)
    simpa using this
  have hm1 := hm.below bA
  have cO := lineOk_any b g false _ n S WA hm1 hn hs
  have HM : Hid (StrAt WA (.slice o1 n cap1) n S) := hm1
  clear hm hm1 hs
  have HB : Hid (B = w.heap.size) := hB
  rw [← hB] at bA
  obtain ⟨hsm, ⟨hb0, hb1⟩, ⟨hg0, hg1⟩, hn8, _⟩ := lineT_parts hR
  rw [hR] at cO
  clear hR
  obtain ⟨bn, rfl⟩ : ∃ bn : Nat, b = (bn : Int) := ⟨b.toNat, by omega⟩
  have HSM : Hid (smallTo S n = true) := hsm
  clear hsm
  have hib : inB h = true := decide_eq_true hh
  have cCt := fun W => isCount_any h W
  rw [hib] at cCt
  have e1 : IntKind.i64.wrap (h - (bn : Int)) = h - (bn : Int) := by rw [IntKind.wrap_i64]; omega
  have cRc := fun W => roundCount_any (h - (bn : Int)) W (by omega) (by omega)
  obtain ⟨k, hkk⟩ : ∃ k : Nat, (h - (bn : Int)) % 256 = (k : Int) := ⟨((h - (bn : Int)) % 256).toNat, by omega⟩
  rw [hkk] at cRc hk
  clear hib
  go_enter Try.func21, Try.ntmps21
  go_wp2_with fail
  rw [← hWA, ← hB]
  clear hWA hB
  go_fit cO
  rintro e w1 ⟨rfl, b1⟩
  have s1 := b1.size
  have cA := bA.trans (b1.mono (by omega))
  have q0 := (b1.block B (by omega)).trans a0
  have q1 := (b1.block (B + 1) (by omega)).trans a1
  have y0 : w1.cell? ⟨B, 0, none⟩ = some (.int .i64 bn) := cell_of _ _ _ _ _ q0
  have y1 : w1.cell? ⟨B, 1, none⟩ = some (.slice o1 n cap1) := cell_of _ _ _ _ _ q0
  have y2 : w1.cell? ⟨B, 2, none⟩ = some (.int .i64 g) := cell_of _ _ _ _ _ q0
  have y3 : w1.cell? ⟨B, 3, none⟩ = some (.bool false) := cell_of _ _ _ _ _ q0
  have cH := ringOf_any bn g false _ n S w1 (HM.out.below b1) (by omega) hn8 HSM.out
  clear a0 a1 bA cO
  go_wp2_with fail
  go_fit cH
  rintro e w2 ⟨⟨p, rfl, hp0, hpl⟩, b2⟩
  have s2 := b2.size
  have cB := cA.trans (b2.mono (by omega))
  obtain ⟨C, hC, hC8, hall⟩ := hpl
  have lp : p < w2.heap.size := (Array.getElem?_eq_some_iff.1 hC).1
  obtain ⟨M, hM⟩ : ∃ M, M = w2.heap.size := ⟨_, rfl⟩
  obtain ⟨W3, hW3⟩ : ∃ W3, W3 = w2.alloc (.cells #[.slice (some ⟨p, 0, none⟩) 8 8, .int .i64 bn, .int .i64 n] 49) := ⟨_, rfl⟩
  have b3 : Below w2.heap.size w2 W3 := by rw [hW3]; exact below_alloc _ _
  have r3 : RingAt W3 M p bn n S := by
    refine ⟨by omega, hn8, by rw [hW3, hM]; exact World.alloc_heap_new _ _, C, (b3.block p lp).trans hC, hC8, hall⟩
  have s3 : W3.heap.size = M + 1 := by rw [hW3, hM]; simp
  have lM : B + 2 ≤ M := by omega
  have lp0 : B + 2 ≤ p := by omega
  have HR3 : Hid (RingAt W3 M p bn n S) := r3
  have cC := cB.trans (b3.mono (by omega))
  have z0 := (b3.block B (by omega)).trans ((b2.block B (by omega)).trans q0)
  have z1 := (b3.block (B + 1) (by omega)).trans ((b2.block (B + 1) (by omega)).trans q1)
  have NEW : Hid (∀ W : World, Below (B + 2) W3 W → W.cell? ⟨B, 0, none⟩ = some (.int .i64 bn) ∧ W.cell? ⟨B, 2, none⟩ = some (.int .i64 g) ∧ W.cell? ⟨B, 3, none⟩ = some (.bool false)) := fun W bb =>
    have zz := (bb.block B (by omega)).trans z0
    ⟨cell_of _ _ _ _ _ zz, cell_of _ _ _ _ _ zz, cell_of _ _ _ _ _ zz⟩
  have RES : Hid (∀ W : World, Below (B + 2) W3 W → W.heap[B + 1]? = some (.cells #[.int .i64 0, .slice none 0 0, .int .i64 0, .bool false] 28 (0, 0))) := fun W bb => (bb.block (B + 1) (by omega)).trans z1
  clear y0 y1 y2 y3 hC hC8 hall cH r3 z0 z1 cA
  have k0 := (b2.block B (by omega)).trans q0
  have y0 : w2.cell? ⟨B, 0, none⟩ = some (.int .i64 bn) := cell_of _ _ _ _ _ k0
  have y2 : w2.cell? ⟨B, 2, none⟩ = some (.int .i64 g) := cell_of _ _ _ _ _ k0
  have y3 : w2.cell? ⟨B, 3, none⟩ = some (.bool false) := cell_of _ _ _ _ _ k0
  have k1 := (b2.block (B + 1) (by omega)).trans q1
  have l2 : B < w2.heap.size := by omega
  have l3 : B + 1 < w2.heap.size := by omega
  clear q0 q1 b1
  clear b2 k0 k1
  go_wp2_with fail
  rw [← hW3, ← hM]
  clear hW3 hM b3
  go_fit (cCt _)
  rintro e w9 ⟨rfl, rfl⟩
  obtain ⟨y0, y2, y3⟩ := NEW.out w9 (Below.refl _ _)
  go_wp2_with fail
  go_fit (cRc _)
  rintro e w9 ⟨rfl, rfl⟩
  have cDr := drop_no M p bn n (k : Int) S hk w9 HR3.out
  go_wp2_with fail
  go_fit cDr
  rintro e w5 ⟨rfl, hw5⟩
  have c5 : Below (B + 2) w9 w5 := by rw [hw5]; exact Below.refl _ _
  have HR5 : Hid (RingAt w5 M p bn n S) := by rw [hw5]; exact HR3.out
  clear hw5
  have cL := fun W (bb : Below w5.heap.size w5 W) => list_any M p bn n S W (by omega) (HR5.out.below bb)
  have s5 := c5.size
  have BD : Below w5.heap.size w5 w5.drew := (Below.refl w5.heap.size w5).drew
  clear y0 y2 y3 cDr
  obtain ⟨y0, y2, y3⟩ := NEW.out w5 c5
  have cD := cC.trans (c5.mono (by omega))
  go_wp2_with fail
  go_region_held3 (fun W => W.cell? ⟨B, 0, none⟩ = some (.int .i64 bn) ∧ W.cell? ⟨B, 2, none⟩ = some (.int .i64 g) ∧ W.cell? ⟨B, 3, none⟩ = some (.bool false))
    (first | go_keep | exact NEW.out _ c10)
    (first
      | (go_at_call 34; refine (cL w5.drew BD).mono ?_; rintro e w10 ⟨⟨v9, rfl, hv9⟩, p9⟩; obtain ⟨o9, c9', hs9⟩ := hv9.shape; subst hs9; have b10 : Below w5.heap.size w5 w10 := BD.trans (p9.mono BD.size); have c10 : Below (B + 2) w9 w10 := c5.trans (b10.mono (by omega)); have HV9 : Hid (Own w10 w5.heap.size (.slice o9 n c9') n S) := hv9; have q9 := RES.out w10 c10; have m0 : w10.cell? ⟨B + 1, 0, none⟩ = some (.int .i64 0) := cell_of _ _ _ _ _ q9; have m1 : w10.cell? ⟨B + 1, 1, none⟩ = some (.slice none 0 0) := cell_of _ _ _ _ _ q9; have m2 : w10.cell? ⟨B + 1, 2, none⟩ = some (.int .i64 0) := cell_of _ _ _ _ _ q9; have m3 : w10.cell? ⟨B + 1, 3, none⟩ = some (.bool false) := cell_of _ _ _ _ _ q9; have f1 : ∀ i, w10.frozen? ⟨B + 1, i, none⟩ = false := fun i => (by simp [World.frozen?, q9]); clear hv9 p9 q9))
  have cE := cD.trans (b10.mono (by omega))
  clear cL y0 y2 y3
  go_wp2_with fail
  obtain ⟨st, bl⟩ := four HV9.out cE (R := B + 1) (by omega) (by omega) (.int .i64 bn) (.slice o9 n c9') (.int .i64 g) (.bool false)
  refine bodyPost_ret (v := .tuple #[lineV bn (.slice o9 n c9') g false, .bool false]) (by simp [results, Try.results21, go_sem, m0, m1, m2, m3]) rfl ⟨⟨_, rfl, st.mono (by rw [← HB.out]; omega)⟩, ?_⟩
  rw [← HB.out]
  exact bl
end Go.Proofs.Ytpicccdlaiaemaa.Hub
