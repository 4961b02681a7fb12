/-
  The laws' own hbTexts and hbLine at the same; what spec.DrawLineHeard, DrawLineSent, DrawLinePut give.
-/
import Derived.Test.YtpicccdlaiaemaaDrawLine
import Derived.Test.YtpicccdlaiaemaaLinePutI
import Derived.Test.YtpicccdlaiaemaaArgB
namespace Go.Proofs.Ytpicccdlaiaemaa.Hub
open Go.RowKit
set_option linter.unusedVariables false

set_option maxRecDepth 100000 in
set_option maxHeartbeats 2000000 in
theorem hbTexts_same (v1 v2 : Value) (n : Nat) (S : Nat → ByteArray) (w : World) (hm1 : StrAt w v1 n S) (hm2 : StrAt w v2 n S) :
    Calls Try.prog 17 #[v1, v2] w fun e w' => e = .returned (.bool true) ∧ Below w.heap.size w w' := by
  obtain ⟨o1, cap1, rfl, g1, g1', hc1⟩ := hm1
  obtain ⟨o2, cap2, rfl, g2, g2', hc2⟩ := hm2
  have s1 : cap1 ≤ 9223372036854775807 := g1'.1
  have s2 : cap2 ≤ 9223372036854775807 := g2'.1
  clear g1' g2'
  have HC1 : Hid (∀ j, j < n → ∃ b f : Nat, o1 = some ⟨b, f, none⟩ ∧ b < w.heap.size ∧ w.cell? ⟨b, f + j, none⟩ = some (.string (S j))) := hc1
  have HC2 : Hid (∀ j, j < n → ∃ b f : Nat, o2 = some ⟨b, f, none⟩ ∧ b < w.heap.size ∧ w.cell? ⟨b, f + j, none⟩ = some (.string (S j))) := hc2
  clear hc1 hc2
  go_enter Try.func17, Try.ntmps17
  go_wp2_with fail
  go_loopw [5] (fun i wr => ∃ k : Nat, k ≤ n ∧ i = .int .i64 k ∧ Below w.heap.size w wr) (fun i _ => n - (intOf i).toNat)
  case atStart => exact ⟨0, Nat.zero_le _, rfl, Below.refl _ _⟩
  case round =>
    obtain ⟨k, hk, rfl, bw⟩ := hrel
    by_cases hlt : k < n
    · obtain ⟨b, f, ho, hb, c0⟩ := HC1.out k hlt
      obtain ⟨b2, f2, ho2, hb2, e0⟩ := HC2.out k hlt
      subst ho ho2
      have i1 : (0 : Int) ≤ (k : Int) := by omega
      have i2 : (k : Int) < (n : Int) := by omega
      have d0 := (bw.cell (p := ⟨b, f + k, none⟩) hb).trans c0
      have d1 := (bw.cell (p := ⟨b2, f2 + k, none⟩) hb2).trans e0
      have b1 := bw.drew
      clear c0 e0
      generalize S k = s at *
      go_wp2_with fail
      go_region
      go_wp2_with fail
      refine ⟨⟨k + 1, by omega, rfl, b1⟩, by simp [intOf]; omega⟩
    · obtain rfl : k = n := by omega
      go_wp2_with fail
      go_ret
      exact ⟨rfl, bw⟩

set_option maxRecDepth 100000 in
set_option maxHeartbeats 2000000 in
theorem hbLine_same (b g : Int) (o : Bool) (q1 q2 : Value) (n : Nat) (S : Nat → ByteArray) (w : World) (hm1 : StrAt w q1 n S) (hm2 : StrAt w q2 n S) :
    Calls Try.prog 13 #[lineV b q1 g o, lineV b q2 g o] w fun e w' => e = .returned (.bool true) ∧ Below w.heap.size w w' := by
  have b0 := (below_alloc w (.cells #[.int .i64 b, q1, .int .i64 g, .bool o] 28)).trans ((below_alloc (w.alloc (.cells #[.int .i64 b, q1, .int .i64 g, .bool o] 28)) (.cells #[.int .i64 b, q2, .int .i64 g, .bool o] 28)).mono (by simp))
  have c := hbTexts_same q1 q2 n S _ (hm1.below b0) (hm2.below b0)
  obtain ⟨o1, cap1, rfl⟩ := hm1.shape
  obtain ⟨o2, cap2, rfl⟩ := hm2.shape
  clear hm1 hm2
  have CC : Hid (∀ W : World, Below (w.heap.size + 1 + 1) ((w.alloc (.cells #[.int .i64 b, .slice o1 n cap1, .int .i64 g, .bool o] 28)).alloc (.cells #[.int .i64 b, .slice o2 n cap2, .int .i64 g, .bool o] 28)) W → W.cell? ⟨w.heap.size, 2, none⟩ = some (.int .i64 g) ∧ W.cell? ⟨w.heap.size, 3, none⟩ = some (.bool o) ∧ W.cell? ⟨w.heap.size + 1, 2, none⟩ = some (.int .i64 g) ∧ W.cell? ⟨w.heap.size + 1, 3, none⟩ = some (.bool o)) := fun W bb =>
    ⟨(bb.cell (p := ⟨w.heap.size, 2, none⟩) (by show w.heap.size < _; omega)).trans (by simp [go_sem]), (bb.cell (p := ⟨w.heap.size, 3, none⟩) (by show w.heap.size < _; omega)).trans (by simp [go_sem]), (bb.cell (p := ⟨w.heap.size + 1, 2, none⟩) (by show w.heap.size + 1 < _; omega)).trans (by simp [go_sem]), (bb.cell (p := ⟨w.heap.size + 1, 3, none⟩) (by show w.heap.size + 1 < _; omega)).trans (by simp [go_sem])⟩
  have hoo : (o == o) = true := beq_self_eq_true o
  go_enter Try.func13, Try.ntmps13
  go_wp2_with fail
  go_fit c
  rintro e w1 ⟨rfl, b1⟩
  have b2 := b0.trans (b1.mono b0.size)
  simp at b1
  obtain ⟨x1, x2, x3, x4⟩ := CC.out w1 b1
  clear c b0 b1
  go_wp2_with fail
  go_ret
  exact ⟨rfl, b2⟩

/-- What a line drawn by the law is. -/
def Drawn (w w' : World) (b g : Int) (o : Bool) (q : Value) (n : Nat) (S : Nat → ByteArray) : Prop :=
  StrAt w' q n S ∧ n ≤ 9 ∧ (∀ j, j < n → (S j).size ≤ 10) ∧ (-1 ≤ b ∧ b ≤ 256) ∧ (0 ≤ g ∧ g ≤ 255) ∧ Below w.heap.size w w'

set_option maxRecDepth 100000 in
set_option maxHeartbeats 2000000 in
theorem drawLineHeard_any (v : Value) (n : Nat) (w : World) (h : BytesAt w.heap.size w v n) :
    Calls Try.prog 22 #[v] w fun e w' => ∃ b g o q n S, e = .returned (lineV b q g o) ∧ Drawn w w' b g o q n S := by
  obtain ⟨R, hR⟩ : ∃ R, R = w.heap.size := ⟨_, rfl⟩
  obtain ⟨WA, hWA⟩ : ∃ WA, WA = w.alloc (.cells #[.int .i64 0, .slice none 0 0, .int .i64 0, .bool false] 28) := ⟨_, rfl⟩
  have bA : Below w.heap.size w WA := by rw [hWA]; exact below_alloc w _
  have sA : R < WA.heap.size := by rw [hWA, hR]; simp
  have aR : WA.heap[R]? = some (.cells #[.int .i64 0, .slice none 0 0, .int .i64 0, .bool false] 28 (0, 0)) := by rw [hWA, hR]; exact World.alloc_heap_new w _
  have cO := open_any v n WA ((h.below bA).wider bA.size)
  obtain ⟨o1, cap1, rfl⟩ := bytes_shape h
  have HR : Hid (R = w.heap.size) := hR
  go_enter Try.func22, Try.ntmps22
  go_wp2_with fail
  rw [← hWA, ← hR]
  rw [← hR] at bA
  clear hWA hR h
  go_fit cO
  rintro e w1 ⟨rfl, rd1, b1⟩
  have s1 := b1.size
  have cL := line_any WA.heap.size WA.heap.size 0 (by omega) w1 s1 rd1
  go_wp2_with fail
  go_fit cL
  rintro e w2 ⟨⟨b, g, o, q, n, S, rfl, hO, hn9, hS, hb, hg⟩, _, z2, b2⟩
  obtain ⟨o3, c3, rfl⟩ := hO.shape
  have q2 := (b2.block R sA).trans ((b1.block R sA).trans aR)
  have m0 : w2.cell? ⟨R, 0, none⟩ = some (.int .i64 0) := cell_of _ _ _ _ _ q2
  have m1 : w2.cell? ⟨R, 1, none⟩ = some (.slice none 0 0) := cell_of _ _ _ _ _ q2
  have m2 : w2.cell? ⟨R, 2, none⟩ = some (.int .i64 0) := cell_of _ _ _ _ _ q2
  have m3 : w2.cell? ⟨R, 3, none⟩ = some (.bool false) := cell_of _ _ _ _ _ q2
  have f1 : ∀ i, w2.frozen? ⟨R, i, none⟩ = false := fun i => by simp [World.frozen?, q2]
  have HO : Hid (Own w2 w1.heap.size (.slice o3 n c3) n S) := hO
  have HS : Hid (∀ j, j < n → (S j).size ≤ 10) := hS
  have bW : Below R w w2 := (bA.trans (b1.mono (by omega))).trans (b2.mono (by omega))
  clear hO hS q2 cO cL b1 b2 aR bA
  go_wp2_with fail
  obtain ⟨st, bl⟩ := four HO.out bW (R := R) (by omega) (by omega) (.int .i64 b) (.slice o3 n c3) (.int .i64 g) (.bool o)
  refine bodyPost_ret (v := lineV b (.slice o3 n c3) g o) (by simp [results, Try.results22, go_sem, m0, m1, m2, m3]) rfl ⟨b, g, o, _, n, S, rfl, st.strAt, hn9, HS.out, hb, hg, ?_⟩
  rw [← HR.out]
  exact bl
set_option maxRecDepth 100000 in
set_option maxHeartbeats 2000000 in
theorem drawLineSent_any (v : Value) (n : Nat) (w : World) (h : BytesAt w.heap.size w v n) :
    Calls Try.prog 19 #[v] w fun e w' => ∃ b g o q n S, e = .returned (lineV b q g o) ∧ Drawn w w' b g o q n S := by
  obtain ⟨R, hR⟩ : ∃ R, R = w.heap.size := ⟨_, rfl⟩
  obtain ⟨WA, hWA⟩ : ∃ WA, WA = w.alloc (.cells #[.int .i64 0, .slice none 0 0, .int .i64 0, .bool false] 28) := ⟨_, rfl⟩
  have bA : Below w.heap.size w WA := by rw [hWA]; exact below_alloc w _
  have sA : R < WA.heap.size := by rw [hWA, hR]; simp
  have aR : WA.heap[R]? = some (.cells #[.int .i64 0, .slice none 0 0, .int .i64 0, .bool false] 28 (0, 0)) := by rw [hWA, hR]; exact World.alloc_heap_new w _
  have cO := open_any v n WA ((h.below bA).wider bA.size)
  obtain ⟨o1, cap1, rfl⟩ := bytes_shape h
  have HR : Hid (R = w.heap.size) := hR
  go_enter Try.func19, Try.ntmps19
  go_wp2_with fail
  rw [← hWA, ← hR]
  rw [← hR] at bA
  clear hWA hR h
  go_fit cO
  rintro e w1 ⟨rfl, rd1, b1⟩
  have s1 := b1.size
  have cL := line_any WA.heap.size WA.heap.size 0 (by omega) w1 s1 rd1
  go_wp2_with fail
  go_fit cL
  rintro e w2 ⟨⟨b, g, o, q, n, S, rfl, hO, hn9, hS, hb, hg⟩, _, z2, b2⟩
  obtain ⟨o3, c3, rfl⟩ := hO.shape
  have q2 := (b2.block R sA).trans ((b1.block R sA).trans aR)
  have m0 : w2.cell? ⟨R, 0, none⟩ = some (.int .i64 0) := cell_of _ _ _ _ _ q2
  have m1 : w2.cell? ⟨R, 1, none⟩ = some (.slice none 0 0) := cell_of _ _ _ _ _ q2
  have m2 : w2.cell? ⟨R, 2, none⟩ = some (.int .i64 0) := cell_of _ _ _ _ _ q2
  have m3 : w2.cell? ⟨R, 3, none⟩ = some (.bool false) := cell_of _ _ _ _ _ q2
  have f1 : ∀ i, w2.frozen? ⟨R, i, none⟩ = false := fun i => by simp [World.frozen?, q2]
  have HO : Hid (Own w2 w1.heap.size (.slice o3 n c3) n S) := hO
  have HS : Hid (∀ j, j < n → (S j).size ≤ 10) := hS
  have bW : Below R w w2 := (bA.trans (b1.mono (by omega))).trans (b2.mono (by omega))
  clear hO hS q2 cO cL b1 b2 aR bA
  go_wp2_with fail
  obtain ⟨st, bl⟩ := four HO.out bW (R := R) (by omega) (by omega) (.int .i64 b) (.slice o3 n c3) (.int .i64 g) (.bool o)
  refine bodyPost_ret (v := lineV b (.slice o3 n c3) g o) (by simp [results, Try.results19, go_sem, m0, m1, m2, m3]) rfl ⟨b, g, o, _, n, S, rfl, st.strAt, hn9, HS.out, hb, hg, ?_⟩
  rw [← HR.out]
  exact bl
end Go.Proofs.Ytpicccdlaiaemaa.Hub
