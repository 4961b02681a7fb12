/-
  LinePut, the model's and the program's, at every line and every text.
-/
import Derived.Test.YtpicccdlaiaemaaLineImpl
namespace Go.Proofs.Ytpicccdlaiaemaa.Hub
open Go.RowKit
set_option linter.unusedVariables false

/-- Whether a text may be put at all, and whether there is no room for it. -/
def putOk (b g : Int) (o : Bool) (n : Nat) (S : Nat → ByteArray) (s : ByteArray) : Bool := lineT b g o n S && decide (s.size ≤ 3000)
def putFull (o : Bool) (n : Nat) : Bool := o || decide (8 ≤ n)
def putB (b g : Int) (o : Bool) (n : Nat) (S : Nat → ByteArray) (s : ByteArray) : Int := if putOk b g o n S s then b else 0
def putG (b g : Int) (o : Bool) (n : Nat) (S : Nat → ByteArray) (s : ByteArray) : Int := if putOk b g o n S s then g else 0
def putO (b g : Int) (o : Bool) (n : Nat) (S : Nat → ByteArray) (s : ByteArray) : Bool := putOk b g o n S s && putFull o n
def putN (b g : Int) (o : Bool) (n : Nat) (S : Nat → ByteArray) (s : ByteArray) : Nat := if putOk b g o n S s then (if putFull o n then 0 else n + 1) else 0
def putS (n : Nat) (S : Nat → ByteArray) (s : ByteArray) : Nat → ByteArray := fun j => if j = n then s else S j
theorem putS_vs (n : Nat) (S : Nat → ByteArray) (s : ByteArray) : strVs (putS n S s) (n + 1) = strVs S n ++ [.string s] := by
  rw [strVs_succ]
  congr 1
  · apply List.ext_getElem?
    intro j
    by_cases hj : j < n
    · rw [strVs_at _ n j hj, strVs_at _ n j hj]
      have : putS n S s j = S j := if_neg (by omega)
      rw [this]
    · rw [List.getElem?_eq_none (by rw [strVs_len]; omega), List.getElem?_eq_none (by rw [strVs_len]; omega)]
  · have : putS n S s n = s := if_pos rfl
    rw [this]

theorem Own.setNe {W : World} {base : Nat} {v : Value} {n : Nat} {S : Nat → ByteArray} (h : Own W base v n S) (p : Addr) (x : Value) (hp : ∀ k, v.ownBlock = some k → p.block ≠ k) : Own (W.setCell p x) base v n S := by
  refine ⟨h.1, ?_⟩
  rcases h.2 with h2 | ⟨g, cap, cur, hv, hb2, hg, rest⟩
  · exact .inl h2
  · exact .inr ⟨g, cap, cur, hv, hb2, (Below.heap_setCell _ _ _ _ (fun e => hp g (by rw [hv]; rfl) e.symm)).trans hg, rest⟩

set_option maxRecDepth 100000 in
set_option maxHeartbeats 4000000 in
theorem l9Put_any (b g : Int) (o : Bool) (q : Value) (n : Nat) (S : Nat → ByteArray) (s : ByteArray) (w : World) (hm : StrAt w q n S) (hn : n ≤ 8) :
    Calls Try.prog 36 #[lineV b q g o, .string s] w fun e w' => (∃ q', e = .returned (lineV b q' g (putFull o n)) ∧ Own w' w.heap.size q' (if putFull o n then 0 else n + 1) (putS n S s)) ∧ Below w.heap.size w w' := by
  obtain ⟨i0, hi0, hz0, hz1, hz2⟩ := info_parts info_text
  obtain ⟨o1, cap1, rfl⟩ := hm.shape
  obtain ⟨B, hB⟩ : ∃ B, B = w.heap.size := ⟨_, rfl⟩
  obtain ⟨F, hF⟩ : ∃ F, putFull o n = F := ⟨_, rfl⟩
  rw [hF]
  have HF : Hid (putFull o n = F) := hF
  clear hF
  go_enter Try.func36, Try.ntmps36
  go_wp2_with fail
  obtain ⟨WA, hWA⟩ : ∃ WA, WA = (w.alloc (.cells #[.int .i64 b, .slice o1 n cap1, .int .i64 g, .bool o] 28)).alloc (.cells #[.int .i64 0, .slice none 0 0, .int .i64 0, .bool false] 28) := ⟨_, rfl⟩
  have bA : Below w.heap.size w WA := by rw [hWA]; exact ((Below.refl _ w).alloc (Nat.le_refl _) _).alloc (by simp) _
  have sA : WA.heap.size = B + 2 := by rw [hWA, hB]; simp
  have a0 : WA.heap[B]? = some (.cells #[.int .i64 b, .slice o1 n cap1, .int .i64 g, .bool o] 28 (0, 0)) := by
    rw [hWA, hB, Below.heap_alloc _ _ _ (by simp)]; exact World.alloc_heap_new w _
  have a1 : WA.heap[B + 1]? = some (.cells #[.int .i64 0, .slice none 0 0, .int .i64 0, .bool false] 28 (0, 0)) := by
    rw [hWA, hB]
    have := World.alloc_heap_new (w.alloc (.cells #[.int .i64 b, .slice o1 n cap1, .int .i64 g, .bool o] 28)) (.cells #[.int .i64 0, .slice none 0 0, .int .i64 0, .bool false] 28)
    simpa using this
  have cT := l9Copy_any b g o _ n S WA (hm.below bA) (by omega)
  rw [← hWA, ← hB]
  rw [← hB] at bA
  have HB : Hid (B = w.heap.size) := hB
  clear hWA hm hB
  go_fit cT
  rintro e w1 ⟨⟨v1, rfl, hm1⟩, b1⟩
  obtain ⟨o3, c3, rfl⟩ := hm1.shape
  have s1 := b1.size
  have cA := bA.trans (b1.mono (by omega))
  have HM : Hid (Own w1 WA.heap.size (.slice o3 n c3) n S) := hm1
  have q0 := (b1.block B (by omega)).trans a0
  have q1 := (b1.block (B + 1) (by omega)).trans a1
  have l0 : B < w1.heap.size := by omega
  have l1 : B + 1 < w1.heap.size := by omega
  have x1 : w1.cell? ⟨B, 1, none⟩ = some (.slice o1 n cap1) := cell_of _ _ _ _ _ q0
  have x3 : w1.cell? ⟨B, 3, none⟩ = some (.bool o) := cell_of _ _ _ _ _ q0
  have m0 : w1.cell? ⟨B + 1, 0, none⟩ = some (.int .i64 0) := cell_of _ _ _ _ _ q1
  have m1 : w1.cell? ⟨B + 1, 1, none⟩ = some (.slice none 0 0) := cell_of _ _ _ _ _ q1
  have m2 : w1.cell? ⟨B + 1, 2, none⟩ = some (.int .i64 0) := cell_of _ _ _ _ _ q1
  have m3 : w1.cell? ⟨B + 1, 3, none⟩ = some (.bool false) := cell_of _ _ _ _ _ q1
  have f1 : ∀ i, w1.frozen? ⟨B + 1, i, none⟩ = false := fun i => by simp [World.frozen?, q1]
  have sz : ∀ a0 a1 a2 a3 : Value, w1.heap.size ≤ ((((w1.setCell ⟨B + 1, 0, none⟩ a0).setCell ⟨B + 1, 1, none⟩ a1).setCell ⟨B + 1, 2, none⟩ a2).setCell ⟨B + 1, 3, none⟩ a3).heap.size := fun a0 a1 a2 a3 => ((((Below.refl 0 w1).setCell (p := ⟨B + 1, 0, none⟩) (Nat.zero_le _) a0).setCell (p := ⟨B + 1, 1, none⟩) (Nat.zero_le _) a1).setCell (p := ⟨B + 1, 2, none⟩) (Nat.zero_le _) a2).setCell (p := ⟨B + 1, 3, none⟩) (Nat.zero_le _) a3 |>.size
  clear hm1 a0 a1 b1 bA cT q0
  by_cases h8 : (8 : Int) ≤ (n : Int)
  · obtain rfl : F = true := by rw [← HF.out]; unfold putFull; rw [decide_eq_true (by omega : 8 ≤ n), Bool.or_true]
    clear q1 HF
    go_wp2_with fail
    obtain ⟨st, bl⟩ := four HM.out cA (R := B + 1) (by omega) (by omega) (.int .i64 b) (.slice none 0 0) (.int .i64 g) (.bool true)
    refine bodyPost_ret (v := lineV b (.slice none 0 0) g true) (by simp [results, Try.results36, go_sem, m0, m1, m2, m3, l1]) rfl ⟨⟨_, rfl, Own.nil _ _ _⟩, ?_⟩
    rw [← HB.out]
    exact bl.alloc (Nat.le_trans (by omega : B ≤ w1.heap.size) (sz _ _ _ _)) _
  · cases o
    · obtain rfl : F = false := by rw [← HF.out]; unfold putFull; rw [decide_eq_false (by omega : ¬ 8 ≤ n)]; rfl
      clear HF
      have hown2 : ((w1.alloc (.cells #[.int .i64 b, .slice o3 n c3, .int .i64 g, .bool false] 28)).alloc (.cells #[.string s] 9)).ownsRow WA.heap.size 9 1 (.slice o3 n c3) n (strVs S n) := World.ownsRow.alloc (World.ownsRow.alloc HM.out _) _
      have hnews := cell_one_new (w1.alloc (.cells #[.int .i64 b, .slice o3 n c3, .int .i64 g, .bool false] 28)) (.string s) 9
      rw [show (w1.alloc (.cells #[.int .i64 b, .slice o3 n c3, .int .i64 g, .bool false] 28)).heap.size = w1.heap.size + 1 by simp] at hnews
      have hX : ((w1.alloc (.cells #[.int .i64 b, .slice o3 n c3, .int .i64 g, .bool false] 28)).alloc (.cells #[.string s] 9)).heap[w1.heap.size]? = some (.cells #[.int .i64 b, .slice o3 n c3, .int .i64 g, .bool false] 28 (0, 0)) := by
        rw [Below.heap_alloc _ _ _ (by simp)]; exact World.alloc_heap_new _ _
      have hR : ((w1.alloc (.cells #[.int .i64 b, .slice o3 n c3, .int .i64 g, .bool false] 28)).alloc (.cells #[.string s] 9)).heap[B + 1]? = some (.cells #[.int .i64 0, .slice none 0 0, .int .i64 0, .bool false] 28 (0, 0)) := by
        rw [Below.heap_alloc _ _ _ (by simp; omega), Below.heap_alloc _ _ _ l1]; exact q1
      have HX : Hid (((w1.alloc (.cells #[.int .i64 b, .slice o3 n c3, .int .i64 g, .bool false] 28)).alloc (.cells #[.string s] 9)).heap[w1.heap.size]? = some (.cells #[.int .i64 b, .slice o3 n c3, .int .i64 g, .bool false] 28 (0, 0))) := hX
      have HR : Hid (((w1.alloc (.cells #[.int .i64 b, .slice o3 n c3, .int .i64 g, .bool false] 28)).alloc (.cells #[.string s] 9)).heap[B + 1]? = some (.cells #[.int .i64 0, .slice none 0 0, .int .i64 0, .bool false] 28 (0, 0))) := hR
      have hn63 : n + 1 ≤ maxLen := by unfold maxLen; omega
      have ROW := fun k hk => (HM.out.row k hk)
      simp only [sA] at ROW
      have BW2 : Hid (Below B w ((w1.alloc (.cells #[.int .i64 b, .slice o3 n c3, .int .i64 g, .bool false] 28)).alloc (.cells #[.string s] 9))) := (cA.alloc (by omega) _).alloc (by simp; omega) _
      clear hX hR q1
      go_wp2_with (at_builtin; refine wpList_append_lies _ rfl _ _ _ rfl WA.heap.size 9 i0 _ 1 16 Try.underlying26 hi0 hz0 hz1 hz2 rfl (by omega) _ n (strVs S n) rfl hown2 ⟨w1.heap.size + 1, 0, none⟩ 1 1 [.string s] rfl rfl hnews (by simp [Value.oneCell']) (by omega) hn63 (by omega) (by simp; omega) (w1.heap.size + 1 + 1) (by simp) ?_; intro gg cap w2 hown1 hgrow hat hlt2; have q2 := (hgrow.block w1.heap.size (by simp; omega) (fun e => (by have := (ROW w1.heap.size e.symm).2; omega))).trans HX.out; have q3 := (hgrow.block (B + 1) (by simp; omega) (fun e => (by have := (ROW (B + 1) e.symm).1; omega))).trans HR.out; have n0 : w2.cell? ⟨w1.heap.size, 0, none⟩ = some (.int .i64 b) := cell_of _ _ _ _ _ q2; have n1 : w2.cell? ⟨w1.heap.size, 1, none⟩ = some (.slice o3 n c3) := cell_of _ _ _ _ _ q2; have n2 : w2.cell? ⟨w1.heap.size, 2, none⟩ = some (.int .i64 g) := cell_of _ _ _ _ _ q2; have n3 : w2.cell? ⟨w1.heap.size, 3, none⟩ = some (.bool false) := cell_of _ _ _ _ _ q2; have f2 : ∀ i, w2.frozen? ⟨w1.heap.size, i, none⟩ = false := fun i => (by simp [World.frozen?, q2]); have k0 : w2.cell? ⟨B + 1, 0, none⟩ = some (.int .i64 0) := cell_of _ _ _ _ _ q3; have k1 : w2.cell? ⟨B + 1, 1, none⟩ = some (.slice none 0 0) := cell_of _ _ _ _ _ q3; have k2 : w2.cell? ⟨B + 1, 2, none⟩ = some (.int .i64 0) := cell_of _ _ _ _ _ q3; have k3 : w2.cell? ⟨B + 1, 3, none⟩ = some (.bool false) := cell_of _ _ _ _ _ q3; have f3 : ∀ i, w2.frozen? ⟨B + 1, i, none⟩ = false := fun i => (by simp [World.frozen?, q3]); have hne : w1.heap.size ≠ B + 1 := (by omega); have HO : Hid (w2.ownsRow WA.heap.size 9 1 (.slice (some ⟨gg, 0, none⟩) (n + 1) cap) (n + 1) (strVs S n ++ [.string s])) := hown1; have BG : Hid (Below B w w2) := BW2.out.trans (below_grown hgrow (by simp; omega) (fun k hk => (by have := (ROW k hk).1; omega))); have HAT : Hid (Value.ownBlock (.slice o3 n c3) = some gg ∨ gg = w1.heap.size + 1 + 1) := hat; clear hown1 hgrow hat q2 q3 hown2 hnews)
      have hO : Own w2 (B + 2) (.slice (some ⟨gg, 0, none⟩) (n + 1) cap) (n + 1) (putS n S s) := by
        unfold Own
        rw [putS_vs, ← sA]
        exact HO.out
      have hgg : gg ≠ w1.heap.size := by
        rcases HAT.out with h | h
        · have := (ROW gg h).2; omega
        · omega
      have hO2 := hO.setNe ⟨w1.heap.size, 1, none⟩ (.slice (some ⟨gg, 0, none⟩) (n + 1) cap) (fun k hk => by
        have hk' : gg = k := by simpa [Value.ownBlock] using hk
        show w1.heap.size ≠ k
        omega)
      have bl2 := BG.out.setCell (p := ⟨w1.heap.size, 1, none⟩) (by show B ≤ w1.heap.size; omega) (.slice (some ⟨gg, 0, none⟩) (n + 1) cap)
      obtain ⟨st, bl⟩ := four hO2 bl2 (R := B + 1) (by omega) (by omega) (.int .i64 b) (.slice (some ⟨gg, 0, none⟩) (n + 1) cap) (.int .i64 g) (.bool false)
      refine bodyPost_ret (v := lineV b (.slice (some ⟨gg, 0, none⟩) (n + 1) cap) g false) (by simp [results, Try.results36, go_sem, k0, k1, k2, k3]) rfl ⟨⟨_, rfl, st.mono (by rw [← HB.out]; omega)⟩, ?_⟩
      rw [← HB.out]
      exact bl
    · obtain rfl : F = true := by rw [← HF.out]; rfl
      clear q1 HF
      go_wp2_with fail
      obtain ⟨st, bl⟩ := four HM.out cA (R := B + 1) (by omega) (by omega) (.int .i64 b) (.slice none 0 0) (.int .i64 g) (.bool true)
      refine bodyPost_ret (v := lineV b (.slice none 0 0) g true) (by simp [results, Try.results36, go_sem, m0, m1, m2, m3, l1]) rfl ⟨⟨_, rfl, Own.nil _ _ _⟩, ?_⟩
      rw [← HB.out]
      exact bl.alloc (Nat.le_trans (by omega : B ≤ w1.heap.size) (sz _ _ _ _)) _

set_option maxRecDepth 100000 in
set_option maxHeartbeats 4000000 in
theorem specLinePut_any (b g : Int) (o : Bool) (q : Value) (n : Nat) (S : Nat → ByteArray) (s : ByteArray) (w : World) (hm : StrAt w q n S) (hn : n ≤ 1048576) (ht : s.size ≤ 1048576) (hs : ∀ j, j < n → (S j).size ≤ 9223372036854775807) :
    Calls Try.prog 14 #[lineV b q g o, .string s] w fun e w' => (∃ q', e = .returned (lineV (putB b g o n S s) q' (putG b g o n S s) (putO b g o n S s)) ∧ Own w' w.heap.size q' (putN b g o n S s) (putS n S s)) ∧ Below w.heap.size w w' := by
  obtain ⟨o1, cap1, rfl⟩ := hm.shape
  obtain ⟨B, hB⟩ : ∃ B, B = w.heap.size := ⟨_, rfl⟩
  obtain ⟨WA, hWA⟩ : ∃ WA, WA = (w.alloc (.cells #[.int .i64 b, .slice o1 n cap1, .int .i64 g, .bool o] 28)).alloc (.cells #[.int .i64 0, .slice none 0 0, .int .i64 0, .bool false] 28) := ⟨_, rfl⟩
  have bA : Below w.heap.size w WA := by rw [hWA]; exact ((Below.refl _ w).alloc (Nat.le_refl _) _).alloc (by simp) _
  have sA : WA.heap.size = B + 2 := by rw [hWA, hB]; simp
  have a0 : WA.heap[B]? = some (.cells #[.int .i64 b, .slice o1 n cap1, .int .i64 g, .bool o] 28 (0, 0)) := by
    rw [hWA, hB, Below.heap_alloc _ _ _ (by simp)]; exact World.alloc_heap_new w _
  have a1 : WA.heap[B + 1]? = some (.cells #[.int .i64 0, .slice none 0 0, .int .i64 0, .bool false] 28 (0, 0)) := by
    rw [hWA, hB]
    have := World.alloc_heap_new (w.alloc (.cells #[.int .i64 b, .slice o1 n cap1, .int .i64 g, .bool o] 28)) (.cells #[.int .i64 0, .slice none 0 0, .int .i64 0, .bool false] 28)
    simpa using this
  have hm1 := hm.below bA
  have cO := l9Ok_any b g o _ n S WA hm1 hn hs
  have HM : Hid (StrAt WA (.slice o1 n cap1) n S) := hm1
  clear hm hm1 hs
  have HB : Hid (B = w.heap.size) := hB
  rw [← hB] at bA
  unfold putB putG putO putN putOk
  cases hR : lineT b g o n S
  · rw [hR] at cO
    simp only [Bool.false_and, Bool.false_eq_true, if_false]
    clear hR
    go_enter Try.func14, Try.ntmps14
    go_wp2_with fail
    rw [← hWA, ← hB]
    clear hWA hB
    go_fit cO
    rintro e w1 ⟨rfl, b1⟩
    have s1 := b1.size
    have q1 := (b1.block (B + 1) (by omega)).trans a1
    have cA := bA.trans (b1.mono (by omega))
    have m0 : w1.cell? ⟨B + 1, 0, none⟩ = some (.int .i64 0) := cell_of _ _ _ _ _ q1
    have m1 : w1.cell? ⟨B + 1, 1, none⟩ = some (.slice none 0 0) := cell_of _ _ _ _ _ q1
    have m2 : w1.cell? ⟨B + 1, 2, none⟩ = some (.int .i64 0) := cell_of _ _ _ _ _ q1
    have m3 : w1.cell? ⟨B + 1, 3, none⟩ = some (.bool false) := cell_of _ _ _ _ _ q1
    have f1 : ∀ i, w1.frozen? ⟨B + 1, i, none⟩ = false := fun i => by simp [World.frozen?, q1]
    clear a0 a1 b1 bA cO q1
    go_wp2_with fail
    obtain ⟨st, bl⟩ := four (Own.nil w1 (B + 2) S) cA (R := B + 1) (by omega) (by omega) (.int .i64 0) (.slice none 0 0) (.int .i64 0) (.bool false)
    refine bodyPost_ret (v := lineV 0 (.slice none 0 0) 0 false) (by simp [results, Try.results14, go_sem, m0, m1, m2, m3]) rfl ⟨⟨_, rfl, Own.nil _ _ _⟩, ?_⟩
    rw [← HB.out]
    exact bl
  by_cases hbig : (3000 : Int) < (s.size : Int)
  · rw [hR] at cO
    rw [decide_eq_false (by omega : ¬ s.size ≤ 3000)]
    simp only [Bool.and_false, Bool.false_and, Bool.false_eq_true, if_false]
    clear hR
    go_enter Try.func14, Try.ntmps14
    go_wp2_with fail
    rw [← hWA, ← hB]
    clear hWA hB
    go_fit cO
    rintro e w1 ⟨rfl, b1⟩
    have s1 := b1.size
    have q1 := (b1.block (B + 1) (by omega)).trans a1
    have cA := bA.trans (b1.mono (by omega))
    have m0 : w1.cell? ⟨B + 1, 0, none⟩ = some (.int .i64 0) := cell_of _ _ _ _ _ q1
    have m1 : w1.cell? ⟨B + 1, 1, none⟩ = some (.slice none 0 0) := cell_of _ _ _ _ _ q1
    have m2 : w1.cell? ⟨B + 1, 2, none⟩ = some (.int .i64 0) := cell_of _ _ _ _ _ q1
    have m3 : w1.cell? ⟨B + 1, 3, none⟩ = some (.bool false) := cell_of _ _ _ _ _ q1
    have f1 : ∀ i, w1.frozen? ⟨B + 1, i, none⟩ = false := fun i => by simp [World.frozen?, q1]
    clear a0 a1 b1 bA cO q1
    go_wp2_with fail
    obtain ⟨st, bl⟩ := four (Own.nil w1 (B + 2) S) cA (R := B + 1) (by omega) (by omega) (.int .i64 0) (.slice none 0 0) (.int .i64 0) (.bool false)
    refine bodyPost_ret (v := lineV 0 (.slice none 0 0) 0 false) (by simp [results, Try.results14, go_sem, m0, m1, m2, m3]) rfl ⟨⟨_, rfl, Own.nil _ _ _⟩, ?_⟩
    rw [← HB.out]
    exact bl
  · obtain ⟨_, _, hg, hn8, _⟩ := lineT_parts hR
    rw [hR] at cO
    rw [decide_eq_true (by omega : s.size ≤ 3000)]
    simp only [Bool.and_self, if_true, Bool.true_and]
    clear hR
    obtain ⟨F, hF⟩ : ∃ F, putFull o n = F := ⟨_, rfl⟩
    obtain ⟨nn, hnn⟩ : ∃ nn, (if putFull o n = true then 0 else n + 1) = nn := ⟨_, rfl⟩
    have cP := fun W hv => l9Put_any b g o (.slice o1 n cap1) n S s W hv hn8
    rw [hnn, hF] at cP
    rw [hnn, hF]
    clear hF hnn
    go_enter Try.func14, Try.ntmps14
    go_wp2_with fail
    rw [← hWA, ← hB]
    clear hWA hB
    go_fit cO
    rintro e w1 ⟨rfl, b1⟩
    have s1 := b1.size
    have cA := bA.trans (b1.mono (by omega))
    have cH := cP w1 (HM.out.below b1)
    have q0 := (b1.block B (by omega)).trans a0
    have q1 := (b1.block (B + 1) (by omega)).trans a1
    have y0 : w1.cell? ⟨B, 0, none⟩ = some (.int .i64 b) := cell_of _ _ _ _ _ q0
    have y1 : w1.cell? ⟨B, 1, none⟩ = some (.slice o1 n cap1) := cell_of _ _ _ _ _ q0
    have y2 : w1.cell? ⟨B, 2, none⟩ = some (.int .i64 g) := cell_of _ _ _ _ _ q0
    have y3 : w1.cell? ⟨B, 3, none⟩ = some (.bool o) := cell_of _ _ _ _ _ q0
    clear a0 a1 bA cO q0 cP
    go_wp2_with fail
    go_fit cH
    rintro e w2 ⟨⟨v2, rfl, hm2⟩, b2⟩
    obtain ⟨o3, c3, rfl⟩ := hm2.shape
    have HM2 : Hid (Own w2 w1.heap.size (.slice o3 nn c3) nn (putS n S s)) := hm2
    have q2 := (b2.block (B + 1) (by omega)).trans q1
    have cB := cA.trans (b2.mono (by omega))
    have m0 : w2.cell? ⟨B + 1, 0, none⟩ = some (.int .i64 0) := cell_of _ _ _ _ _ q2
    have m1 : w2.cell? ⟨B + 1, 1, none⟩ = some (.slice none 0 0) := cell_of _ _ _ _ _ q2
    have m2 : w2.cell? ⟨B + 1, 2, none⟩ = some (.int .i64 0) := cell_of _ _ _ _ _ q2
    have m3 : w2.cell? ⟨B + 1, 3, none⟩ = some (.bool false) := cell_of _ _ _ _ _ q2
    have f1 : ∀ i, w2.frozen? ⟨B + 1, i, none⟩ = false := fun i => by simp [World.frozen?, q2]
    clear hm2 b1 b2 q1 q2 cH cA y0 y1 y2 y3
    go_wp2_with fail
    obtain ⟨st, bl⟩ := four HM2.out cB (R := B + 1) (by omega) (by omega) (.int .i64 b) (.slice o3 nn c3) (.int .i64 g) (.bool F)
    refine bodyPost_ret (v := lineV b (.slice o3 nn c3) g F) (by simp [results, Try.results14, go_sem, m0, m1, m2, m3]) rfl ⟨⟨_, rfl, st.mono (by rw [← HB.out]; omega)⟩, ?_⟩
    rw [← HB.out]
    exact bl

set_option maxRecDepth 100000 in
set_option maxHeartbeats 4000000 in
theorem put_full (r p b : Nat) (S : Nat → ByteArray) (s : ByteArray) (w : World) (h : RingAt w r p b 8 S) :
    Calls Try.prog 32 #[.pointer (some ⟨r, 0, none⟩), .string s] w fun e w' => e = .returned (.bool false) ∧ Below w.heap.size w w' := by
  obtain ⟨hne, _, hr, C, hp, hC, hall⟩ := h
  have c0 : w.cell? ⟨r, 0, none⟩ = some (.slice (some ⟨p, 0, none⟩) 8 8) := cell_of w _ _ _ _ hr
  have c2 : w.cell? ⟨r, 2, none⟩ = some (.int .i64 8) := cell_of w _ _ _ _ hr
  have bd := (Below.refl w.heap.size w).drew
  clear hr hp hall
  go_enter Try.func32, Try.ntmps32
  go_wp2_with fail
  go_region
  go_wp2_with fail
  go_ret
  exact ⟨rfl, bd⟩

theorem RingAt.putS {W : World} {r p b n : Nat} {S : Nat → ByteArray} (h : RingAt W r p b n S) (s : ByteArray) : RingAt W r p b n (putS n S s) := by
  obtain ⟨h1, h2, h3, C, h4, h5, h6⟩ := h
  refine ⟨h1, h2, h3, C, h4, h5, fun j hj => ?_⟩
  have : Hub.putS n S s j = S j := if_neg (by omega)
  rw [this]
  exact h6 j hj
end Go.Proofs.Ytpicccdlaiaemaa.Hub
