/-
  What spec.DrawLinePut gives: some line, and some short text.
-/
import Derived.Test.YtpicccdlaiaemaaLineLaw
namespace Go.Proofs.Ytpicccdlaiaemaa.Hub
open Go.RowKit
set_option linter.unusedVariables false

set_option maxHeartbeats 1000000 in
theorem text_keeps (n₀ B p : Nat) (hp : p ≤ 90000) (w : World) (hn : n₀ ≤ w.heap.size) (h : Rd n₀ w B p) :
    Calls Try.prog 29 #[.pointer (some ⟨B, 0, none⟩)] w fun e w' => (∃ s, s ∈ texts ∧ e = .returned (.string s)) ∧ (∀ k, k < w.heap.size → k ≠ B → w'.heap[k]? = w.heap[k]?) ∧ Below n₀ w w' := by
  have hlt := rd_lt h
  have hB := h.1
  go_enter Try.func29, Try.ntmps29
  go_wp2_with fail
  refine (of_any n₀ B p w.heap.size 12 texts rfl (by omega) (by omega) (by omega) _ (h.alloc hn _) (by omega) (World.alloc_heap_new _ _)).mono ?_
  rintro e w1 ⟨⟨s, hs, rfl⟩, hrd, hst⟩
  go_wp2_with fail
  go_ret
  exact ⟨⟨s, hs, rfl⟩, fun k hk hkB => (hst.2.2 k hkB).trans (Below.heap_alloc _ _ _ hk), ((Below.refl n₀ w).alloc hn _).trans (hst.2.1.mono hB)⟩

set_option maxRecDepth 100000 in
set_option maxHeartbeats 2000000 in
theorem drawLinePut_any (v : Value) (n : Nat) (w : World) (h : BytesAt w.heap.size w v n) :
    Calls Try.prog 11 #[v] w fun e w' => ∃ b g o q n S s, e = .returned (.tuple #[lineV b q g o, .string s]) ∧ s.size ≤ 100 ∧ Drawn w w' b g o q n S := by
  obtain ⟨R, hR⟩ : ∃ R, R = w.heap.size := ⟨_, rfl⟩
  obtain ⟨WA, hWA⟩ : ∃ WA, WA = w.alloc (.cells #[.int .i64 0, .slice none 0 0, .int .i64 0, .bool false] 28) := ⟨_, rfl⟩
  have bA : Below w.heap.size w WA := by rw [hWA]; exact below_alloc w _
  have sA : R < WA.heap.size := by rw [hWA, hR]; simp
  have aR : WA.heap[R]? = some (.cells #[.int .i64 0, .slice none 0 0, .int .i64 0, .bool false] 28 (0, 0)) := by rw [hWA, hR]; exact World.alloc_heap_new w _
  have cO := open_any v n WA ((h.below bA).wider bA.size)
  obtain ⟨o1, cap1, rfl⟩ := bytes_shape h
  have HR : Hid (R = w.heap.size) := hR
  go_enter Try.func11, Try.ntmps11
  go_wp2_with fail
  rw [← hWA, ← hR]
  rw [← hR] at bA
  clear hWA hR h
  go_fit cO
  rintro e w1 ⟨rfl, rd1, b1⟩
  have s1 := b1.size
  have cL := line_any WA.heap.size WA.heap.size 0 (by omega) w1 s1 rd1
  go_wp2_with fail
  go_fit cL
  rintro e w2 ⟨⟨b, g, o, q, n, S, rfl, hO, hn9, hS, hb, hg⟩, ⟨p', rd2, hp'⟩, z2, b2⟩
  obtain ⟨o3, c3, rfl⟩ := hO.shape
  have hlt2 := rd_lt rd2
  have cT := text_keeps WA.heap.size WA.heap.size p' (by omega) w2 z2 rd2
  have s2 := rd_lt rd1
  have q2 := (b2.block R sA).trans ((b1.block R sA).trans aR)
  have bW : Below R w w2 := (bA.trans (b1.mono (by omega))).trans (b2.mono (by omega))
  have HO : Hid (Own w2 w1.heap.size (.slice o3 n c3) n S) := hO
  have HS : Hid (∀ j, j < n → (S j).size ≤ 10) := hS
  clear hO hS cO cL b1 b2 aR bA
  go_wp2_with fail
  go_fit cT
  rintro e w3 ⟨⟨s, hs, rfl⟩, keep, b3⟩
  have hs1 := texts_small s hs
  have q3 := (keep R (by omega) (by omega)).trans q2
  have O3 : Own w3 w1.heap.size (.slice o3 n c3) n S := by
    refine ⟨HO.out.1, ?_⟩
    rcases HO.out.2 with h2 | ⟨g2, cap, cur, hv, hb2, hg2, rest⟩
    · exact .inl h2
    · exact .inr ⟨g2, cap, cur, hv, hb2, (keep g2 (Array.getElem?_eq_some_iff.1 hg2).1 (by omega)).trans hg2, rest⟩
  have HO3 : Hid (Own w3 w1.heap.size (.slice o3 n c3) n S) := O3
  have m0 : w3.cell? ⟨R, 0, none⟩ = some (.int .i64 0) := cell_of _ _ _ _ _ q3
  have m1 : w3.cell? ⟨R, 1, none⟩ = some (.slice none 0 0) := cell_of _ _ _ _ _ q3
  have m2 : w3.cell? ⟨R, 2, none⟩ = some (.int .i64 0) := cell_of _ _ _ _ _ q3
  have m3 : w3.cell? ⟨R, 3, none⟩ = some (.bool false) := cell_of _ _ _ _ _ q3
  have f1 : ∀ i, w3.frozen? ⟨R, i, none⟩ = false := fun i => by simp [World.frozen?, q3]
  have bV : Below R w w3 := bW.trans (b3.mono (by omega))
  clear keep b3 q2 q3 O3 cT hs rd1 rd2
  go_wp2_with fail
  obtain ⟨st, bl⟩ := four HO3.out bV (R := R) (by omega) (by omega) (.int .i64 b) (.slice o3 n c3) (.int .i64 g) (.bool o)
  refine bodyPost_ret (v := .tuple #[lineV b (.slice o3 n c3) g o, .string s]) (by simp [results, Try.results11, go_sem, m0, m1, m2, m3]) rfl ⟨b, g, o, _, n, S, s, rfl, hs1, st.strAt, hn9, HS.out, hb, hg, ?_⟩
  rw [← HR.out]
  exact bl
end Go.Proofs.Ytpicccdlaiaemaa.Hub
