/-
  The law's own eqServer, markServer, heldServer, of servers that are accounts alone.
-/
import Derived.Test.YtkfdggcccegmlaaMarkA
import Derived.Test.YtkfdggcccegmlaaNewS
namespace Go.Proofs.Ytkfdggcccegmlaa.Hub
open Go.RowKit
set_option linter.unusedVariables false

set_option maxRecDepth 100000 in
set_option maxHeartbeats 1000000 in
theorem markEntryS_none (k : Nat) (w : World) : Calls Try.prog 38 #[.slice none 0 0, .int .i64 k] w fun e w' => e = .returned (.int .i64 k) ∧ w' = w := by
  go_enter Try.func38, Try.ntmps38
  go_wp2_with fail
  go_loop [1, 5] (fun l i => l = .int .i64 k ∧ i = .int .i64 0) (fun _ _ => 0)
  case atStart => exact ⟨rfl, rfl⟩
  case round =>
    obtain ⟨rfl, rfl⟩ := hrel
    go_wp2_with fail
    go_ret
    exact ⟨rfl, rfl⟩

set_option maxRecDepth 100000 in
set_option maxHeartbeats 1000000 in
theorem heldEntryS_none (k : Nat) (w : World) : Calls Try.prog 43 #[.slice none 0 0, .int .i64 k] w fun e w' => e = .returned (.int .i64 k) ∧ w' = w := by
  go_enter Try.func43, Try.ntmps43
  go_wp2_with fail
  go_loop [1, 5] (fun l i => l = .int .i64 k ∧ i = .int .i64 0) (fun _ _ => 0)
  case atStart => exact ⟨rfl, rfl⟩
  case round =>
    obtain ⟨rfl, rfl⟩ := hrel
    go_wp2_with fail
    go_ret
    exact ⟨rfl, rfl⟩

set_option maxRecDepth 100000 in
set_option maxHeartbeats 1000000 in
theorem markSessS_none (k : Nat) (w : World) : Calls Try.prog 39 #[.slice none 0 0, .int .i64 k] w fun e w' => e = .returned (.int .i64 k) ∧ w' = w := by
  go_enter Try.func39, Try.ntmps39
  go_wp2_with fail
  go_loop [1, 5] (fun l i => l = .int .i64 k ∧ i = .int .i64 0) (fun _ _ => 0)
  case atStart => exact ⟨rfl, rfl⟩
  case round =>
    obtain ⟨rfl, rfl⟩ := hrel
    go_wp2_with fail
    go_ret
    exact ⟨rfl, rfl⟩

set_option maxRecDepth 100000 in
set_option maxHeartbeats 1000000 in
theorem heldSessS_none (k : Nat) (w : World) : Calls Try.prog 44 #[.slice none 0 0, .int .i64 k] w fun e w' => e = .returned (.int .i64 k) ∧ w' = w := by
  go_enter Try.func44, Try.ntmps44
  go_wp2_with fail
  go_loop [1, 5] (fun l i => l = .int .i64 k ∧ i = .int .i64 0) (fun _ _ => 0)
  case atStart => exact ⟨rfl, rfl⟩
  case round =>
    obtain ⟨rfl, rfl⟩ := hrel
    go_wp2_with fail
    go_ret
    exact ⟨rfl, rfl⟩

set_option maxRecDepth 100000 in
set_option maxHeartbeats 1000000 in
theorem eqEntryS_none (w : World) : Calls Try.prog 35 #[.slice none 0 0, .slice none 0 0] w fun e w' => e = .returned (.bool true) ∧ w' = w := by
  go_enter Try.func35, Try.ntmps35
  go_wp2_with fail
  go_loop [5] (fun i => i = .int .i64 0) (fun _ => 0)
  case atStart => rfl
  case round =>
    obtain rfl := hrel
    go_wp2_with fail
    go_ret
    exact ⟨rfl, rfl⟩

set_option maxRecDepth 100000 in
set_option maxHeartbeats 1000000 in
theorem eqSessS_none (w : World) : Calls Try.prog 36 #[.slice none 0 0, .slice none 0 0] w fun e w' => e = .returned (.bool true) ∧ w' = w := by
  go_enter Try.func36, Try.ntmps36
  go_wp2_with fail
  go_loop [5] (fun i => i = .int .i64 0) (fun _ => 0)
  case atStart => rfl
  case round =>
    obtain rfl := hrel
    go_wp2_with fail
    go_ret
    exact ⟨rfl, rfl⟩

set_option maxRecDepth 100000 in
set_option maxHeartbeats 4000000 in
theorem eqServer_same (a1 a2 : Value) (n : Nat) (U N : Nat → ByteArray) (w : World) (h1 : AccAt w a1 n U N) (h2 : AccAt w a2 n U N) :
    Calls Try.prog 19 #[srvV a1 (.slice none 0 0) ⟨#[]⟩ (.slice none 0 0) 0, srvV a2 (.slice none 0 0) ⟨#[]⟩ (.slice none 0 0) 0] w fun e w' => e = .returned (.bool true) ∧ Below w.heap.size w w' := by
  obtain ⟨W1, hW1⟩ : ∃ W1, (w.alloc (.cells #[a1, .slice none 0 0, .string ⟨#[]⟩, .slice none 0 0, .int .i64 0] 28)).alloc (.cells #[a2, .slice none 0 0, .string ⟨#[]⟩, .slice none 0 0, .int .i64 0] 28) = W1 := ⟨_, rfl⟩
  have b1 : Below w.heap.size w W1 := by rw [← hW1]; exact ((Below.refl _ w).alloc (Nat.le_refl _) _).alloc (by simp) _
  have cE := eqAccountS_same a1 a2 n U N W1 (h1.below b1) (h2.below b1)
  have NEW : Hid (∀ W : World, Below W1.heap.size W1 W → (W.cell? ⟨w.heap.size, 0, none⟩ = some a1 ∧ W.cell? ⟨w.heap.size, 1, none⟩ = some (.slice none 0 0) ∧ W.cell? ⟨w.heap.size, 2, none⟩ = some (.string ⟨#[]⟩) ∧ W.cell? ⟨w.heap.size, 3, none⟩ = some (.slice none 0 0) ∧ W.cell? ⟨w.heap.size, 4, none⟩ = some (.int .i64 0)) ∧ W.cell? ⟨w.heap.size + 1, 0, none⟩ = some a2 ∧ W.cell? ⟨w.heap.size + 1, 1, none⟩ = some (.slice none 0 0) ∧ W.cell? ⟨w.heap.size + 1, 2, none⟩ = some (.string ⟨#[]⟩) ∧ W.cell? ⟨w.heap.size + 1, 3, none⟩ = some (.slice none 0 0) ∧ W.cell? ⟨w.heap.size + 1, 4, none⟩ = some (.int .i64 0)) := fun W bb => by
    have l1 : w.heap.size < W1.heap.size := by rw [← hW1]; simp; omega
    have l2 : w.heap.size + 1 < W1.heap.size := by rw [← hW1]; simp
    have e1 : W1.heap[w.heap.size]? = some (.cells #[a1, .slice none 0 0, .string ⟨#[]⟩, .slice none 0 0, .int .i64 0] 28 (0, 0)) := by
      rw [← hW1]
      exact (Below.heap_alloc _ _ _ (by simp)).trans (World.alloc_heap_new w _)
    have e2 : W1.heap[w.heap.size + 1]? = some (.cells #[a2, .slice none 0 0, .string ⟨#[]⟩, .slice none 0 0, .int .i64 0] 28 (0, 0)) := by
      rw [← hW1]
      have := World.alloc_heap_new (w.alloc (.cells #[a1, .slice none 0 0, .string ⟨#[]⟩, .slice none 0 0, .int .i64 0] 28)) (.cells #[a2, .slice none 0 0, .string ⟨#[]⟩, .slice none 0 0, .int .i64 0] 28)
      simpa using this
    have q1 := five_cells ((bb.block _ l1).trans e1)
    have q2 := five_cells ((bb.block _ l2).trans e2)
    exact ⟨q1, q2⟩
  obtain ⟨⟨u0, u1, u2, u3, u4⟩, v0, v1, v2, v3, v4⟩ := NEW.out W1 (Below.refl _ _)
  obtain ⟨o1, cap1, rfl, -⟩ := h1
  obtain ⟨o2, cap2, rfl, -⟩ := h2
  go_enter Try.func19, Try.ntmps19
  go_wp2_with first
    | (go_at_call 36; refine (eqSessS_none _).mono ?_; rintro e w9 ⟨rfl, rfl⟩)
    | (go_at_call 35; refine (eqEntryS_none _).mono ?_; rintro e w9 ⟨rfl, rfl⟩)
    | (go_at_call 9; (try rw [hW1]); go_fit cE; rintro e w2 ⟨rfl, b2⟩; obtain ⟨⟨x0, x1, x2, x3, x4⟩, y0, y1, y2, y3, y4⟩ := NEW.out w2 b2)
  go_ret
  exact ⟨rfl, b1.trans (b2.mono b1.size)⟩
end Go.Proofs.Ytkfdggcccegmlaa.Hub
