/-
  The law's own toEntry and szEntry, and impl.bareEntry, at every entry.
-/
import Derived.Test.YtgjlgddglgffmaaGreatDoorEntryPlain
namespace Go.Proofs.YtgjlgddglgffmaaGreatDoor.Hub
open Go.RowKit
set_option linter.unusedVariables false

set_option maxRecDepth 100000 in
set_option maxHeartbeats 4000000 in
theorem bareEntry_any (r : ByteArray) (q k : Int) (u n t i f : ByteArray) (m : Int) (w : World) :
    Calls Tryz.prog 74 #[entV r q k u n t i f m] w fun e w' => e = .returned (entV r q k u (hasN k n) (hasT k t) (hasT k i) (hasF k f) (hasM k m)) ∧ Below w.heap.size w w' := by
  rcases kinds k with rfl | rfl | rfl | rfl | rfl | rfl | ⟨h1, h2, h3, h4, h5, h6⟩
  · go_enter Tryz.func74, Tryz.ntmps74
    go_wp2
    go_region_held3 (fun W => W.cell? ⟨w.heap.size, 4, none⟩ = some (.string n) ∧ W.cell? ⟨w.heap.size, 8, none⟩ = some (.int .i64 m)) (go_keep) (fail)
    all_goals go_wp2
    all_goals exact bodyPost_ret (v := entV r q 1 u n ⟨#[]⟩ ⟨#[]⟩ ⟨#[]⟩ m) (by simp [results, Tryz.results74, go_sem]) rfl ⟨rfl, ((((Below.refl _ w).alloc (Nat.le_refl _) _).alloc (by simp) _).alloc (by simp; omega) _).drew⟩
  · go_enter Tryz.func74, Tryz.ntmps74
    go_wp2
    go_region_held3 (fun W => W.cell? ⟨w.heap.size, 4, none⟩ = some (.string n) ∧ W.cell? ⟨w.heap.size, 8, none⟩ = some (.int .i64 m)) (go_keep) (fail)
    all_goals go_wp2
    all_goals exact bodyPost_ret (v := entV r q 2 u n ⟨#[]⟩ ⟨#[]⟩ ⟨#[]⟩ m) (by simp [results, Tryz.results74, go_sem]) rfl ⟨rfl, ((((Below.refl _ w).alloc (Nat.le_refl _) _).alloc (by simp) _).alloc (by simp; omega) _).drew⟩
  · go_enter Tryz.func74, Tryz.ntmps74
    go_wp2
    go_region_held3 (fun W => W.cell? ⟨w.heap.size, 4, none⟩ = some (.string n) ∧ W.cell? ⟨w.heap.size, 5, none⟩ = some (.string t) ∧ W.cell? ⟨w.heap.size, 6, none⟩ = some (.string i) ∧ W.cell? ⟨w.heap.size, 7, none⟩ = some (.string f)) (go_keep) (fail)
    all_goals go_wp2
    all_goals exact bodyPost_ret (v := entV r q 3 u n t i f 0) (by simp [results, Tryz.results74, go_sem]) rfl ⟨rfl, ((((Below.refl _ w).alloc (Nat.le_refl _) _).alloc (by simp) _).alloc (by simp; omega) _).drew⟩
  · go_enter Tryz.func74, Tryz.ntmps74
    go_wp2
    go_region_held3 (fun W => W.cell? ⟨w.heap.size, 4, none⟩ = some (.string n) ∧ W.cell? ⟨w.heap.size, 5, none⟩ = some (.string t) ∧ W.cell? ⟨w.heap.size, 6, none⟩ = some (.string i)) (go_keep) (fail)
    all_goals go_wp2
    all_goals exact bodyPost_ret (v := entV r q 4 u n t i ⟨#[]⟩ 0) (by simp [results, Tryz.results74, go_sem]) rfl ⟨rfl, ((((Below.refl _ w).alloc (Nat.le_refl _) _).alloc (by simp) _).alloc (by simp; omega) _).drew⟩
  · go_enter Tryz.func74, Tryz.ntmps74
    go_wp2
    go_region_held3 (fun W => W.cell? ⟨w.heap.size, 4, none⟩ = some (.string n) ∧ W.cell? ⟨w.heap.size, 8, none⟩ = some (.int .i64 m)) (go_keep) (fail)
    all_goals go_wp2
    all_goals exact bodyPost_ret (v := entV r q 5 u n ⟨#[]⟩ ⟨#[]⟩ ⟨#[]⟩ m) (by simp [results, Tryz.results74, go_sem]) rfl ⟨rfl, ((((Below.refl _ w).alloc (Nat.le_refl _) _).alloc (by simp) _).alloc (by simp; omega) _).drew⟩
  · go_enter Tryz.func74, Tryz.ntmps74
    go_wp2
    exact bodyPost_ret (v := entV r q 6 u ⟨#[]⟩ ⟨#[]⟩ ⟨#[]⟩ ⟨#[]⟩ m) (by simp [results, Tryz.results74, go_sem]) rfl ⟨rfl, ((((Below.refl _ w).alloc (Nat.le_refl _) _).alloc (by simp) _).alloc (by simp; omega) _)⟩
  · have q1 : (k == 1) = false := beq_eq_false_iff_ne.2 h1
    have q2 : (k == 2) = false := beq_eq_false_iff_ne.2 h2
    have q3 : (k == 3) = false := beq_eq_false_iff_ne.2 h3
    have q4 : (k == 4) = false := beq_eq_false_iff_ne.2 h4
    have q5 : (k == 5) = false := beq_eq_false_iff_ne.2 h5
    have q6 : (k == 6) = false := beq_eq_false_iff_ne.2 h6
    go_enter Tryz.func74, Tryz.ntmps74
    go_wp2
    exact bodyPost_ret (v := entV r q k u ⟨#[]⟩ ⟨#[]⟩ ⟨#[]⟩ ⟨#[]⟩ 0) (by simp [results, Tryz.results74, go_sem]) rfl ⟨by unfold hasN hasT hasF hasM; rw [if_neg (by omega), if_neg (by omega), if_neg (by omega), if_neg (by omega), if_neg (by omega)], ((((Below.refl _ w).alloc (Nat.le_refl _) _).alloc (by simp) _).alloc (by simp; omega) _)⟩

set_option maxRecDepth 100000 in
set_option maxHeartbeats 4000000 in
theorem toEntry_any (r : ByteArray) (q k : Int) (u n t i f : ByteArray) (m : Int) (w : World) :
    Calls Tryz.prog 8 #[entV r q k u n t i f m] w fun e w' => e = .returned (entV r q k u n t i f m) ∧ Below w.heap.size w w' := by
  go_enter Tryz.func8, Tryz.ntmps8
  go_wp2
  exact bodyPost_ret (v := entV r q k u n t i f m) (by simp [results, Tryz.results8, go_sem]) rfl ⟨rfl, (((Below.refl _ w).alloc (Nat.le_refl _) _).alloc (by simp) _).alloc (by simp; omega) _⟩

set_option maxRecDepth 100000 in
set_option maxHeartbeats 4000000 in
theorem szEntry_any (r : ByteArray) (q k : Int) (u n t i f : ByteArray) (m : Int) (w : World) (hr : r.size ≤ 9223372036854775807) (hu : u.size ≤ 9223372036854775807) (hn : n.size ≤ 9223372036854775807) (ht : t.size ≤ 9223372036854775807) (hi : i.size ≤ 9223372036854775807) (hf : f.size ≤ 9223372036854775807) :
    Calls Tryz.prog 5 #[entV r q k u n t i f m, .int .i64 1048576] w fun e w' => (∃ z : Int, e = .returned (.int .i64 z) ∧ (z < 0 ∨ (0 ≤ z ∧ r.size + u.size + n.size + t.size + i.size + f.size ≤ 1048576))) ∧ Below w.heap.size w w' := by
  have b0 : Below w.heap.size w (w.alloc (.cells #[.string r, .int .i64 q, .int .i64 k, .string u, .string n, .string t, .string i, .string f, .int .i64 m] 27)) := (Below.refl _ w).alloc (Nat.le_refl _) _
  by_cases h1 : (1048576 : Int) - (r.size : Int) < 0
  · go_enter Tryz.func5, Tryz.ntmps5
    go_wp2
    go_ret
    exact ⟨⟨-1, rfl, .inl (by omega)⟩, b0⟩
  · skip
    by_cases h2 : (1048576 : Int) - (r.size : Int) - (u.size : Int) < 0
    · go_enter Tryz.func5, Tryz.ntmps5
      go_wp2
      go_ret
      exact ⟨⟨-1, rfl, .inl (by omega)⟩, b0⟩
    · skip
      by_cases h3 : (1048576 : Int) - (r.size : Int) - (u.size : Int) - (n.size : Int) < 0
      · go_enter Tryz.func5, Tryz.ntmps5
        go_wp2
        go_ret
        exact ⟨⟨-1, rfl, .inl (by omega)⟩, b0⟩
      · skip
        by_cases h4 : (1048576 : Int) - (r.size : Int) - (u.size : Int) - (n.size : Int) - (t.size : Int) < 0
        · go_enter Tryz.func5, Tryz.ntmps5
          go_wp2
          go_ret
          exact ⟨⟨-1, rfl, .inl (by omega)⟩, b0⟩
        · skip
          by_cases h5 : (1048576 : Int) - (r.size : Int) - (u.size : Int) - (n.size : Int) - (t.size : Int) - (i.size : Int) < 0
          · go_enter Tryz.func5, Tryz.ntmps5
            go_wp2
            go_ret
            exact ⟨⟨-1, rfl, .inl (by omega)⟩, b0⟩
          · skip
            by_cases h6 : (1048576 : Int) - (r.size : Int) - (u.size : Int) - (n.size : Int) - (t.size : Int) - (i.size : Int) - (f.size : Int) < 0
            · go_enter Tryz.func5, Tryz.ntmps5
              go_wp2
              go_ret
              exact ⟨⟨-1, rfl, .inl (by omega)⟩, b0⟩
            · go_enter Tryz.func5, Tryz.ntmps5
              go_wp2
              go_ret
              exact ⟨⟨_, rfl, .inr ⟨by omega, by omega⟩⟩, b0⟩
end Go.Proofs.YtgjlgddglgffmaaGreatDoor.Hub
