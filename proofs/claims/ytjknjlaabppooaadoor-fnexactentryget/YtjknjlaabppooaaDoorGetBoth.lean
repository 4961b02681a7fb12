/-
  The program and the model read every text of at most 1048576 bytes as the same entry.
-/
import Derived.Test.YtjknjlaabppooaaDoorGetI
import Derived.Test.YtjknjlaabppooaaDoorEqEntry
namespace Go.Proofs.YtjknjlaabppooaaDoor.Hub
open Go.RowKit Go.Lib
set_option linter.unusedVariables false

set_option maxRecDepth 100000 in
set_option maxHeartbeats 4000000 in
theorem specEntryGet_of (s r : ByteArray) (q k : Int) (u n t i f : ByteArray) (m : Int) (B : Bool) (hL : ∀ W, Calls Tryd.prog 7 #[.string s] W fun e w' => e = .returned (.tuple #[entV r q k u n t i f m, .bool B]) ∧ RowKit.Below W.heap.size W w') (w : World) :
    Calls Tryd.prog 4 #[.string s] w fun e w' => e = .returned (.tuple #[entV r q k u n t i f m, .bool B]) ∧ RowKit.Below w.heap.size w w' := by
  have ZERO := zero_block w
  obtain ⟨W0, hW0⟩ : ∃ W0, W0 = w.alloc (.cells #[.string ⟨#[]⟩, .int .i64 0, .int .i64 0, .string ⟨#[]⟩, .string ⟨#[]⟩, .string ⟨#[]⟩, .string ⟨#[]⟩, .string ⟨#[]⟩, .int .i64 0] 23) := ⟨_, rfl⟩
  rw [← hW0] at ZERO
  have b0 : RowKit.Below w.heap.size w W0 := by rw [hW0]; exact (Below.refl _ w).alloc (Nat.le_refl _) _
  have hL0 := hL W0
  clear hL
  go_enter Tryd.func4, Tryd.ntmps4
  go_wp2_with first
    | (go_at_call 7; rw [← hW0]; go_fit hL0; rintro e w5 ⟨rfl, b5⟩; have Z5 := ZERO.out w5 b5; have ZH : Hid (w5.heap[w.heap.size]? = some (.cells #[.string ⟨#[]⟩, .int .i64 0, .int .i64 0, .string ⟨#[]⟩, .string ⟨#[]⟩, .string ⟨#[]⟩, .string ⟨#[]⟩, .string ⟨#[]⟩, .int .i64 0] 23 (0, 0))) := Z5; have BH : Hid (RowKit.Below w.heap.size w w5) := b0.trans (b5.mono b0.size); obtain ⟨z0, z1, z2, z3, z4, z5, z6, z7, z8⟩ := nine_cells Z5; have zf : ∀ j, w5.frozen? ⟨w.heap.size, j, none⟩ = false := (fun j => (by simp [World.frozen?, Z5])); clear Z5)
  obtain ⟨W9, hW9⟩ : ∃ W9, nineW w5 w.heap.size r q k u n t i f m = W9 := ⟨_, rfl⟩
  have N9 := nine_cells (nineW_heap ZH.out r q k u n t i f m)
  have b9 : RowKit.Below w.heap.size w (nineW w5 w.heap.size r q k u n t i f m) := nineW_below BH.out (Nat.le_refl _) _ _ _ _ _ _ _ _ _
  rw [hW9] at N9 b9
  unfold nineW at hW9
  rw [hW9]
  obtain ⟨n0, n1, n2, n3, n4, n5, n6, n7, n8⟩ := N9
  exact bodyPost_ret (v := .tuple #[entV r q k u n t i f m, .bool B]) (by simp [results, Tryd.results4, go_sem, n0, n1, n2, n3, n4, n5, n6, n7, n8]) rfl ⟨rfl, b9⟩

/-- What the two read of a text: an entry and whether it is one. -/
theorem get_both (s : ByteArray) (hs : s.size ≤ 1048576) : ∃ (r : ByteArray) (q k : Int) (u n t i f : ByteArray) (m : Int) (B : Bool),
    (∀ W, Calls Tryd.prog 4 #[.string s] W fun e w' => e = .returned (.tuple #[entV r q k u n t i f m, .bool B]) ∧ RowKit.Below W.heap.size W w')
    ∧ (∀ W, Tabs W → Tens W → Errs W → Calls Tryd.prog 5 #[.string s] W fun e w' => e = .returned (.tuple #[entV r q k u n t i f m, .bool B]) ∧ RowKit.Below W.heap.size W w')
    ∧ ((B = true ∧ entT r q k u n t i f m = true ∧ eputT r q k u n t i f m = s) ∨ (B = false ∧ r = ⟨#[]⟩ ∧ q = 0 ∧ k = 0 ∧ u = ⟨#[]⟩ ∧ n = ⟨#[]⟩ ∧ t = ⟨#[]⟩ ∧ i = ⟨#[]⟩ ∧ f = ⟨#[]⟩ ∧ m = 0)) := by
  by_cases h9 : (fldL [] s.data.toList).length = 9
  · obtain ⟨a, b, r, u, n, t, i, f, c, hp⟩ : ∃ a b r u n t i f c, fldL [] s.data.toList = [a, b, r, u, n, t, i, f, c] := by
      generalize fldL [] s.data.toList = L at h9
      match L, h9 with
      | [a, b, r, u, n, t, i, f, c], _ => exact ⟨a, b, r, u, n, t, i, f, c, rfl⟩
    have hp2 : fldL [] s.data.toList = [a, b, (ofL r).data.toList, (ofL u).data.toList, (ofL n).data.toList, (ofL t).data.toList, (ofL i).data.toList, (ofL f).data.toList, c] := hp
    rcases get_same hp2 with ⟨hE, hP, hA, e1, e2, e3⟩ | ⟨hE, hA⟩
    · refine ⟨ofL r, numT a, numT b, ofL u, ofL n, ofL t, ofL i, ofL f, numT c, true, specEntryGet_of _ _ _ _ _ _ _ _ _ _ _ (fun W => ?_), fun W h1 h2 h3 => ?_, .inl ⟨rfl, hE, ?_⟩⟩
      · have := l8Get_nine s hs a b r u n t i f c hp W
        have hB : getB s (ofL r) (numT a) (numT b) (ofL u) (ofL n) (ofL t) (ofL i) (ofL f) (numT c) = true := by
          unfold getB
          rw [hE, decide_eq_true hP]
          rfl
        unfold getV at this
        rw [hB, if_pos rfl] at this
        exact this
      · have := entryGet_nine s hs a b r u n t i f c hp W h1 h2 h3 true (by rw [decide_eq_true hA])
        rw [if_pos rfl, e1, e2, e3] at this
        exact this
      · rw [← e1, ← e2, ← e3]; exact hA
    · refine ⟨⟨#[]⟩, 0, 0, ⟨#[]⟩, ⟨#[]⟩, ⟨#[]⟩, ⟨#[]⟩, ⟨#[]⟩, 0, false, specEntryGet_of _ _ _ _ _ _ _ _ _ _ _ (fun W => ?_), fun W h1 h2 h3 => ?_, .inr ⟨rfl, rfl, rfl, rfl, rfl, rfl, rfl, rfl, rfl, rfl⟩⟩
      · have := l8Get_nine s hs a b r u n t i f c hp W
        have hB : getB s (ofL r) (numT a) (numT b) (ofL u) (ofL n) (ofL t) (ofL i) (ofL f) (numT c) = false := by
          unfold getB
          cases hT : entT (ofL r) (numT a) (numT b) (ofL u) (ofL n) (ofL t) (ofL i) (ofL f) (numT c)
          · rfl
          · rw [decide_eq_false (hE hT)]; rfl
        unfold getV at this
        rw [hB, if_neg (by decide)] at this
        exact this
      · have := entryGet_nine s hs a b r u n t i f c hp W h1 h2 h3 false (by rw [decide_eq_false hA])
        rw [if_neg (by decide)] at this
        exact this
  · exact ⟨⟨#[]⟩, 0, 0, ⟨#[]⟩, ⟨#[]⟩, ⟨#[]⟩, ⟨#[]⟩, ⟨#[]⟩, 0, false, specEntryGet_of _ _ _ _ _ _ _ _ _ _ _ (fun W => l8Get_not s hs h9 W), fun W _ _ _ => entryGet_not s hs h9 W, .inr ⟨rfl, rfl, rfl, rfl, rfl, rfl, rfl, rfl, rfl, rfl⟩⟩
end Go.Proofs.YtjknjlaabppooaaDoor.Hub
