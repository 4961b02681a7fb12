/-
  impl.copyEntry: an entry with texts of its own.
-/
import Derived.Test.YtkmagkpieihcgaaEntRow
import Derived.Test.YtkmagkpieihcgaaShelfC
import Derived.Deep.RegionHeld3
namespace Go.Proofs.Ytkmagkpieihcgaa.Hub
open Go.RowKit
set_option linter.unusedVariables false

abbrev entV (r : ByteArray) (q k : Int) (u n t i f : ByteArray) (m : Int) : Value := .agg #[.string r, .int .i64 q, .int .i64 k, .string u, .string n, .string t, .string i, .string f, .int .i64 m]
theorem nine_at {W : World} {E : Nat} {T : TypeId} {c0 c1 c2 c3 c4 c5 c6 c7 c8 : Value} (h : W.heap[E]? = some (.cells #[c0, c1, c2, c3, c4, c5, c6, c7, c8] T (0, 0))) : W.cell? ⟨E, 0, none⟩ = some c0 ∧ W.cell? ⟨E, 1, none⟩ = some c1 ∧ W.cell? ⟨E, 2, none⟩ = some c2 ∧ W.cell? ⟨E, 3, none⟩ = some c3 ∧ W.cell? ⟨E, 4, none⟩ = some c4 ∧ W.cell? ⟨E, 5, none⟩ = some c5 ∧ W.cell? ⟨E, 6, none⟩ = some c6 ∧ W.cell? ⟨E, 7, none⟩ = some c7 ∧ W.cell? ⟨E, 8, none⟩ = some c8 := by
  simp only [World.cell?, h]
  exact ⟨rfl, rfl, rfl, rfl, rfl, rfl, rfl, rfl, rfl⟩
theorem clone_any (s : ByteArray) (w : World) (hs : s.size ≤ 1099511627776) :
    Calls Try.prog 21 #[.string s] w fun e w' => e = .returned (.string s) ∧ Below w.heap.size w w' := by
  have hC := fun w => Try.stringslite_Clone s w (by omega)
  go_enter Try.func21, Try.ntmps21
  go_wp2_with (go_at_call 22; go_fit (hC _); rintro e w1 ⟨rfl, b1⟩)
  go_ret
  exact ⟨rfl, b1⟩

/-- Nine cells, stored one by one. -/
def ninW (W : World) (E : Nat) (v0 v1 v2 v3 v4 v5 v6 v7 v8 : Value) : World :=
  ((((((((W.setCell ⟨E, 0, none⟩ v0).setCell ⟨E, 1, none⟩ v1).setCell ⟨E, 2, none⟩ v2).setCell ⟨E, 3, none⟩ v3).setCell ⟨E, 4, none⟩ v4).setCell ⟨E, 5, none⟩ v5).setCell ⟨E, 6, none⟩ v6).setCell ⟨E, 7, none⟩ v7).setCell ⟨E, 8, none⟩ v8
theorem ninW_heap {W : World} {E : Nat} {T : TypeId} {c0 c1 c2 c3 c4 c5 c6 c7 c8 : Value} (h : W.heap[E]? = some (.cells #[c0, c1, c2, c3, c4, c5, c6, c7, c8] T (0, 0))) (v0 v1 v2 v3 v4 v5 v6 v7 v8 : Value) :
    (ninW W E v0 v1 v2 v3 v4 v5 v6 v7 v8).heap[E]? = some (.cells #[v0, v1, v2, v3, v4, v5, v6, v7, v8] T (0, 0)) := by
  unfold ninW
  have := set_heap _ E 8 _ _ _ v8 (set_heap _ E 7 _ _ _ v7 (set_heap _ E 6 _ _ _ v6 (set_heap _ E 5 _ _ _ v5 (set_heap _ E 4 _ _ _ v4 (set_heap _ E 3 _ _ _ v3 (set_heap _ E 2 _ _ _ v2 (set_heap _ E 1 _ _ _ v1 (set_heap W E 0 _ _ _ v0 h))))))))
  simp only [List.setIfInBounds_toArray, List.set_cons_zero, List.set_cons_succ] at this
  exact this
theorem ninW_below {B : Nat} {V W : World} (h : Below B V W) {E : Nat} (hE : B ≤ E) (v0 v1 v2 v3 v4 v5 v6 v7 v8 : Value) : Below B V (ninW W E v0 v1 v2 v3 v4 v5 v6 v7 v8) :=
  ((((((((h.setCell (p := ⟨E, 0, none⟩) hE _).setCell (p := ⟨E, 1, none⟩) hE _).setCell (p := ⟨E, 2, none⟩) hE _).setCell (p := ⟨E, 3, none⟩) hE _).setCell (p := ⟨E, 4, none⟩) hE _).setCell (p := ⟨E, 5, none⟩) hE _).setCell (p := ⟨E, 6, none⟩) hE _).setCell (p := ⟨E, 7, none⟩) hE _).setCell (p := ⟨E, 8, none⟩) hE _

set_option maxRecDepth 100000 in
set_option maxHeartbeats 8000000 in
theorem copyEntry_any (r : ByteArray) (q kd : Int) (u nk t i fr : ByteArray) (m : Int) (w : World) (hr : r.size ≤ 1048600) (hu : u.size ≤ 1048600) (hnk : nk.size ≤ 1048600) (ht : t.size ≤ 1048600) (hi : i.size ≤ 1048600) (hfr : fr.size ≤ 1048600) :
    Calls Try.prog 20 #[entV r q kd u nk t i fr m] w fun e w' => e = .returned (entV r q kd u nk t i fr m) ∧ Below w.heap.size w w' := by
  -- GEN
  obtain ⟨W1, hW1⟩ : ∃ W1, (w.alloc (.cells #[.string r, .int .i64 q, .int .i64 kd, .string u, .string nk, .string t, .string i, .string fr, .int .i64 m] 33)).alloc (.cells #[.string ⟨#[]⟩, .int .i64 0, .int .i64 0, .string ⟨#[]⟩, .string ⟨#[]⟩, .string ⟨#[]⟩, .string ⟨#[]⟩, .string ⟨#[]⟩, .int .i64 0] 33) = W1 := ⟨_, rfl⟩
  have b1 : Below w.heap.size w W1 := by rw [← hW1]; exact ((Below.refl _ w).alloc (Nat.le_refl _) _).alloc (by simp) _
  have s1 : W1.heap.size = w.heap.size + 2 := by rw [← hW1]; simp
  have eE : W1.heap[w.heap.size]? = some (.cells #[.string r, .int .i64 q, .int .i64 kd, .string u, .string nk, .string t, .string i, .string fr, .int .i64 m] 33 (0, 0)) := by
    rw [← hW1, Below.heap_alloc _ _ _ (by simp)]
    exact World.alloc_heap_new w _
  have eZ : W1.heap[w.heap.size + 1]? = some (.cells #[.string ⟨#[]⟩, .int .i64 0, .int .i64 0, .string ⟨#[]⟩, .string ⟨#[]⟩, .string ⟨#[]⟩, .string ⟨#[]⟩, .string ⟨#[]⟩, .int .i64 0] 33 (0, 0)) := by
    rw [← hW1]
    have := World.alloc_heap_new (w.alloc (.cells #[.string r, .int .i64 q, .int .i64 kd, .string u, .string nk, .string t, .string i, .string fr, .int .i64 m] 33)) (.cells #[.string ⟨#[]⟩, .int .i64 0, .int .i64 0, .string ⟨#[]⟩, .string ⟨#[]⟩, .string ⟨#[]⟩, .string ⟨#[]⟩, .string ⟨#[]⟩, .int .i64 0] 33)
    simpa using this
  have HW1 : Hid ((w.alloc (.cells #[.string r, .int .i64 q, .int .i64 kd, .string u, .string nk, .string t, .string i, .string fr, .int .i64 m] 33)).alloc (.cells #[.string ⟨#[]⟩, .int .i64 0, .int .i64 0, .string ⟨#[]⟩, .string ⟨#[]⟩, .string ⟨#[]⟩, .string ⟨#[]⟩, .string ⟨#[]⟩, .int .i64 0] 33) = W1) := hW1
  clear hW1
  go_enter Try.func20, Try.ntmps20
  go_wp2_with fail
  rw [HW1.out]
  refine wp_region_held_drew (S := (fun W => W.heap[w.heap.size]? = some (.cells #[.string r, .int .i64 q, .int .i64 kd, .string u, .string nk, .string t, .string i, .string fr, .int .i64 m] 33 (0, 0)))) (by kernel_rfl) eE (fun hHeld => ?_)
  refine wpAnyH_take (i := 0) (v := ?_) rfl (by kernel_rfl) (by kernel_rfl) (by kernel_rfl) (fun _ _ _ h => h) (Or.inl ⟨by rfl, ?takeYc1⟩) eE ?takeRc1
  case takeYc1 => (intro w9 hSw; (try dsimp only at hSw); obtain ⟨x0, x1, x2, x3, x4, x5, x6, x7, x8⟩ := nine_at hSw; go_simp; try (with_reducible rfl))
  simp only [Act.put, List.setIfInBounds_toArray, List.set_cons_zero, List.set_cons_succ, List.getElem_toArray, List.getElem_cons_zero]
  refine wpAnyH_take (i := 1) (v := ?_) rfl (by kernel_rfl) (by kernel_rfl) (by kernel_rfl) (fun _ _ _ h => h) (Or.inl ⟨by rfl, ?takeYc2⟩) eE ?takeRc2
  case takeYc2 => (intro w9 hSw; (try dsimp only at hSw); obtain ⟨x0, x1, x2, x3, x4, x5, x6, x7, x8⟩ := nine_at hSw; go_simp; try (with_reducible rfl))
  simp only [Act.put, List.setIfInBounds_toArray, List.set_cons_zero, List.set_cons_succ, List.getElem_toArray, List.getElem_cons_zero, List.getElem_cons_succ]
  refine wpAnyH_take (i := 3) (v := ?_) rfl (by kernel_rfl) (by kernel_rfl) (by kernel_rfl) (fun _ _ _ h => h) (Or.inl ⟨by rfl, ?takeYc3⟩) eE ?takeRc3
  case takeYc3 => (intro w9 hSw; (try dsimp only at hSw); obtain ⟨x0, x1, x2, x3, x4, x5, x6, x7, x8⟩ := nine_at hSw; go_simp; try (with_reducible rfl))
  simp only [Act.put, List.setIfInBounds_toArray, List.set_cons_zero, List.set_cons_succ, List.getElem_toArray, List.getElem_cons_zero, List.getElem_cons_succ]
  refine wpAnyH_take (i := 4) (v := ?_) rfl (by kernel_rfl) (by kernel_rfl) (by kernel_rfl) (fun _ _ _ h => h) (Or.inl ⟨by rfl, ?takeYc4⟩) eE ?takeRc4
  case takeYc4 => (intro w9 hSw; (try dsimp only at hSw); obtain ⟨x0, x1, x2, x3, x4, x5, x6, x7, x8⟩ := nine_at hSw; go_simp; try (with_reducible rfl))
  simp only [Act.put, List.setIfInBounds_toArray, List.set_cons_zero, List.set_cons_succ, List.getElem_toArray, List.getElem_cons_zero, List.getElem_cons_succ]
  refine wpAnyH_take (i := 6) (v := ?_) rfl (by kernel_rfl) (by kernel_rfl) (by kernel_rfl) (fun _ _ _ h => h) (Or.inl ⟨by rfl, ?takeYc5⟩) eE ?takeRc5
  case takeYc5 => (intro w9 hSw; (try dsimp only at hSw); obtain ⟨x0, x1, x2, x3, x4, x5, x6, x7, x8⟩ := nine_at hSw; go_simp; try (with_reducible rfl))
  simp only [Act.put, List.setIfInBounds_toArray, List.set_cons_zero, List.set_cons_succ, List.getElem_toArray, List.getElem_cons_zero, List.getElem_cons_succ]
  refine wpAnyH_take (i := 7) (v := ?_) rfl (by kernel_rfl) (by kernel_rfl) (by kernel_rfl) (fun _ _ _ h => h) (Or.inl ⟨by rfl, ?takeYc6⟩) eE ?takeRc6
  case takeYc6 => (intro w9 hSw; (try dsimp only at hSw); obtain ⟨x0, x1, x2, x3, x4, x5, x6, x7, x8⟩ := nine_at hSw; go_simp; try (with_reducible rfl))
  simp only [Act.put, List.setIfInBounds_toArray, List.set_cons_zero, List.set_cons_succ, List.getElem_toArray, List.getElem_cons_zero, List.getElem_cons_succ]
  have ab0 : Below (w.heap.size + 2) W1 W1.drew := (Below.refl _ W1).drew
  refine wpAnyH_ready (rs := [2]) (by kernel_rfl) (by simp) ?_
  refine AllReadyH.cons rfl (fun K hK => ?_) AllReadyH.nil
  go_simp
  refine (clone_any r W1.drew (by omega)).mono ?_
  rintro e a1 ⟨rfl, p9⟩
  have as0 := ab0.size
  have ab1 : Below (w.heap.size + 2) W1 a1 := ab0.trans (p9.mono (by omega))
  have ae1 := (ab1.block w.heap.size (by omega)).trans eE
  go_wp2_with fail
  refine hK.out _ _ ae1 (fun _ => ?_)
  clear hK K p9
  try simp only [Act.put, List.setIfInBounds_toArray, List.set_cons_zero, List.set_cons_succ, List.getElem_toArray, List.getElem_cons_zero, List.getElem_cons_succ]
  refine wpAnyH_take (i := 9) (v := ?_) rfl (by kernel_rfl) (by kernel_rfl) (by kernel_rfl) (fun _ _ _ h => h) (Or.inl ⟨by rfl, ?takeYc7⟩) ae1 ?takeRc7
  case takeYc7 => (intro w9 hSw; (try dsimp only at hSw); obtain ⟨x0, x1, x2, x3, x4, x5, x6, x7, x8⟩ := nine_at hSw; go_simp; try (with_reducible rfl))
  simp only [Act.put, List.setIfInBounds_toArray, List.set_cons_zero, List.set_cons_succ, List.getElem_toArray, List.getElem_cons_zero, List.getElem_cons_succ]
  refine wpAnyH_ready (rs := [5]) (by kernel_rfl) (by simp) ?_
  refine AllReadyH.cons rfl (fun K hK => ?_) AllReadyH.nil
  go_simp
  refine (clone_any u a1 (by omega)).mono ?_
  rintro e a2 ⟨rfl, p9⟩
  have as1 := ab1.size
  have ab2 : Below (w.heap.size + 2) W1 a2 := ab1.trans (p9.mono (by omega))
  have ae2 := (ab2.block w.heap.size (by omega)).trans eE
  go_wp2_with fail
  refine hK.out _ _ ae2 (fun _ => ?_)
  clear hK K p9
  try simp only [Act.put, List.setIfInBounds_toArray, List.set_cons_zero, List.set_cons_succ, List.getElem_toArray, List.getElem_cons_zero, List.getElem_cons_succ]
  refine wpAnyH_ready (rs := [8]) (by kernel_rfl) (by simp) ?_
  refine AllReadyH.cons rfl (fun K hK => ?_) AllReadyH.nil
  go_simp
  refine (clone_any nk a2 (by omega)).mono ?_
  rintro e a3 ⟨rfl, p9⟩
  have as2 := ab2.size
  have ab3 : Below (w.heap.size + 2) W1 a3 := ab2.trans (p9.mono (by omega))
  have ae3 := (ab3.block w.heap.size (by omega)).trans eE
  go_wp2_with fail
  refine hK.out _ _ ae3 (fun _ => ?_)
  clear hK K p9
  try simp only [Act.put, List.setIfInBounds_toArray, List.set_cons_zero, List.set_cons_succ, List.getElem_toArray, List.getElem_cons_zero, List.getElem_cons_succ]
  refine wpAnyH_ready (rs := [10]) (by kernel_rfl) (by simp) ?_
  refine AllReadyH.cons rfl (fun K hK => ?_) AllReadyH.nil
  obtain ⟨x0, x1, x2, x3, x4, x5, x6, x7, x8⟩ := nine_at ae3
  have fz9 : ∀ j, (a3).frozen? ⟨w.heap.size, j, none⟩ = false := fun j => by simp [World.frozen?, ae3]
  go_simp
  obtain ⟨ay0, hay0⟩ : ∃ W, (a3).setCell ⟨w.heap.size, 0, none⟩ (.string r) = W := ⟨_, rfl⟩
  have af0 : ay0.heap[w.heap.size]? = some (.cells #[.string r, .int .i64 q, .int .i64 kd, .string u, .string nk, .string t, .string i, .string fr, .int .i64 m] 33 (0, 0)) := by
    rw [← hay0]
    have h := set_heap _ w.heap.size 0 _ _ _ (.string r) ae3
    simpa using h
  have ak0 : ∀ j, j ≠ w.heap.size → ay0.heap[j]? = (a3).heap[j]? := fun j hj => by rw [← hay0]; exact Below.heap_setCell _ _ _ _ (fun e => hj e)
  have al0 : Below w.heap.size (a3) ay0 := by rw [← hay0]; exact (Below.refl _ _).setCell (p := ⟨w.heap.size, 0, none⟩) (Nat.le_refl _) _
  rw [hay0]
  refine hK.out _ _ af0 (fun _ => ?_)
  clear hK K x0 x1 x2 x3 x4 x5 x6 x7 x8 fz9 hay0
  try simp only [Act.put, List.setIfInBounds_toArray, List.set_cons_zero, List.set_cons_succ, List.getElem_toArray, List.getElem_cons_zero, List.getElem_cons_succ]
  refine wpAnyH_take (i := 11) (v := ?_) rfl (by kernel_rfl) (by kernel_rfl) (by kernel_rfl) (fun _ _ _ h => h) (Or.inl ⟨by rfl, ?takeYc8⟩) af0 ?takeRc8
  case takeYc8 => (intro w9 hSw; (try dsimp only at hSw); obtain ⟨x0, x1, x2, x3, x4, x5, x6, x7, x8⟩ := nine_at hSw; go_simp; try (with_reducible rfl))
  simp only [Act.put, List.setIfInBounds_toArray, List.set_cons_zero, List.set_cons_succ, List.getElem_toArray, List.getElem_cons_zero, List.getElem_cons_succ]
  refine wpAnyH_ready (rs := [12]) (by kernel_rfl) (by simp) ?_
  refine AllReadyH.cons rfl (fun K hK => ?_) AllReadyH.nil
  obtain ⟨x0, x1, x2, x3, x4, x5, x6, x7, x8⟩ := nine_at af0
  have fz9 : ∀ j, (ay0).frozen? ⟨w.heap.size, j, none⟩ = false := fun j => by simp [World.frozen?, af0]
  go_simp
  obtain ⟨ay1, hay1⟩ : ∃ W, (ay0).setCell ⟨w.heap.size, 3, none⟩ (.string u) = W := ⟨_, rfl⟩
  have af1 : ay1.heap[w.heap.size]? = some (.cells #[.string r, .int .i64 q, .int .i64 kd, .string u, .string nk, .string t, .string i, .string fr, .int .i64 m] 33 (0, 0)) := by
    rw [← hay1]
    have h := set_heap _ w.heap.size 3 _ _ _ (.string u) af0
    simpa using h
  have ak1 : ∀ j, j ≠ w.heap.size → ay1.heap[j]? = (ay0).heap[j]? := fun j hj => by rw [← hay1]; exact Below.heap_setCell _ _ _ _ (fun e => hj e)
  have al1 : Below w.heap.size (ay0) ay1 := by rw [← hay1]; exact (Below.refl _ _).setCell (p := ⟨w.heap.size, 3, none⟩) (Nat.le_refl _) _
  rw [hay1]
  refine hK.out _ _ af1 (fun _ => ?_)
  clear hK K x0 x1 x2 x3 x4 x5 x6 x7 x8 fz9 hay1
  try simp only [Act.put, List.setIfInBounds_toArray, List.set_cons_zero, List.set_cons_succ, List.getElem_toArray, List.getElem_cons_zero, List.getElem_cons_succ]
  refine wpAnyH_take (i := 13) (v := ?_) rfl (by kernel_rfl) (by kernel_rfl) (by kernel_rfl) (fun _ _ _ h => h) (Or.inl ⟨by rfl, ?takeYc9⟩) af1 ?takeRc9
  case takeYc9 => (intro w9 hSw; (try dsimp only at hSw); obtain ⟨x0, x1, x2, x3, x4, x5, x6, x7, x8⟩ := nine_at hSw; go_simp; try (with_reducible rfl))
  simp only [Act.put, List.setIfInBounds_toArray, List.set_cons_zero, List.set_cons_succ, List.getElem_toArray, List.getElem_cons_zero, List.getElem_cons_succ]
  refine wpAnyH_ready (rs := [14]) (by kernel_rfl) (by simp) ?_
  refine AllReadyH.cons rfl (fun K hK => ?_) AllReadyH.nil
  obtain ⟨x0, x1, x2, x3, x4, x5, x6, x7, x8⟩ := nine_at af1
  have fz9 : ∀ j, (ay1).frozen? ⟨w.heap.size, j, none⟩ = false := fun j => by simp [World.frozen?, af1]
  go_simp
  obtain ⟨ay2, hay2⟩ : ∃ W, (ay1).setCell ⟨w.heap.size, 4, none⟩ (.string nk) = W := ⟨_, rfl⟩
  have af2 : ay2.heap[w.heap.size]? = some (.cells #[.string r, .int .i64 q, .int .i64 kd, .string u, .string nk, .string t, .string i, .string fr, .int .i64 m] 33 (0, 0)) := by
    rw [← hay2]
    have h := set_heap _ w.heap.size 4 _ _ _ (.string nk) af1
    simpa using h
  have ak2 : ∀ j, j ≠ w.heap.size → ay2.heap[j]? = (ay1).heap[j]? := fun j hj => by rw [← hay2]; exact Below.heap_setCell _ _ _ _ (fun e => hj e)
  have al2 : Below w.heap.size (ay1) ay2 := by rw [← hay2]; exact (Below.refl _ _).setCell (p := ⟨w.heap.size, 4, none⟩) (Nat.le_refl _) _
  rw [hay2]
  refine hK.out _ _ af2 (fun _ => ?_)
  clear hK K x0 x1 x2 x3 x4 x5 x6 x7 x8 fz9 hay2
  try simp only [Act.put, List.setIfInBounds_toArray, List.set_cons_zero, List.set_cons_succ, List.getElem_toArray, List.getElem_cons_zero, List.getElem_cons_succ]
  refine wpAnyH_done (by kernel_rfl) ?_ _
  go_wp2_with fail
  have eZ2 : ay2.heap[w.heap.size + 1]? = some (.cells #[.string ⟨#[]⟩, .int .i64 0, .int .i64 0, .string ⟨#[]⟩, .string ⟨#[]⟩, .string ⟨#[]⟩, .string ⟨#[]⟩, .string ⟨#[]⟩, .int .i64 0] 33 (0, 0)) := (ak2 _ (by omega)).trans ((ak1 _ (by omega)).trans ((ak0 _ (by omega)).trans ((ab3.block _ (by omega)).trans eZ)))
  have bl2 : Below w.heap.size w ay2 := (((b1.trans (ab3.mono (by omega))).trans (al0.mono (by have := ab3.size; omega))).trans (al1.mono (by have := ab3.size; have := al0.size; omega))).trans (al2.mono (by have := ab3.size; have := al0.size; have := al1.size; omega))
  have az2 := ab3.size
  have aq0 := al0.size
  have aq1 := al1.size
  have aq2 := al2.size
  have S2 : w.heap.size + 2 ≤ ay2.heap.size := by omega
  refine wp_region_held_drew (S := (fun W => W.heap[w.heap.size]? = some (.cells #[.string r, .int .i64 q, .int .i64 kd, .string u, .string nk, .string t, .string i, .string fr, .int .i64 m] 33 (0, 0)))) (by kernel_rfl) af2 (fun hHeld => ?_)
  refine wpAnyH_take (i := 0) (v := ?_) rfl (by kernel_rfl) (by kernel_rfl) (by kernel_rfl) (fun _ _ _ h => h) (Or.inl ⟨by rfl, ?takeYc10⟩) af2 ?takeRc10
  case takeYc10 => (intro w9 hSw; (try dsimp only at hSw); obtain ⟨x0, x1, x2, x3, x4, x5, x6, x7, x8⟩ := nine_at hSw; go_simp; try (with_reducible rfl))
  simp only [Act.put, List.setIfInBounds_toArray, List.set_cons_zero, List.set_cons_succ, List.getElem_toArray, List.getElem_cons_zero]
  refine wpAnyH_take (i := 1) (v := ?_) rfl (by kernel_rfl) (by kernel_rfl) (by kernel_rfl) (fun _ _ _ h => h) (Or.inl ⟨by rfl, ?takeYc11⟩) af2 ?takeRc11
  case takeYc11 => (intro w9 hSw; (try dsimp only at hSw); obtain ⟨x0, x1, x2, x3, x4, x5, x6, x7, x8⟩ := nine_at hSw; go_simp; try (with_reducible rfl))
  simp only [Act.put, List.setIfInBounds_toArray, List.set_cons_zero, List.set_cons_succ, List.getElem_toArray, List.getElem_cons_zero, List.getElem_cons_succ]
  refine wpAnyH_take (i := 3) (v := ?_) rfl (by kernel_rfl) (by kernel_rfl) (by kernel_rfl) (fun _ _ _ h => h) (Or.inl ⟨by rfl, ?takeYc12⟩) af2 ?takeRc12
  case takeYc12 => (intro w9 hSw; (try dsimp only at hSw); obtain ⟨x0, x1, x2, x3, x4, x5, x6, x7, x8⟩ := nine_at hSw; go_simp; try (with_reducible rfl))
  simp only [Act.put, List.setIfInBounds_toArray, List.set_cons_zero, List.set_cons_succ, List.getElem_toArray, List.getElem_cons_zero, List.getElem_cons_succ]
  refine wpAnyH_take (i := 4) (v := ?_) rfl (by kernel_rfl) (by kernel_rfl) (by kernel_rfl) (fun _ _ _ h => h) (Or.inl ⟨by rfl, ?takeYc13⟩) af2 ?takeRc13
  case takeYc13 => (intro w9 hSw; (try dsimp only at hSw); obtain ⟨x0, x1, x2, x3, x4, x5, x6, x7, x8⟩ := nine_at hSw; go_simp; try (with_reducible rfl))
  simp only [Act.put, List.setIfInBounds_toArray, List.set_cons_zero, List.set_cons_succ, List.getElem_toArray, List.getElem_cons_zero, List.getElem_cons_succ]
  refine wpAnyH_take (i := 6) (v := ?_) rfl (by kernel_rfl) (by kernel_rfl) (by kernel_rfl) (fun _ _ _ h => h) (Or.inl ⟨by rfl, ?takeYc14⟩) af2 ?takeRc14
  case takeYc14 => (intro w9 hSw; (try dsimp only at hSw); obtain ⟨x0, x1, x2, x3, x4, x5, x6, x7, x8⟩ := nine_at hSw; go_simp; try (with_reducible rfl))
  simp only [Act.put, List.setIfInBounds_toArray, List.set_cons_zero, List.set_cons_succ, List.getElem_toArray, List.getElem_cons_zero, List.getElem_cons_succ]
  refine wpAnyH_take (i := 7) (v := ?_) rfl (by kernel_rfl) (by kernel_rfl) (by kernel_rfl) (fun _ _ _ h => h) (Or.inl ⟨by rfl, ?takeYc15⟩) af2 ?takeRc15
  case takeYc15 => (intro w9 hSw; (try dsimp only at hSw); obtain ⟨x0, x1, x2, x3, x4, x5, x6, x7, x8⟩ := nine_at hSw; go_simp; try (with_reducible rfl))
  simp only [Act.put, List.setIfInBounds_toArray, List.set_cons_zero, List.set_cons_succ, List.getElem_toArray, List.getElem_cons_zero, List.getElem_cons_succ]
  have cb0 : Below (w.heap.size + 2) ay2 ay2.drew := (Below.refl _ ay2).drew
  refine wpAnyH_ready (rs := [2]) (by kernel_rfl) (by simp) ?_
  refine AllReadyH.cons rfl (fun K hK => ?_) AllReadyH.nil
  go_simp
  refine (clone_any t ay2.drew (by omega)).mono ?_
  rintro e c1 ⟨rfl, p9⟩
  have cs0 := cb0.size
  have cb1 : Below (w.heap.size + 2) ay2 c1 := cb0.trans (p9.mono (by omega))
  have ce1 := (cb1.block w.heap.size (by omega)).trans af2
  go_wp2_with fail
  refine hK.out _ _ ce1 (fun _ => ?_)
  clear hK K p9
  try simp only [Act.put, List.setIfInBounds_toArray, List.set_cons_zero, List.set_cons_succ, List.getElem_toArray, List.getElem_cons_zero, List.getElem_cons_succ]
  refine wpAnyH_take (i := 9) (v := ?_) rfl (by kernel_rfl) (by kernel_rfl) (by kernel_rfl) (fun _ _ _ h => h) (Or.inl ⟨by rfl, ?takeYc16⟩) ce1 ?takeRc16
  case takeYc16 => (intro w9 hSw; (try dsimp only at hSw); obtain ⟨x0, x1, x2, x3, x4, x5, x6, x7, x8⟩ := nine_at hSw; go_simp; try (with_reducible rfl))
  simp only [Act.put, List.setIfInBounds_toArray, List.set_cons_zero, List.set_cons_succ, List.getElem_toArray, List.getElem_cons_zero, List.getElem_cons_succ]
  refine wpAnyH_ready (rs := [5]) (by kernel_rfl) (by simp) ?_
  refine AllReadyH.cons rfl (fun K hK => ?_) AllReadyH.nil
  go_simp
  refine (clone_any i c1 (by omega)).mono ?_
  rintro e c2 ⟨rfl, p9⟩
  have cs1 := cb1.size
  have cb2 : Below (w.heap.size + 2) ay2 c2 := cb1.trans (p9.mono (by omega))
  have ce2 := (cb2.block w.heap.size (by omega)).trans af2
  go_wp2_with fail
  refine hK.out _ _ ce2 (fun _ => ?_)
  clear hK K p9
  try simp only [Act.put, List.setIfInBounds_toArray, List.set_cons_zero, List.set_cons_succ, List.getElem_toArray, List.getElem_cons_zero, List.getElem_cons_succ]
  refine wpAnyH_ready (rs := [8]) (by kernel_rfl) (by simp) ?_
  refine AllReadyH.cons rfl (fun K hK => ?_) AllReadyH.nil
  go_simp
  refine (clone_any fr c2 (by omega)).mono ?_
  rintro e c3 ⟨rfl, p9⟩
  have cs2 := cb2.size
  have cb3 : Below (w.heap.size + 2) ay2 c3 := cb2.trans (p9.mono (by omega))
  have ce3 := (cb3.block w.heap.size (by omega)).trans af2
  go_wp2_with fail
  refine hK.out _ _ ce3 (fun _ => ?_)
  clear hK K p9
  try simp only [Act.put, List.setIfInBounds_toArray, List.set_cons_zero, List.set_cons_succ, List.getElem_toArray, List.getElem_cons_zero, List.getElem_cons_succ]
  refine wpAnyH_ready (rs := [10]) (by kernel_rfl) (by simp) ?_
  refine AllReadyH.cons rfl (fun K hK => ?_) AllReadyH.nil
  obtain ⟨x0, x1, x2, x3, x4, x5, x6, x7, x8⟩ := nine_at ce3
  have fz9 : ∀ j, (c3).frozen? ⟨w.heap.size, j, none⟩ = false := fun j => by simp [World.frozen?, ce3]
  go_simp
  obtain ⟨cy0, hcy0⟩ : ∃ W, (c3).setCell ⟨w.heap.size, 5, none⟩ (.string t) = W := ⟨_, rfl⟩
  have cf0 : cy0.heap[w.heap.size]? = some (.cells #[.string r, .int .i64 q, .int .i64 kd, .string u, .string nk, .string t, .string i, .string fr, .int .i64 m] 33 (0, 0)) := by
    rw [← hcy0]
    have h := set_heap _ w.heap.size 5 _ _ _ (.string t) ce3
    simpa using h
  have ck0 : ∀ j, j ≠ w.heap.size → cy0.heap[j]? = (c3).heap[j]? := fun j hj => by rw [← hcy0]; exact Below.heap_setCell _ _ _ _ (fun e => hj e)
  have cl0 : Below w.heap.size (c3) cy0 := by rw [← hcy0]; exact (Below.refl _ _).setCell (p := ⟨w.heap.size, 5, none⟩) (Nat.le_refl _) _
  rw [hcy0]
  refine hK.out _ _ cf0 (fun _ => ?_)
  clear hK K x0 x1 x2 x3 x4 x5 x6 x7 x8 fz9 hcy0
  try simp only [Act.put, List.setIfInBounds_toArray, List.set_cons_zero, List.set_cons_succ, List.getElem_toArray, List.getElem_cons_zero, List.getElem_cons_succ]
  refine wpAnyH_take (i := 11) (v := ?_) rfl (by kernel_rfl) (by kernel_rfl) (by kernel_rfl) (fun _ _ _ h => h) (Or.inl ⟨by rfl, ?takeYc17⟩) cf0 ?takeRc17
  case takeYc17 => (intro w9 hSw; (try dsimp only at hSw); obtain ⟨x0, x1, x2, x3, x4, x5, x6, x7, x8⟩ := nine_at hSw; go_simp; try (with_reducible rfl))
  simp only [Act.put, List.setIfInBounds_toArray, List.set_cons_zero, List.set_cons_succ, List.getElem_toArray, List.getElem_cons_zero, List.getElem_cons_succ]
  refine wpAnyH_ready (rs := [12]) (by kernel_rfl) (by simp) ?_
  refine AllReadyH.cons rfl (fun K hK => ?_) AllReadyH.nil
  obtain ⟨x0, x1, x2, x3, x4, x5, x6, x7, x8⟩ := nine_at cf0
  have fz9 : ∀ j, (cy0).frozen? ⟨w.heap.size, j, none⟩ = false := fun j => by simp [World.frozen?, cf0]
  go_simp
  obtain ⟨cy1, hcy1⟩ : ∃ W, (cy0).setCell ⟨w.heap.size, 6, none⟩ (.string i) = W := ⟨_, rfl⟩
  have cf1 : cy1.heap[w.heap.size]? = some (.cells #[.string r, .int .i64 q, .int .i64 kd, .string u, .string nk, .string t, .string i, .string fr, .int .i64 m] 33 (0, 0)) := by
    rw [← hcy1]
    have h := set_heap _ w.heap.size 6 _ _ _ (.string i) cf0
    simpa using h
  have ck1 : ∀ j, j ≠ w.heap.size → cy1.heap[j]? = (cy0).heap[j]? := fun j hj => by rw [← hcy1]; exact Below.heap_setCell _ _ _ _ (fun e => hj e)
  have cl1 : Below w.heap.size (cy0) cy1 := by rw [← hcy1]; exact (Below.refl _ _).setCell (p := ⟨w.heap.size, 6, none⟩) (Nat.le_refl _) _
  rw [hcy1]
  refine hK.out _ _ cf1 (fun _ => ?_)
  clear hK K x0 x1 x2 x3 x4 x5 x6 x7 x8 fz9 hcy1
  try simp only [Act.put, List.setIfInBounds_toArray, List.set_cons_zero, List.set_cons_succ, List.getElem_toArray, List.getElem_cons_zero, List.getElem_cons_succ]
  refine wpAnyH_take (i := 13) (v := ?_) rfl (by kernel_rfl) (by kernel_rfl) (by kernel_rfl) (fun _ _ _ h => h) (Or.inl ⟨by rfl, ?takeYc18⟩) cf1 ?takeRc18
  case takeYc18 => (intro w9 hSw; (try dsimp only at hSw); obtain ⟨x0, x1, x2, x3, x4, x5, x6, x7, x8⟩ := nine_at hSw; go_simp; try (with_reducible rfl))
  simp only [Act.put, List.setIfInBounds_toArray, List.set_cons_zero, List.set_cons_succ, List.getElem_toArray, List.getElem_cons_zero, List.getElem_cons_succ]
  refine wpAnyH_ready (rs := [14]) (by kernel_rfl) (by simp) ?_
  refine AllReadyH.cons rfl (fun K hK => ?_) AllReadyH.nil
  obtain ⟨x0, x1, x2, x3, x4, x5, x6, x7, x8⟩ := nine_at cf1
  have fz9 : ∀ j, (cy1).frozen? ⟨w.heap.size, j, none⟩ = false := fun j => by simp [World.frozen?, cf1]
  go_simp
  obtain ⟨cy2, hcy2⟩ : ∃ W, (cy1).setCell ⟨w.heap.size, 7, none⟩ (.string fr) = W := ⟨_, rfl⟩
  have cf2 : cy2.heap[w.heap.size]? = some (.cells #[.string r, .int .i64 q, .int .i64 kd, .string u, .string nk, .string t, .string i, .string fr, .int .i64 m] 33 (0, 0)) := by
    rw [← hcy2]
    have h := set_heap _ w.heap.size 7 _ _ _ (.string fr) cf1
    simpa using h
  have ck2 : ∀ j, j ≠ w.heap.size → cy2.heap[j]? = (cy1).heap[j]? := fun j hj => by rw [← hcy2]; exact Below.heap_setCell _ _ _ _ (fun e => hj e)
  have cl2 : Below w.heap.size (cy1) cy2 := by rw [← hcy2]; exact (Below.refl _ _).setCell (p := ⟨w.heap.size, 7, none⟩) (Nat.le_refl _) _
  rw [hcy2]
  refine hK.out _ _ cf2 (fun _ => ?_)
  clear hK K x0 x1 x2 x3 x4 x5 x6 x7 x8 fz9 hcy2
  try simp only [Act.put, List.setIfInBounds_toArray, List.set_cons_zero, List.set_cons_succ, List.getElem_toArray, List.getElem_cons_zero, List.getElem_cons_succ]
  refine wpAnyH_done (by kernel_rfl) ?_ _
  have eZ3 := (ck2 _ (by omega)).trans ((ck1 _ (by omega)).trans ((ck0 _ (by omega)).trans ((cb3.block (w.heap.size + 1) (by omega)).trans eZ2)))
  have bl3 : Below w.heap.size w cy2 := (((bl2.trans (cb3.mono (by omega))).trans (cl0.mono (by have := cb3.size; have := bl2.size; omega))).trans (cl1.mono (by have := cb3.size; have := cl0.size; have := bl2.size; omega))).trans (cl2.mono (by have := cb3.size; have := cl0.size; have := cl1.size; have := bl2.size; omega))
  obtain ⟨x0, x1, x2, x3, x4, x5, x6, x7, x8⟩ := nine_at cf2
  obtain ⟨z0, z1, z2, z3, z4, z5, z6, z7, z8⟩ := nine_at eZ3
  have fz9 : ∀ j, cy2.frozen? ⟨w.heap.size + 1, j, none⟩ = false := fun j => by simp [World.frozen?, eZ3]
  go_wp2_with fail
  have N9 := nine_at (ninW_heap eZ3 (.string r) (.int .i64 q) (.int .i64 kd) (.string u) (.string nk) (.string t) (.string i) (.string fr) (.int .i64 m))
  have b9 := ninW_below bl3 (show w.heap.size ≤ w.heap.size + 1 by omega) (.string r) (.int .i64 q) (.int .i64 kd) (.string u) (.string nk) (.string t) (.string i) (.string fr) (.int .i64 m)
  obtain ⟨W9, hW9⟩ : ∃ W9, ninW cy2 (w.heap.size + 1) (.string r) (.int .i64 q) (.int .i64 kd) (.string u) (.string nk) (.string t) (.string i) (.string fr) (.int .i64 m) = W9 := ⟨_, rfl⟩
  rw [hW9] at N9 b9
  unfold ninW at hW9
  rw [hW9]
  obtain ⟨g0, g1, g2, g3, g4, g5, g6, g7, g8⟩ := N9
  exact bodyPost_ret (v := entV r q kd u nk t i fr m) (by simp [results, Try.results20, go_sem, g0, g1, g2, g3, g4, g5, g6, g7, g8]) rfl ⟨rfl, b9⟩
end Go.Proofs.Ytkmagkpieihcgaa.Hub
