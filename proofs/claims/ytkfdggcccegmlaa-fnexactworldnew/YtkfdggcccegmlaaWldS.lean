/-
  A new world, of the model.
-/
import Derived.Test.YtkfdggcccegmlaaCliLaw
import Derived.Test.YtkfdggcccegmlaaNewS
import Derived.Deep.AppendLies
namespace Go.Proofs.Ytkfdggcccegmlaa.Hub
open Go.RowKit
set_option linter.unusedVariables false

/-- A world of accounts and clients alone. -/
abbrev wldV (a c : Value) : Value := .agg #[a, .slice none 0 0, .string ⟨#[]⟩, .slice none 0 0, .int .i64 0, c, .int .i64 0]
theorem info_cli : (Try.prog.info? 49).map (fun i => (i.zero, i.size, i.bytes)) = some (some (.agg #[.int .i64 0, .slice none 0 0, .int .i64 0, .slice none 0 0, .string ⟨#[]⟩]), 5, 80) := by kernel_rfl

theorem OwnA.below {W W' : World} {base n : Nat} {a : Value} {U N : Nat → ByteArray} (h : OwnA W base a n U N) (bb : Below W.heap.size W W') : OwnA W' base a n U N :=
  World.ownsRow.kept (row := none) h ⟨bb.os, bb.tape, bb.output, bb.size, fun q hq _ => bb.block q hq⟩ (Classical.em _)
theorem OwnA.alloc {W : World} {base n : Nat} {a : Value} {U N : Nat → ByteArray} (h : OwnA W base a n U N) (o : Obj) : OwnA (W.alloc o) base a n U N := World.ownsRow.alloc h o
theorem OwnC.alloc {W : World} {base n : Nat} {v : Value} {L C : Nat → Int} {K : Nat → ByteArray} (h : OwnC W base v n L C K) (o : Obj) : OwnC (W.alloc o) base v n L C K := World.ownsRow.alloc h o
/-- The cells of a new client. -/
abbrev cliNew : List Value := [.int .i64 (-1), .slice none 0 0, .int .i64 0, .slice none 0 0, .string ⟨#[]⟩]
theorem cliNew_cells (W : World) : ∀ (j : Nat) (x : Value), cliNew[j]? = some x → (W.alloc (.cells #[.int .i64 (-1), .slice none 0 0, .int .i64 0, .slice none 0 0, .string ⟨#[]⟩] 49)).cell? ((⟨W.heap.size, 0, none⟩ : Addr).add j) = some x := by
  intro j x hj
  match j, hj with
  | 0, hj => simp at hj; subst hj; simp [Addr.add]
  | 1, hj => simp at hj; subst hj; simp [Addr.add]
  | 2, hj => simp at hj; subst hj; simp [Addr.add]
  | 3, hj => simp at hj; subst hj; simp [Addr.add]
  | 4, hj => simp at hj; subst hj; simp [Addr.add]
theorem cliNew_one : ∀ x ∈ cliNew, x.oneCell' = true := by
  intro x hx
  simp at hx
  rcases hx with rfl | rfl | rfl | rfl | rfl <;> rfl
/-- A block of a world, and its cells. -/
abbrev wldC (a c : Value) : Array Value := #[a, .slice none 0 0, .string ⟨#[]⟩, .slice none 0 0, .int .i64 0, c, .int .i64 0]
theorem seven_cells {W : World} {E : Nat} {T : TypeId} {a c : Value} (h : W.heap[E]? = some (.cells (wldC a c) T (0, 0))) : W.cell? ⟨E, 0, none⟩ = some a ∧ W.cell? ⟨E, 1, none⟩ = some (.slice none 0 0) ∧ W.cell? ⟨E, 2, none⟩ = some (.string ⟨#[]⟩) ∧ W.cell? ⟨E, 3, none⟩ = some (.slice none 0 0) ∧ W.cell? ⟨E, 4, none⟩ = some (.int .i64 0) ∧ W.cell? ⟨E, 5, none⟩ = some c ∧ W.cell? ⟨E, 6, none⟩ = some (.int .i64 0) := by
  simp only [World.cell?, h]
  exact ⟨rfl, rfl, rfl, rfl, rfl, rfl, rfl⟩

/-- A world, stored field by field. -/
def sevenW (W : World) (E : Nat) (a c : Value) : World :=
  ((((((W.setCell ⟨E, 0, none⟩ a).setCell ⟨E, 1, none⟩ (.slice none 0 0)).setCell ⟨E, 2, none⟩ (.string ⟨#[]⟩)).setCell ⟨E, 3, none⟩ (.slice none 0 0)).setCell ⟨E, 4, none⟩ (.int .i64 0)).setCell ⟨E, 5, none⟩ c).setCell ⟨E, 6, none⟩ (.int .i64 0)
theorem sevenW_heap {W : World} {E : Nat} {T : TypeId} {c0 c1 c2 c3 c4 c5 c6 : Value} (h : W.heap[E]? = some (.cells #[c0, c1, c2, c3, c4, c5, c6] T (0, 0))) (a c : Value) :
    (sevenW W E a c).heap[E]? = some (.cells (wldC a c) T (0, 0)) := by
  unfold sevenW
  have := set_heap _ E 6 _ _ _ (.int .i64 0) (set_heap _ E 5 _ _ _ c (set_heap _ E 4 _ _ _ (.int .i64 0) (set_heap _ E 3 _ _ _ (.slice none 0 0) (set_heap _ E 2 _ _ _ (.string ⟨#[]⟩) (set_heap _ E 1 _ _ _ (.slice none 0 0) (set_heap W E 0 _ _ _ a h))))))
  simp only [List.setIfInBounds_toArray, List.set_cons_zero, List.set_cons_succ] at this
  exact this
theorem sevenW_below {B : Nat} {V W : World} (h : Below B V W) {E : Nat} (hE : B ≤ E) (a c : Value) : Below B V (sevenW W E a c) :=
  ((((((h.setCell (p := ⟨E, 0, none⟩) hE _).setCell (p := ⟨E, 1, none⟩) hE _).setCell (p := ⟨E, 2, none⟩) hE _).setCell (p := ⟨E, 3, none⟩) hE _).setCell (p := ⟨E, 4, none⟩) hE _).setCell (p := ⟨E, 5, none⟩) hE _).setCell (p := ⟨E, 6, none⟩) hE _
theorem ownA_seven {W : World} {base : Nat} {v : Value} {n : Nat} {U N : Nat → ByteArray} (h : OwnA W base v n U N) {E : Nat} (hE : E < base) (a c : Value) : OwnA (sevenW W E a c) base v n U N := by
  unfold sevenW
  exact ownA_set (ownA_set (ownA_set (ownA_set (ownA_set (ownA_set (ownA_set h hE 0 _) hE 1 _) hE 2 _) hE 3 _) hE 4 _) hE 5 _) hE 6 _
theorem ownC_seven {W : World} {base : Nat} {v : Value} {n : Nat} {L C : Nat → Int} {K : Nat → ByteArray} (h : OwnC W base v n L C K) {E : Nat} (hE : E < base) (a c : Value) : OwnC (sevenW W E a c) base v n L C K := by
  unfold sevenW
  exact ((((((h.set ⟨E, 0, none⟩ _ hE).set ⟨E, 1, none⟩ _ hE).set ⟨E, 2, none⟩ _ hE).set ⟨E, 3, none⟩ _ hE).set ⟨E, 4, none⟩ _ hE).set ⟨E, 5, none⟩ _ hE).set ⟨E, 6, none⟩ _ hE

set_option maxRecDepth 100000 in
set_option maxHeartbeats 4000000 in
theorem l11New_any (v : Value) (n : Nat) (U N : Nat → ByteArray) (w : World) (hm : AccAt w v n U N) (hs : ∀ j, j < n → (U j).size ≤ 1048576 ∧ (N j).size ≤ 1048576) (hn : n ≤ 4) (hT : accsT n U N = true) :
    Calls Try.prog 15 #[v] w fun e w' => (∃ a c mid, e = .returned (wldV a c) ∧ OwnA w' w.heap.size a n U N ∧ OwnC w' mid c n (fun _ => -1) (fun _ => 0) (fun _ => ⟨#[]⟩) ∧ w.heap.size ≤ mid ∧ ∀ q, a.ownBlock = some q → q < mid) ∧ Below w.heap.size w w' := by
  obtain ⟨i0, hi0, hz0, hz1, hz2⟩ := info_parts info_cli
  have cN := fun (W : World) (bb : Below w.heap.size w W) => specNew_any v n U N W (hm.below bb) hs (by omega)
  obtain ⟨o, cap, rfl, -⟩ := hm
  go_enter Try.func15, Try.ntmps15
  obtain ⟨W0, hW0⟩ : ∃ W0, W0 = w.alloc (.cells #[.slice none 0 0, .slice none 0 0, .string ⟨#[]⟩, .slice none 0 0, .int .i64 0, .slice none 0 0, .int .i64 0] 31) := ⟨_, rfl⟩
  have b0 : Below w.heap.size w W0 := by rw [hW0]; exact (Below.refl _ w).alloc (Nat.le_refl _) _
  have h0 : w.heap.size < W0.heap.size := by rw [hW0]; simp
  have e0 : W0.heap[w.heap.size]? = some (.cells #[.slice none 0 0, .slice none 0 0, .string ⟨#[]⟩, .slice none 0 0, .int .i64 0, .slice none 0 0, .int .i64 0] 31 (0, 0)) := by rw [hW0]; exact World.alloc_heap_new w _
  go_wp2_with fail
  rw [← hW0]
  refine (cN W0 b0).mono ?_
  rintro e w1 ⟨⟨a, rfl, ha⟩, b1⟩
  have OA : OwnA w1 W0.heap.size a n U N := by
    rcases ha with ⟨_, h⟩ | ⟨h, _⟩
    · exact h
    · rw [hT] at h; cases h
  obtain ⟨ao, al, ac, rfl⟩ : ∃ o l c, a = Value.slice o l c := by
    rcases OA.2 with ⟨e, _⟩ | ⟨g, c, cur, e, _⟩
    · exact ⟨_, _, _, e⟩
    · exact ⟨_, _, _, e⟩
  clear ha cN
  go_wp2_with fail
  have AL := World.ownsRow.lt OA
  have bS := b1.size
  obtain ⟨B, hB⟩ : ∃ B, B = w1.heap.size := ⟨_, rfl⟩
  have HB : Hid (B = w1.heap.size) := hB
  have bA0 : Below B w1 (w1.alloc (.cells (wldC (.slice ao al ac) (.slice none 0 0)) 31)) := by rw [hB]; exact (Below.refl _ w1).alloc (Nat.le_refl _) _
  have hA0 : (w1.alloc (.cells (wldC (.slice ao al ac) (.slice none 0 0)) 31)).heap[B]? = some (.cells (wldC (.slice ao al ac) (.slice none 0 0)) 31 (0, 0)) := by rw [hB]; exact World.alloc_heap_new w1 _
  rw [← hB]
  clear hB
  go_loopw [4] (fun i wr => ∃ (k : Nat) (c : Value), k ≤ n ∧ i = .int .i64 k ∧ Below B w1 wr ∧ wr.heap[B]? = some (.cells (wldC (.slice ao al ac) c) 31 (0, 0)) ∧ OwnC wr (B + 1) c k (fun _ => -1) (fun _ => 0) (fun _ => ⟨#[]⟩)) (fun i _ => n - (intOf i).toNat)
  case atStart => exact ⟨0, _, Nat.zero_le _, rfl, bA0, hA0, OwnC.nil _ _ _ _ _⟩
  case round =>
    obtain ⟨k, c, hk, rfl, bw, hBr, OC⟩ := hrel
    obtain ⟨co, cc, rfl⟩ := OC.shape
    obtain ⟨q0, q1, q2, q3, q4, q5, q6⟩ := seven_cells hBr
    have fz : ∀ i, wr.frozen? ⟨B, i, none⟩ = false := fun i => by simp [World.frozen?, hBr]
    have lB : B < wr.heap.size := (Array.getElem?_eq_some_iff.1 hBr).1
    by_cases hlt : k < n
    · have i1 : (0 : Int) ≤ (k : Int) := by omega
      have i2 : (k : Int) < (n : Int) := by omega
      have OX : OwnC (wr.alloc (.cells #[.int .i64 (-1), .slice none 0 0, .int .i64 0, .slice none 0 0, .string ⟨#[]⟩] 49)) (B + 1) (.slice co k cc) k (fun _ => -1) (fun _ => 0) (fun _ => ⟨#[]⟩) := OC.alloc _
      have CL := World.ownsRow.lt OC
      have HBr : Hid (wr.heap[B]? = some (.cells (wldC (.slice ao al ac) (.slice co k cc)) 31 (0, 0))) := hBr
      clear hBr
      go_wp2_with (at_builtin; refine wpList_append_lies _ rfl _ _ _ rfl (B + 1) 49 i0 _ 5 80 Try.underlying29 hi0 hz0 hz1 hz2 rfl (by omega) _ k (cliVs (fun _ => -1) (fun _ => 0) (fun _ => ⟨#[]⟩) k) rfl OX ⟨wr.heap.size, 0, none⟩ 1 1 cliNew rfl rfl (cliNew_cells wr) cliNew_one (by omega) (by unfold maxLen; omega) (by omega) (by simp; omega) (wr.heap.size + 1) (by simp) ?_; intro gg cap8 w8 hown8 hgrow hat hlt8; have e8 := (hgrow.block B (by simp; omega) (fun e => by have := (CL B e.symm).1; omega)).trans ((Below.heap_alloc wr _ B lB).trans HBr.out); have HE8 : Hid (w8.heap[B]? = some (.cells (wldC (.slice ao al ac) (.slice co k cc)) 31 (0, 0))) := e8; obtain ⟨r0, r1, r2, r3, r4, r5, r6⟩ := seven_cells e8; have f8 : ∀ i, w8.frozen? ⟨B, i, none⟩ = false := (fun i => (by simp [World.frozen?, e8])); clear e8)
      have e9 := set_heap w8 B 5 _ _ _ (.slice (some ⟨gg, 0, none⟩) (k + 1) cap8) HE8.out
      simp only [List.setIfInBounds_toArray, List.set_cons_zero, List.set_cons_succ] at e9
      have o9 : OwnC (w8.setCell ⟨B, 5, none⟩ (.slice (some ⟨gg, 0, none⟩) (k + 1) cap8)) (B + 1) (.slice (some ⟨gg, 0, none⟩) (k + 1) cap8) (k + 1) (fun _ => -1) (fun _ => 0) (fun _ => ⟨#[]⟩) := by
        refine OwnC.set ?_ ⟨B, 5, none⟩ _ (Nat.lt_succ_self B)
        unfold OwnC
        rw [cliVs_succ]
        exact hown8
      have bX : Below B w1 (wr.alloc (.cells #[.int .i64 (-1), .slice none 0 0, .int .i64 0, .slice none 0 0, .string ⟨#[]⟩] 49)) := bw.alloc (Nat.le_of_lt lB) _
      have b8 : Below B w1 w8 := bX.grown hgrow (by rw [HB.out]; have := bw.size; simp; omega) (fun q hq => by have := (CL q hq).1; omega)
      have b9 : Below B w1 (w8.setCell ⟨B, 5, none⟩ (.slice (some ⟨gg, 0, none⟩) (k + 1) cap8)) := b8.setCell (p := ⟨B, 5, none⟩) (Nat.le_refl _) _
      refine ⟨⟨k + 1, _, by omega, by go_num, b9, e9, o9⟩, by simp [intOf]; omega⟩
    · obtain rfl : k = n := by omega
      have Z1 := (bw.block w.heap.size (by have := HB.out; omega)).trans ((b1.block w.heap.size h0).trans e0)
      have ZH : Hid (wr.heap[w.heap.size]? = some (.cells (wldC (.slice none 0 0) (.slice none 0 0)) 31 (0, 0))) := Z1
      obtain ⟨z0, z1, z2, z3, z4, z5, z6⟩ := seven_cells Z1
      have zf : ∀ j, wr.frozen? ⟨w.heap.size, j, none⟩ = false := fun j => by simp [World.frozen?, Z1]
      clear Z1
      go_wp2_with fail
      have hlt9 : w.heap.size < B := by have := HB.out; omega
      have bw' : Below w1.heap.size w1 wr := by have h := bw; rw [HB.out] at h; exact h
      have OA9 := ownA_seven (OA.below bw') h0 (.slice ao al ac) (.slice co k cc)
      have OC9 := ownC_seven OC (E := w.heap.size) (by omega) (.slice ao al ac) (.slice co k cc)
      have N9 := seven_cells (sevenW_heap ZH.out (.slice ao al ac) (.slice co k cc))
      have bw0 : Below w.heap.size w wr := b0.trans ((b1.trans (bw'.mono b1.size)).mono b0.size)
      have b9 : Below w.heap.size w (sevenW wr w.heap.size (.slice ao al ac) (.slice co k cc)) := sevenW_below bw0 (Nat.le_refl _) _ _
      obtain ⟨W9, hW9⟩ : ∃ W9, sevenW wr w.heap.size (.slice ao al ac) (.slice co k cc) = W9 := ⟨_, rfl⟩
      rw [hW9] at N9 b9 OA9 OC9
      unfold sevenW at hW9
      rw [hW9]
      obtain ⟨n0, n1, n2, n3, n4, n5, n6⟩ := N9
      exact bodyPost_ret (v := wldV (.slice ao al ac) (.slice co k cc)) (by simp [results, Try.results15, go_sem, n0, n1, n2, n3, n4, n5, n6]) rfl ⟨⟨_, _, B + 1, rfl, ownA_mono OA9 (Nat.le_of_lt h0), OC9, by omega, fun q hq => by have := (AL q hq).2; have := HB.out; omega⟩, b9⟩

theorem wld_zero (w : World) : Hid (∀ W : World, Below (w.alloc (.cells (wldC (.slice none 0 0) (.slice none 0 0)) 31)).heap.size (w.alloc (.cells (wldC (.slice none 0 0) (.slice none 0 0)) 31)) W → W.heap[w.heap.size]? = some (.cells (wldC (.slice none 0 0) (.slice none 0 0)) 31 (0, 0))) := fun W bb => (bb.block w.heap.size (by simp)).trans (World.alloc_heap_new w _)
/-- What a new world is: of accounts that are ok accounts and clients of its own, apart; of others nothing. -/
def NewWld (w w' : World) (e : Ending) (n : Nat) (U N : Nat → ByteArray) : Prop :=
  ∃ a c mid, e = .returned (wldV a c) ∧ ((accsT n U N = true ∧ OwnA w' w.heap.size a n U N ∧ OwnC w' mid c n (fun _ => -1) (fun _ => 0) (fun _ => ⟨#[]⟩) ∧ w.heap.size ≤ mid ∧ ∀ q, a.ownBlock = some q → q < mid) ∨ (accsT n U N = false ∧ a = .slice none 0 0 ∧ c = .slice none 0 0))

set_option maxRecDepth 100000 in
set_option maxHeartbeats 4000000 in
theorem specWorld_any (v : Value) (n : Nat) (U N : Nat → ByteArray) (w : World) (hm : AccAt w v n U N) (hs : ∀ j, j < n → (U j).size ≤ 1048576 ∧ (N j).size ≤ 1048576) (hn : n ≤ 1048576) :
    Calls Try.prog 5 #[v] w fun e w' => NewWld w w' e n U N ∧ Below w.heap.size w w' := by
  have ZERO := wld_zero w
  obtain ⟨W0, hW0⟩ : ∃ W0, W0 = w.alloc (.cells (wldC (.slice none 0 0) (.slice none 0 0)) 31) := ⟨_, rfl⟩
  rw [← hW0] at ZERO
  have b0 : Below w.heap.size w W0 := by rw [hW0]; exact (Below.refl _ w).alloc (Nat.le_refl _) _
  have h0 : w.heap.size < W0.heap.size := by rw [hW0]; simp
  have cO := l10AccountsOk_any v n U N W0 (hm.below b0) hs hn
  unfold NewWld
  obtain ⟨T, hT⟩ : ∃ T, accsT n U N = T := ⟨_, rfl⟩
  rw [hT] at cO ⊢
  cases T
  · obtain ⟨o, cap, rfl, -⟩ := hm
    clear hT
    go_enter Try.func5, Try.ntmps5
    go_wp2_with (go_at_call 14; rw [← hW0]; go_fit cO; rintro e w1 ⟨rfl, b1⟩; have Z1 := ZERO.out w1 b1; have ZH : Hid (w1.heap[w.heap.size]? = some (.cells (wldC (.slice none 0 0) (.slice none 0 0)) 31 (0, 0))) := Z1; obtain ⟨z0, z1, z2, z3, z4, z5, z6⟩ := seven_cells Z1; have zf : ∀ j, w1.frozen? ⟨w.heap.size, j, none⟩ = false := (fun j => (by simp [World.frozen?, Z1])); clear Z1)
    have N9 := seven_cells (sevenW_heap ZH.out (.slice none 0 0) (.slice none 0 0))
    have b9 : Below w.heap.size w (sevenW w1 w.heap.size (.slice none 0 0) (.slice none 0 0)) := sevenW_below (b0.trans (b1.mono b0.size)) (Nat.le_refl _) _ _
    obtain ⟨W9, hW9⟩ : ∃ W9, sevenW w1 w.heap.size (.slice none 0 0) (.slice none 0 0) = W9 := ⟨_, rfl⟩
    rw [hW9] at N9 b9
    unfold sevenW at hW9
    rw [hW9]
    obtain ⟨n0, n1, n2, n3, n4, n5, n6⟩ := N9
    exact bodyPost_ret (v := wldV (.slice none 0 0) (.slice none 0 0)) (by simp [results, Try.results5, go_sem, n0, n1, n2, n3, n4, n5, n6]) rfl ⟨⟨_, _, 0, rfl, .inr ⟨by first | trivial | rfl, rfl, rfl⟩⟩, b9⟩
  · have hn4 : n ≤ 4 := by
      unfold accsT inI at hT
      simp only [Bool.and_eq_true, decide_eq_true_eq] at hT
      omega
    have cL := fun (W : World) (bb : Below w.heap.size w W) => l11New_any v n U N W (hm.below bb) hs hn4 hT
    clear hT
    obtain ⟨o, cap, rfl, -⟩ := hm
    go_enter Try.func5, Try.ntmps5
    go_wp2_with (go_at_call 14; rw [← hW0]; go_fit cO; rintro e w1 ⟨rfl, b1⟩)
    have B1 : Below w.heap.size w w1 := b0.trans (b1.mono b0.size)
    refine (cL w1 B1).mono ?_
    rintro e w2 ⟨⟨a, c, mid, rfl, OA, OC, hmid, hq⟩, b2⟩
    have L1 := b1.size
    have B2 : Below W0.heap.size W0 w2 := b1.trans (b2.mono b1.size)
    have Z1 := ZERO.out w2 B2
    have ZH : Hid (w2.heap[w.heap.size]? = some (.cells (wldC (.slice none 0 0) (.slice none 0 0)) 31 (0, 0))) := Z1
    obtain ⟨z0, z1, z2, z3, z4, z5, z6⟩ := seven_cells Z1
    have zf : ∀ j, w2.frozen? ⟨w.heap.size, j, none⟩ = false := fun j => by simp [World.frozen?, Z1]
    clear Z1
    obtain ⟨ao, al, ac, rfl⟩ : ∃ o l c, a = Value.slice o l c := by
      rcases OA.2 with ⟨e, _⟩ | ⟨g, c, cur, e, _⟩
      · exact ⟨_, _, _, e⟩
      · exact ⟨_, _, _, e⟩
    obtain ⟨co, cc, rfl⟩ := OC.shape
    go_wp2_with fail
    have OA9 := ownA_seven OA (E := w.heap.size) (by omega) (.slice ao al ac) (.slice co n cc)
    have OC9 := ownC_seven OC (E := w.heap.size) (by omega) (.slice ao al ac) (.slice co n cc)
    have N9 := seven_cells (sevenW_heap ZH.out (.slice ao al ac) (.slice co n cc))
    have b9 : Below w.heap.size w (sevenW w2 w.heap.size (.slice ao al ac) (.slice co n cc)) := sevenW_below (b0.trans (B2.mono b0.size)) (Nat.le_refl _) _ _
    obtain ⟨W9, hW9⟩ : ∃ W9, sevenW w2 w.heap.size (.slice ao al ac) (.slice co n cc) = W9 := ⟨_, rfl⟩
    rw [hW9] at N9 b9 OA9 OC9
    unfold sevenW at hW9
    rw [hW9]
    obtain ⟨n0, n1, n2, n3, n4, n5, n6⟩ := N9
    exact bodyPost_ret (v := wldV (.slice ao al ac) (.slice co n cc)) (by simp [results, Try.results5, go_sem, n0, n1, n2, n3, n4, n5, n6]) rfl ⟨⟨_, _, mid, rfl, .inl ⟨by first | trivial | rfl, ownA_mono OA9 (by omega), OC9, by omega, hq⟩⟩, b9⟩
end Go.Proofs.Ytkfdggcccegmlaa.Hub
