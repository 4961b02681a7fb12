/-
  A new world, of the program.
-/
import Derived.Test.YtkfdggcccegmlaaWldS
import Derived.Test.YtkfdggcccegmlaaNewL
namespace Go.Proofs.Ytkfdggcccegmlaa.Hub
open Go.RowKit
set_option linter.unusedVariables false

set_option maxRecDepth 100000 in
set_option maxHeartbeats 4000000 in
theorem implWorld_any (v : Value) (n : Nat) (U N : Nat → ByteArray) (w : World) (hm : AccAt w v n U N) (hs : ∀ j, j < n → (U j).size ≤ 1048576 ∧ (N j).size ≤ 1048576) (hn : n ≤ 1048576) :
    Calls Try.prog 7 #[v] w fun e w' => NewWld w w' e n U N ∧ Below w.heap.size w w' := by
  have ZERO := wld_zero w
  obtain ⟨W0, hW0⟩ : ∃ W0, W0 = w.alloc (.cells (wldC (.slice none 0 0) (.slice none 0 0)) 31) := ⟨_, rfl⟩
  rw [← hW0] at ZERO
  have b0 : Below w.heap.size w W0 := by rw [hW0]; exact (Below.refl _ w).alloc (Nat.le_refl _) _
  have h0 : w.heap.size < W0.heap.size := by rw [hW0]; simp
  have cO := accountsOk_any v n U N W0 (hm.below b0) hs hn
  unfold NewWld
  obtain ⟨T, hT⟩ : ∃ T, accsT n U N = T := ⟨_, rfl⟩
  rw [hT] at cO ⊢
  cases T
  · obtain ⟨o, cap, rfl, -⟩ := hm
    clear hT
    go_enter Try.func7, Try.ntmps7
    go_wp2_with (go_at_call 17; rw [← hW0]; go_fit cO; rintro e w1 ⟨rfl, b1⟩; have Z1 := ZERO.out w1 b1; have ZH : Hid (w1.heap[w.heap.size]? = some (.cells (wldC (.slice none 0 0) (.slice none 0 0)) 31 (0, 0))) := Z1; obtain ⟨z0, z1, z2, z3, z4, z5, z6⟩ := seven_cells Z1; have zf : ∀ j, w1.frozen? ⟨w.heap.size, j, none⟩ = false := (fun j => (by simp [World.frozen?, Z1])); clear Z1)
    have N9 := seven_cells (sevenW_heap ZH.out (.slice none 0 0) (.slice none 0 0))
    have b9 : Below w.heap.size w (sevenW w1 w.heap.size (.slice none 0 0) (.slice none 0 0)) := sevenW_below (b0.trans (b1.mono b0.size)) (Nat.le_refl _) _ _
    obtain ⟨W9, hW9⟩ : ∃ W9, sevenW w1 w.heap.size (.slice none 0 0) (.slice none 0 0) = W9 := ⟨_, rfl⟩
    rw [hW9] at N9 b9
    unfold sevenW at hW9
    rw [hW9]
    obtain ⟨n0, n1, n2, n3, n4, n5, n6⟩ := N9
    exact bodyPost_ret (v := wldV (.slice none 0 0) (.slice none 0 0)) (by simp [results, Try.results7, go_sem, n0, n1, n2, n3, n4, n5, n6]) rfl ⟨⟨_, _, 0, rfl, .inr ⟨by first | trivial | rfl, rfl, rfl⟩⟩, b9⟩
  · have hn4 : n ≤ 4 := by
      unfold accsT inI at hT
      simp only [Bool.and_eq_true, decide_eq_true_eq] at hT
      omega
    obtain ⟨i0, hi0, hz0, hz1, hz2⟩ := info_parts info_cli
    have cN := fun (W : World) (bb : Below w.heap.size w W) => implNew_any v n U N W (hm.below bb) hs hn
    rw [hT] at cN
    obtain ⟨o, cap, rfl, -⟩ := hm
    clear hT
    go_enter Try.func7, Try.ntmps7
    go_wp2_with (go_at_call 17; rw [← hW0]; go_fit cO; rintro e w1 ⟨rfl, b1⟩)
    have B1 : Below w.heap.size w w1 := b0.trans (b1.mono b0.size)
    have S1 := b1.size
    refine (cN w1 B1).mono ?_
    rintro e w2 ⟨⟨a, rfl, ha⟩, b2⟩
    have OA : OwnA w2 w1.heap.size a n U N := by
      rcases ha with ⟨_, h⟩ | ⟨h, _⟩
      · exact h
      · cases h
    obtain ⟨ao, al, ac, rfl⟩ : ∃ o l c, a = Value.slice o l c := by
      rcases OA.2 with ⟨e, _⟩ | ⟨g, c, cur, e, _⟩
      · exact ⟨_, _, _, e⟩
      · exact ⟨_, _, _, e⟩
    have AL := World.ownsRow.lt OA
    have S2 := b2.size
    have B2 : Below W0.heap.size W0 w2 := b1.trans (b2.mono b1.size)
    clear ha cN cO
    go_wp2_with fail
    obtain ⟨B, hB⟩ : ∃ B, B = w2.heap.size := ⟨_, rfl⟩
    have HB : Hid (B = w2.heap.size) := hB
    have bA0 : Below B w2 (w2.alloc (.cells (wldC (.slice ao al ac) (.slice none 0 0)) 31)) := by rw [hB]; exact (Below.refl _ w2).alloc (Nat.le_refl _) _
    have hA0 : (w2.alloc (.cells (wldC (.slice ao al ac) (.slice none 0 0)) 31)).heap[B]? = some (.cells (wldC (.slice ao al ac) (.slice none 0 0)) 31 (0, 0)) := by rw [hB]; exact World.alloc_heap_new w2 _
    rw [← hB]
    clear hB
    go_loopw [13] (fun i wr => ∃ (k : Nat) (c : Value), k ≤ n ∧ i = .int .i64 k ∧ Below B w2 wr ∧ wr.heap[B]? = some (.cells (wldC (.slice ao al ac) c) 31 (0, 0)) ∧ OwnC wr (B + 1) c k (fun _ => -1) (fun _ => 0) (fun _ => ⟨#[]⟩)) (fun i _ => n - (intOf i).toNat)
    case atStart => exact ⟨0, _, Nat.zero_le _, rfl, bA0, hA0, OwnC.nil _ _ _ _ _⟩
    case round =>
      obtain ⟨k, c, hk, rfl, bw, hBr, OC⟩ := hrel
      obtain ⟨co, cc, rfl⟩ := OC.shape
      obtain ⟨q0, q1, q2, q3, q4, q5, q6⟩ := seven_cells hBr
      have fz : ∀ i, wr.frozen? ⟨B, i, none⟩ = false := fun i => by simp [World.frozen?, hBr]
      have lB : B < wr.heap.size := (Array.getElem?_eq_some_iff.1 hBr).1
      by_cases hlt : k < n
      · have i1 : (0 : Int) ≤ (k : Int) := by omega
        have i2 : (k : Int) < (n : Int) := by omega
        have OX : OwnC (wr.alloc (.cells #[.int .i64 (-1), .slice none 0 0, .int .i64 0, .slice none 0 0, .string ⟨#[]⟩] 49)) (B + 1) (.slice co k cc) k (fun _ => -1) (fun _ => 0) (fun _ => ⟨#[]⟩) := OC.alloc _
        have CL := World.ownsRow.lt OC
        have HBr : Hid (wr.heap[B]? = some (.cells (wldC (.slice ao al ac) (.slice co k cc)) 31 (0, 0))) := hBr
        clear hBr
        go_wp2_with (at_builtin; refine wpList_append_lies _ rfl _ _ _ rfl (B + 1) 49 i0 _ 5 80 Try.underlying29 hi0 hz0 hz1 hz2 rfl (by omega) _ k (cliVs (fun _ => -1) (fun _ => 0) (fun _ => ⟨#[]⟩) k) rfl OX ⟨wr.heap.size, 0, none⟩ 1 1 cliNew rfl rfl (cliNew_cells wr) cliNew_one (by omega) (by unfold maxLen; omega) (by omega) (by simp; omega) (wr.heap.size + 1) (by simp) ?_; intro gg cap8 w8 hown8 hgrow hat hlt8; have e8 := (hgrow.block B (by simp; omega) (fun e => by have := (CL B e.symm).1; omega)).trans ((Below.heap_alloc wr _ B lB).trans HBr.out); have HE8 : Hid (w8.heap[B]? = some (.cells (wldC (.slice ao al ac) (.slice co k cc)) 31 (0, 0))) := e8; obtain ⟨r0, r1, r2, r3, r4, r5, r6⟩ := seven_cells e8; have f8 : ∀ i, w8.frozen? ⟨B, i, none⟩ = false := (fun i => (by simp [World.frozen?, e8])); clear e8)
        have e9 := set_heap w8 B 5 _ _ _ (.slice (some ⟨gg, 0, none⟩) (k + 1) cap8) HE8.out
        simp only [List.setIfInBounds_toArray, List.set_cons_zero, List.set_cons_succ] at e9
        have o9 : OwnC (w8.setCell ⟨B, 5, none⟩ (.slice (some ⟨gg, 0, none⟩) (k + 1) cap8)) (B + 1) (.slice (some ⟨gg, 0, none⟩) (k + 1) cap8) (k + 1) (fun _ => -1) (fun _ => 0) (fun _ => ⟨#[]⟩) := by
          refine OwnC.set ?_ ⟨B, 5, none⟩ _ (Nat.lt_succ_self B)
          unfold OwnC
          rw [cliVs_succ]
          exact hown8
        have bX : Below B w2 (wr.alloc (.cells #[.int .i64 (-1), .slice none 0 0, .int .i64 0, .slice none 0 0, .string ⟨#[]⟩] 49)) := bw.alloc (Nat.le_of_lt lB) _
        have b8 : Below B w2 w8 := bX.grown hgrow (by rw [HB.out]; have := bw.size; simp; omega) (fun q hq => by have := (CL q hq).1; omega)
        have b9 : Below B w2 (w8.setCell ⟨B, 5, none⟩ (.slice (some ⟨gg, 0, none⟩) (k + 1) cap8)) := b8.setCell (p := ⟨B, 5, none⟩) (Nat.le_refl _) _
        refine ⟨⟨k + 1, _, by omega, by go_num, b9, e9, o9⟩, by simp [intOf]; omega⟩
      · obtain rfl : k = n := by omega
        have bw' : Below w2.heap.size w2 wr := by have h := bw; rw [HB.out] at h; exact h
        have B9 : Below W0.heap.size W0 wr := B2.trans (bw'.mono B2.size)
        have S9 := B2.size
        have Z1 := ZERO.out wr B9
        have ZH : Hid (wr.heap[w.heap.size]? = some (.cells (wldC (.slice none 0 0) (.slice none 0 0)) 31 (0, 0))) := Z1
        obtain ⟨z0, z1, z2, z3, z4, z5, z6⟩ := seven_cells Z1
        have zf : ∀ j, wr.frozen? ⟨w.heap.size, j, none⟩ = false := fun j => by simp [World.frozen?, Z1]
        clear Z1
        go_wp2_with fail
        have hlt9 : w.heap.size < B := by have := HB.out; omega
        have OA9 := ownA_seven (OA.below bw') (E := w.heap.size) (by omega) (.slice ao al ac) (.slice co k cc)
        have OC9 := ownC_seven OC (E := w.heap.size) (by omega) (.slice ao al ac) (.slice co k cc)
        have N9 := seven_cells (sevenW_heap ZH.out (.slice ao al ac) (.slice co k cc))
        have b9 : Below w.heap.size w (sevenW wr w.heap.size (.slice ao al ac) (.slice co k cc)) := sevenW_below (b0.trans (B9.mono b0.size)) (Nat.le_refl _) _ _
        obtain ⟨W9, hW9⟩ : ∃ W9, sevenW wr w.heap.size (.slice ao al ac) (.slice co k cc) = W9 := ⟨_, rfl⟩
        rw [hW9] at N9 b9 OA9 OC9
        unfold sevenW at hW9
        rw [hW9]
        obtain ⟨n0, n1, n2, n3, n4, n5, n6⟩ := N9
        exact bodyPost_ret (v := wldV (.slice ao al ac) (.slice co k cc)) (by simp [results, Try.results7, go_sem, n0, n1, n2, n3, n4, n5, n6]) rfl ⟨⟨_, _, B + 1, rfl, .inl ⟨by first | trivial | rfl, ownA_mono OA9 (by omega), OC9, by omega, fun q hq => by have := (AL q hq).2; have := HB.out; omega⟩⟩, b9⟩
end Go.Proofs.Ytkfdggcccegmlaa.Hub
