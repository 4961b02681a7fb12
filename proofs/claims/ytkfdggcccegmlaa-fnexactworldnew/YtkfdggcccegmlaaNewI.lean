/-
  A new server, of the program.
-/
import Derived.Test.YtkfdggcccegmlaaAccOkI
import Derived.Test.YtkfdggcccegmlaaNewS
import Derived.Test.YtkfdggcccegmlaaShelfC
import Derived.Deep.AppendLies
import Derived.Deep.RegionHeld3
namespace Go.Proofs.Ytkfdggcccegmlaa.Hub
open Go.RowKit
set_option linter.unusedVariables false

theorem clone_any (s : ByteArray) (w : World) (hs : s.size ≤ 1099511627776) :
    Calls Try.prog 52 #[.string s] w fun e w' => e = .returned (.string s) ∧ Below w.heap.size w w' := by
  have hC := fun w => Try.stringslite_Clone s w (by omega)
  go_enter Try.func52, Try.ntmps52
  go_wp2_with (go_at_call 62; go_fit (hC _); rintro e w1 ⟨rfl, b1⟩)
  go_ret
  exact ⟨rfl, b1⟩
theorem sliteClone_empty (w : World) :
    Calls Try.prog 62 #[.string ⟨#[]⟩] w fun e w' => e = .returned (.string ⟨#[]⟩) ∧ w' = w := by
  go_enter Try.func62, Try.ntmps62
  go_wp2_with fail
  go_ret
  exact ⟨rfl, rfl⟩
theorem clone_empty (w : World) :
    Calls Try.prog 52 #[.string ⟨#[]⟩] w fun e w' => e = .returned (.string ⟨#[]⟩) ∧ w' = w := by
  go_enter Try.func52, Try.ntmps52
  go_wp2_with (go_at_call 62; go_fit (sliteClone_empty _); rintro e w1 ⟨rfl, rfl⟩)
  go_ret
  exact ⟨rfl, rfl⟩
set_option maxRecDepth 100000 in
theorem copyEntries_none (w : World) :
    Calls Try.prog 51 #[.slice none 0 0] w fun e w' => e = .returned (.slice none 0 0) ∧ w' = w := by
  go_enter Try.func51, Try.ntmps51
  go_wp2_with fail
  go_loop [3, 8] (fun o i => o = .slice none 0 0 ∧ i = .int .i64 0) (fun _ _ => 0)
  case atStart => exact ⟨rfl, rfl⟩
  case round =>
    obtain ⟨rfl, rfl⟩ := hrel
    go_wp2_with fail
    go_ret
    exact ⟨rfl, rfl⟩

theorem two_new (W : World) (u v : ByteArray) : ∀ (j : Nat) (x : Value), [Value.string u, Value.string v][j]? = some x → (W.alloc (.cells #[.string u, .string v] 43)).cell? ((⟨W.heap.size, 0, none⟩ : Addr).add j) = some x := by
  intro j x hj
  match j, hj with
  | 0, hj => simp at hj; subst hj; simp [Addr.add]
  | 1, hj => simp at hj; subst hj; simp [Addr.add]
theorem two_one (u v : ByteArray) : ∀ x ∈ [Value.string u, Value.string v], x.oneCell' = true := by
  intro x hx
  simp at hx
  rcases hx with rfl | rfl <;> rfl

set_option maxRecDepth 100000 in
set_option maxHeartbeats 8000000 in
theorem server_any (D : Nat) (va : Value) (n : Nat) (U N : Nat → ByteArray) (w : World) (hD : w.heap[D]? = some (.cells #[.slice none 0 0, .slice none 0 0, .int .i64 0, va, .string ⟨#[]⟩, .slice none 0 0, .int .i64 0, .nilFunc] 64 (0, 0))) (hm : AccAt w va n U N) (hs : ∀ j, j < n → (U j).size ≤ 1048576 ∧ (N j).size ≤ 1048576) (hn : n ≤ 4) :
    Calls Try.prog 34 #[.pointer (some ⟨D, 0, none⟩)] w fun e w' => (∃ a, e = .returned (srvV a (.slice none 0 0) ⟨#[]⟩ (.slice none 0 0) 0) ∧ OwnA w' w.heap.size a n U N) ∧ Below w.heap.size w w' := by
  obtain ⟨i0, hi0, hz0, hz1, hz2⟩ := info_parts info_acc
  obtain ⟨o, cap, rfl, g1, g2, hc⟩ := hm
  have g2 : cap ≤ 9223372036854775807 := g2
  have HC : Hid (∀ j, j < n → ∃ b f : Nat, o = some ⟨b, f, none⟩ ∧ b < w.heap.size ∧ w.cell? ⟨b, f + j * 2, none⟩ = some (.string (U j)) ∧ w.cell? ⟨b, f + j * 2 + 1, none⟩ = some (.string (N j))) := hc
  have HS : Hid (∀ j, j < n → (U j).size ≤ 1048576 ∧ (N j).size ≤ 1048576) := hs
  clear hc hs
  obtain ⟨W0, hW0⟩ : ∃ W0, W0 = w.alloc (.cells #[.slice none 0 0, .slice none 0 0, .string ⟨#[]⟩, .slice none 0 0, .int .i64 0] 28) := ⟨_, rfl⟩
  have ZERO := srv_zero w
  rw [← hW0] at ZERO
  have b0 : Below w.heap.size w W0 := by rw [hW0]; exact (Below.refl _ w).alloc (Nat.le_refl _) _
  have DC : Hid (∀ W, Below w.heap.size w W → (W.cell? ⟨D, 0, none⟩ = some (.slice none 0 0) ∧ W.cell? ⟨D, 4, none⟩ = some (.string ⟨#[]⟩) ∧ W.cell? ⟨D, 6, none⟩ = some (.int .i64 0)) ∧ W.cell? ⟨D, 3, none⟩ = some (.slice o n cap) ∧ W.cell? ⟨D, 5, none⟩ = some (.slice none 0 0)) := fun W bb => by
    have h9 := (bb.block D (Array.getElem?_eq_some_iff.1 hD).1).trans hD
    simp only [World.cell?, h9]
    exact ⟨⟨rfl, rfl, rfl⟩, rfl, rfl⟩
  obtain ⟨W2, hW2⟩ : ∃ W2, W2 = (W0.alloc (.cells #[.slice none 0 0, .slice none 0 0, .string ⟨#[]⟩, .slice none 0 0, .int .i64 0] 28)).drew := ⟨_, rfl⟩
  have d2 : Below W0.heap.size W0 W2 := by rw [hW2]; exact ((Below.refl _ W0).alloc (Nat.le_refl _) _).drew
  obtain ⟨E, hE⟩ : ∃ E, E = W0.heap.size := ⟨_, rfl⟩
  have HE : Hid (E = W0.heap.size) := hE
  have hb2 : W2.heap[E]? = some (.cells #[.slice none 0 0, .slice none 0 0, .string ⟨#[]⟩, .slice none 0 0, .int .i64 0] 28 (0, 0)) := by rw [hW2, hE]; exact World.alloc_heap_new W0 _
  have fz2 : ∀ j, W2.frozen? ⟨E, j, none⟩ = false := fun j => by simp [World.frozen?, hb2]
  obtain ⟨q0, q1, q2, q3, q4⟩ := five_cells hb2
  obtain ⟨W3, hW3⟩ : ∃ W3, fiveW W2 E (.slice none 0 0) (.slice none 0 0) ⟨#[]⟩ (.slice none 0 0) 0 = W3 := ⟨_, rfl⟩
  have d3 : Below W0.heap.size W0 W3 := by rw [← hW3]; exact fiveW_below d2 (by omega) _ _ _ _ _
  have h3 : W3.heap[E]? = some (.cells #[.slice none 0 0, .slice none 0 0, .string ⟨#[]⟩, .slice none 0 0, .int .i64 0] 28 (0, 0)) := by rw [← hW3]; exact fiveW_heap hb2 _ _ _ _ _
  have NSD : Hid (W0.drew.cell? ⟨D, 0, none⟩ = some (.slice none 0 0) ∧ W0.drew.cell? ⟨D, 4, none⟩ = some (.string ⟨#[]⟩) ∧ W0.drew.cell? ⟨D, 6, none⟩ = some (.int .i64 0)) := (DC.out _ (b0.trans ((Below.refl W0.heap.size W0).drew.mono b0.size))).1
  have NSA : Hid (W2.cell? ⟨D, 0, none⟩ = some (.slice none 0 0) ∧ W2.cell? ⟨D, 4, none⟩ = some (.string ⟨#[]⟩) ∧ W2.cell? ⟨D, 6, none⟩ = some (.int .i64 0)) := (DC.out _ (b0.trans (d2.mono b0.size))).1
  have NSC : Hid (W3.cell? ⟨D, 0, none⟩ = some (.slice none 0 0) ∧ W3.cell? ⟨D, 4, none⟩ = some (.string ⟨#[]⟩) ∧ W3.cell? ⟨D, 6, none⟩ = some (.int .i64 0)) := (DC.out _ (b0.trans (d3.mono b0.size))).1
  unfold fiveW at hW3
  have HW3 : Hid (_ = W3) := hW3
  have HW2 : Hid (W2 = (W0.alloc (.cells #[.slice none 0 0, .slice none 0 0, .string ⟨#[]⟩, .slice none 0 0, .int .i64 0] 28)).drew) := hW2
  have H3 : Hid (W3.heap[E]? = some (.cells #[.slice none 0 0, .slice none 0 0, .string ⟨#[]⟩, .slice none 0 0, .int .i64 0] 28 (0, 0))) := h3
  clear hE hb2 hW2 hW3 h3
  go_enter Try.func34, Try.ntmps34
  go_wp2_with fail
  rw [← hW0]
  clear hW0
  refine wp_region_held_drew (S := (fun W => W.cell? ⟨D, 0, none⟩ = some (.slice none 0 0) ∧ W.cell? ⟨D, 4, none⟩ = some (.string ⟨#[]⟩) ∧ W.cell? ⟨D, 6, none⟩ = some (.int .i64 0))) (by kernel_rfl) NSD.out (fun hHeld => ?_)
  refine wpAnyH_take (i := 0) (v := ?_) rfl (by kernel_rfl) (by kernel_rfl) (by kernel_rfl) (fun _ _ _ h => h) (Or.inl ⟨by rfl, ?takeYn1⟩) NSD.out ?takeRn1
  case takeYn1 => (intro w hSw; (try dsimp only at hSw); go_simp; try (with_reducible rfl))
  simp only [Act.put, List.setIfInBounds_toArray, List.set_cons_zero, List.set_cons_succ, List.getElem_toArray, List.getElem_cons_zero]
  refine wpAnyH_take (i := 1) (v := ?_) rfl (by kernel_rfl) (by kernel_rfl) (by kernel_rfl) (fun _ _ _ h => h) (Or.inl ⟨by rfl, ?takeYn2⟩) NSD.out ?takeRn2
  case takeYn2 => (intro w hSw; (try dsimp only at hSw); go_simp; try (with_reducible rfl))
  simp only [Act.put, List.setIfInBounds_toArray, List.set_cons_zero, List.set_cons_succ, List.getElem_toArray, List.getElem_cons_zero, List.getElem_cons_succ]
  refine wpAnyH_take (i := 2) (v := ?_) rfl (by kernel_rfl) (by kernel_rfl) (by kernel_rfl) (fun _ _ _ h => h) (Or.inl ⟨by rfl, ?takeYn3⟩) NSD.out ?takeRn3
  case takeYn3 => (intro w hSw; (try dsimp only at hSw); go_simp; try (with_reducible rfl))
  simp only [Act.put, List.setIfInBounds_toArray, List.set_cons_zero, List.set_cons_succ, List.getElem_toArray, List.getElem_cons_zero, List.getElem_cons_succ]
  refine wpAnyH_take (i := 3) (v := ?_) rfl (by kernel_rfl) (by kernel_rfl) (by kernel_rfl) (fun _ _ _ h => h) (Or.inl ⟨by rfl, ?takeYn4⟩) NSD.out ?takeRn4
  case takeYn4 => (intro w hSw; (try dsimp only at hSw); go_simp; try (with_reducible rfl))
  simp only [Act.put, List.setIfInBounds_toArray, List.set_cons_zero, List.set_cons_succ, List.getElem_toArray, List.getElem_cons_zero, List.getElem_cons_succ]
  refine wpAnyH_take (i := 4) (v := ?_) rfl (by kernel_rfl) (by kernel_rfl) (by kernel_rfl) (fun _ _ _ h => h) (Or.inl ⟨by rfl, ?takeYn5⟩) NSD.out ?takeRn5
  case takeYn5 => (intro w hSw; (try dsimp only at hSw); go_simp; try (with_reducible rfl))
  simp only [Act.put, List.setIfInBounds_toArray, List.set_cons_zero, List.set_cons_succ, List.getElem_toArray, List.getElem_cons_zero, List.getElem_cons_succ]
  refine wpAnyH_take (i := 6) (v := ?_) rfl (by kernel_rfl) (by kernel_rfl) (by kernel_rfl) (fun _ _ _ h => h) (Or.inl ⟨by rfl, ?takeYn6⟩) NSD.out ?takeRn6
  case takeYn6 => (intro w hSw; (try dsimp only at hSw); go_simp; try (with_reducible rfl))
  simp only [Act.put, List.setIfInBounds_toArray, List.set_cons_zero, List.set_cons_succ, List.getElem_toArray, List.getElem_cons_zero, List.getElem_cons_succ]
  refine wpAnyH_take (i := 7) (v := ?_) rfl (by kernel_rfl) (by kernel_rfl) (by kernel_rfl) (fun _ _ _ h => h) (Or.inl ⟨by rfl, ?takeYn7⟩) NSD.out ?takeRn7
  case takeYn7 => (intro w hSw; (try dsimp only at hSw); go_simp; try (with_reducible rfl))
  simp only [Act.put, List.setIfInBounds_toArray, List.set_cons_zero, List.set_cons_succ, List.getElem_toArray, List.getElem_cons_zero, List.getElem_cons_succ]
  refine wpAnyH_take (i := 8) (v := ?_) rfl (by kernel_rfl) (by kernel_rfl) (by kernel_rfl) (fun _ _ _ h => h) (Or.inl ⟨by rfl, ?takeYn8⟩) NSD.out ?takeRn8
  case takeYn8 => (intro w hSw; (try dsimp only at hSw); go_simp; try (with_reducible rfl))
  simp only [Act.put, List.setIfInBounds_toArray, List.set_cons_zero, List.set_cons_succ, List.getElem_toArray, List.getElem_cons_zero, List.getElem_cons_succ]
  refine wpAnyH_take (i := 9) (v := ?_) rfl (by kernel_rfl) (by kernel_rfl) (by kernel_rfl) (fun _ _ _ h => h) (Or.inl ⟨by rfl, ?takeYn9⟩) NSD.out ?takeRn9
  case takeYn9 => (intro w hSw; (try dsimp only at hSw); go_simp; try (with_reducible rfl))
  simp only [Act.put, List.setIfInBounds_toArray, List.set_cons_zero, List.set_cons_succ, List.getElem_toArray, List.getElem_cons_zero, List.getElem_cons_succ]
  refine wpAnyH_take (i := 11) (v := ?_) rfl (by kernel_rfl) (by kernel_rfl) (by kernel_rfl) (fun _ _ _ h => h) (Or.inl ⟨by rfl, ?takeYn10⟩) NSD.out ?takeRn10
  case takeYn10 => (intro w hSw; (try dsimp only at hSw); go_simp; try (with_reducible rfl))
  simp only [Act.put, List.setIfInBounds_toArray, List.set_cons_zero, List.set_cons_succ, List.getElem_toArray, List.getElem_cons_zero, List.getElem_cons_succ]
  refine wpAnyH_take (i := 12) (v := ?_) rfl (by kernel_rfl) (by kernel_rfl) (by kernel_rfl) (fun _ _ _ h => h) (Or.inl ⟨by rfl, ?takeYn11⟩) NSD.out ?takeRn11
  case takeYn11 => (intro w hSw; (try dsimp only at hSw); go_simp; try (with_reducible rfl))
  simp only [Act.put, List.setIfInBounds_toArray, List.set_cons_zero, List.set_cons_succ, List.getElem_toArray, List.getElem_cons_zero, List.getElem_cons_succ]
  refine wpAnyH_take (i := 13) (v := ?_) rfl (by kernel_rfl) (by kernel_rfl) (by kernel_rfl) (fun _ _ _ h => h) (Or.inl ⟨by rfl, ?takeYn12⟩) NSD.out ?takeRn12
  case takeYn12 => (intro w hSw; (try dsimp only at hSw); go_simp; try (with_reducible rfl))
  simp only [Act.put, List.setIfInBounds_toArray, List.set_cons_zero, List.set_cons_succ, List.getElem_toArray, List.getElem_cons_zero, List.getElem_cons_succ]
  refine wpAnyH_take (i := 14) (v := ?_) rfl (by kernel_rfl) (by kernel_rfl) (by kernel_rfl) (fun _ _ _ h => h) (Or.inl ⟨by rfl, ?takeYn13⟩) NSD.out ?takeRn13
  case takeYn13 => (intro w hSw; (try dsimp only at hSw); go_simp; try (with_reducible rfl))
  simp only [Act.put, List.setIfInBounds_toArray, List.set_cons_zero, List.set_cons_succ, List.getElem_toArray, List.getElem_cons_zero, List.getElem_cons_succ]
  refine wpAnyH_ready (rs := [5, 16]) (by kernel_rfl) (by simp) ?_
  refine (AllReadyH.cons rfl (fun K hK => ?_) (AllReadyH.cons rfl (fun K hK => ?_) AllReadyH.nil))
  · skip
    go_simp
    refine (copyEntries_none _).mono ?_
    rintro e w9 ⟨rfl, rfl⟩
    go_wp2_with fail
    refine hK.out _ _ NSD.out (fun _ => ?_)
    clear hK K
    try simp only [Act.put, List.setIfInBounds_toArray, List.set_cons_zero, List.set_cons_succ, List.getElem_toArray, List.getElem_cons_zero, List.getElem_cons_succ]
    refine wpAnyH_ready (rs := [10, 16]) (by kernel_rfl) (by simp) ?_
    refine (AllReadyH.cons rfl (fun K hK => ?_) (AllReadyH.cons rfl (fun K hK => ?_) AllReadyH.nil))
    · skip
      go_simp
      refine (clone_empty _).mono ?_
      rintro e w9 ⟨rfl, rfl⟩
      go_wp2_with fail
      refine hK.out _ _ NSD.out (fun _ => ?_)
      clear hK K
      try simp only [Act.put, List.setIfInBounds_toArray, List.set_cons_zero, List.set_cons_succ, List.getElem_toArray, List.getElem_cons_zero, List.getElem_cons_succ]
      refine wpAnyH_take (i := 15) (v := ?_) rfl (by kernel_rfl) (by kernel_rfl) (by kernel_rfl) (fun _ _ _ h => h) (Or.inl ⟨by rfl, ?takeYn14⟩) NSD.out ?takeRn14
      case takeYn14 => (intro w hSw; (try dsimp only at hSw); go_simp; try (with_reducible rfl))
      simp only [Act.put, List.setIfInBounds_toArray, List.set_cons_zero, List.set_cons_succ, List.getElem_toArray, List.getElem_cons_zero, List.getElem_cons_succ]
      refine wpAnyH_ready (rs := [16]) (by kernel_rfl) (by simp) ?_
      refine AllReadyH.cons rfl (fun K hK => ?_) AllReadyH.nil
      go_simp
      rw [← HW2.out, ← HE.out]
      refine hK.out _ _ NSA.out (fun _ => ?_)
      clear hK K
      try simp only [Act.put, List.setIfInBounds_toArray, List.set_cons_zero, List.set_cons_succ, List.getElem_toArray, List.getElem_cons_zero, List.getElem_cons_succ]
      refine wpAnyH_ready (rs := [17]) (by kernel_rfl) (by simp) ?_
      refine AllReadyH.cons rfl (fun K hK => ?_) AllReadyH.nil
      go_simp
      rw [HW3.out]
      refine hK.out _ _ NSC.out (fun _ => ?_)
      clear hK K
      try simp only [Act.put, List.setIfInBounds_toArray, List.set_cons_zero, List.set_cons_succ, List.getElem_toArray, List.getElem_cons_zero, List.getElem_cons_succ]
      refine wpAnyH_done (by kernel_rfl) ?_ _
      clear NSD NSA NSC HW3 HW2 q0 q1 q2 q3 q4 fz2 hHeld d2
      have hEW : E < W3.heap.size := (Array.getElem?_eq_some_iff.1 H3.out).1
      obtain ⟨⟨t0, t4, t6⟩, t3, t5⟩ := DC.out W3 (b0.trans (d3.mono b0.size))
      go_wp2_with fail
      go_loopw [29] (fun i wr => ∃ (k : Nat) (A : Value), k ≤ n ∧ i = .int .i64 k ∧ Below W0.heap.size W0 wr ∧ wr.heap[E]? = some (.cells #[A, .slice none 0 0, .string ⟨#[]⟩, .slice none 0 0, .int .i64 0] 28 (0, 0)) ∧ OwnA wr (E + 1) A k U N) (fun i _ => n - (intOf i).toNat)
      case atStart => exact ⟨0, .slice none 0 0, Nat.zero_le _, rfl, d3, H3.out, ⟨rfl, .inl ⟨rfl, rfl⟩⟩⟩
      case round =>
        obtain ⟨k, A, hk, rfl, bw, hEr, hA⟩ := hrel
        by_cases hlt : k < n
        · skip
          obtain ⟨b, f, ho, hb, c0, c1⟩ := HC.out k hlt
          subst ho
          have i1 : (0 : Int) ≤ (k : Int) := by omega
          have i2 : (k : Int) < (n : Int) := by omega
          have hsk := HS.out k hlt
          have bw0 : Below w.heap.size w wr := b0.trans (bw.mono b0.size)
          have r0 := (bw0.cell (p := ⟨b, f + k * 2, none⟩) hb).trans c0
          have r1 := (bw0.cell (p := ⟨b, f + k * 2 + 1, none⟩) hb).trans c1
          obtain ⟨F, hF⟩ : ∃ F, F = wr.heap.size := ⟨_, rfl⟩
          obtain ⟨V, hV⟩ : ∃ V, wr.alloc (.cells #[.string (U k), .string (N k)] 43) = V := ⟨_, rfl⟩
          have bv : Below wr.heap.size wr V := by rw [← hV]; exact (Below.refl _ wr).alloc (Nat.le_refl _) _
          have hFV : V.heap[F]? = some (.cells #[.string (U k), .string (N k)] 43 (0, 0)) := by rw [← hV, hF]; exact World.alloc_heap_new wr _
          have hFl : F < V.heap.size := (Array.getElem?_eq_some_iff.1 hFV).1
          have hEl : E < wr.heap.size := (Array.getElem?_eq_some_iff.1 hEr).1
          have FS : Hid (∀ W, Below V.heap.size V W → W.cell? ⟨F, 0, none⟩ = some (.string (U k)) ∧ W.cell? ⟨F, 1, none⟩ = some (.string (N k))) := fun W bb => by
            have h9 := (bb.block F hFl).trans hFV
            simp only [World.cell?, h9]
            exact ⟨rfl, rfl⟩
          have FE : Hid (∀ W, Below V.heap.size V W → W.cell? ⟨E, 0, none⟩ = some A) := fun W bb => by
            have h9 := (bb.block E (Nat.lt_of_lt_of_le hEl bv.size)).trans ((bv.block E hEl).trans hEr)
            simp only [World.cell?, h9]
            rfl
          have FO : Hid (∀ W, Below V.heap.size V W → W.ownsRow (E + 1) 43 2 A k (accVs U N k)) := fun W bb => World.ownsRow.kept (row := none) hA ⟨(bb.os.trans bv.os), (bb.tape.trans bv.tape), (bb.output.trans bv.output), Nat.le_trans bv.size bb.size, fun q hq _ => (bb.block q (Nat.lt_of_lt_of_le hq bv.size)).trans (bv.block q hq)⟩ (Classical.em _)
          have BX0 : Below V.heap.size V V.drew := (Below.refl _ V).drew
          have HF : Hid (F = wr.heap.size) := hF
          have HFV : Hid (V.heap[F]? = some (.cells #[.string (U k), .string (N k)] 43 (0, 0))) := hFV
          have HV : Hid (wr.alloc (.cells #[.string (U k), .string (N k)] 43) = V) := hV
          clear hF hV c0 c1 hFV
          go_wp2_with fail
          rw [HV.out, ← HF.out]
          refine wp_region_held_drew (S := (fun W => W.cell? ⟨F, 0, none⟩ = some (.string (U k)) ∧ W.cell? ⟨F, 1, none⟩ = some (.string (N k)))) (by kernel_rfl) (FS.out _ BX0) (fun hHeld => ?_)
          refine wpAnyH_take (i := 0) (v := ?_) rfl (by kernel_rfl) (by kernel_rfl) (by kernel_rfl) (fun _ _ _ h => h) (Or.inl ⟨by rfl, ?takeYn15⟩) (FS.out _ BX0) ?takeRn15
          case takeYn15 => (intro w hSw; (try dsimp only at hSw); go_simp; try (with_reducible rfl))
          simp only [Act.put, List.setIfInBounds_toArray, List.set_cons_zero, List.set_cons_succ, List.getElem_toArray, List.getElem_cons_zero]
          refine wpAnyH_take (i := 2) (v := ?_) rfl (by kernel_rfl) (by kernel_rfl) (by kernel_rfl) (fun _ _ _ h => h) (Or.inl ⟨by rfl, ?takeYn16⟩) (FS.out _ BX0) ?takeRn16
          case takeYn16 => (intro w hSw; (try dsimp only at hSw); go_simp; try (with_reducible rfl))
          simp only [Act.put, List.setIfInBounds_toArray, List.set_cons_zero, List.set_cons_succ, List.getElem_toArray, List.getElem_cons_zero, List.getElem_cons_succ]
          refine wpAnyH_take (i := 3) (v := ?_) rfl (by kernel_rfl) (by kernel_rfl) (by kernel_rfl) (fun _ _ _ h => h) (Or.inl ⟨by rfl, ?takeYn17⟩) (FS.out _ BX0) ?takeRn17
          case takeYn17 => (intro w hSw; (try dsimp only at hSw); go_simp; try (with_reducible rfl))
          simp only [Act.put, List.setIfInBounds_toArray, List.set_cons_zero, List.set_cons_succ, List.getElem_toArray, List.getElem_cons_zero, List.getElem_cons_succ]
          refine wpAnyH_take (i := 5) (v := ?_) rfl (by kernel_rfl) (by kernel_rfl) (by kernel_rfl) (fun _ _ _ h => h) (Or.inl ⟨by rfl, ?takeYn18⟩) (FS.out _ BX0) ?takeRn18
          case takeYn18 => (intro w hSw; (try dsimp only at hSw); go_simp; try (with_reducible rfl))
          simp only [Act.put, List.setIfInBounds_toArray, List.set_cons_zero, List.set_cons_succ, List.getElem_toArray, List.getElem_cons_zero, List.getElem_cons_succ]
          refine wpAnyH_take (i := 6) (v := ?_) rfl (by kernel_rfl) (by kernel_rfl) (by kernel_rfl) (fun _ _ _ h => h) (Or.inl ⟨by rfl, ?takeYn19⟩) (FS.out _ BX0) ?takeRn19
          case takeYn19 => (intro w hSw; (try dsimp only at hSw); go_simp; try (with_reducible rfl))
          simp only [Act.put, List.setIfInBounds_toArray, List.set_cons_zero, List.set_cons_succ, List.getElem_toArray, List.getElem_cons_zero, List.getElem_cons_succ]
          refine wpAnyH_ready (rs := [1, 4]) (by kernel_rfl) (by simp) ?_
          refine (AllReadyH.cons rfl (fun K hK => ?_) (AllReadyH.cons rfl (fun K hK => ?_) AllReadyH.nil))
          · skip
            have cE := FE.out V.drew BX0
            go_simp
            refine hK.out _ _ (FS.out V.drew BX0) (fun _ => ?_)
            clear hK K cE
            try simp only [Act.put, List.setIfInBounds_toArray, List.set_cons_zero, List.set_cons_succ, List.getElem_toArray, List.getElem_cons_zero, List.getElem_cons_succ]
            refine wpAnyH_ready (rs := [4]) (by kernel_rfl) (by simp) ?_
            refine AllReadyH.cons rfl (fun K hK => ?_) AllReadyH.nil
            go_simp
            refine (clone_any (U k) V.drew (by omega)).mono ?_
            rintro e X1 ⟨rfl, p1⟩
            have BX1 : Below V.heap.size V X1 := BX0.trans (p1.mono BX0.size)
            go_wp2_with fail
            refine hK.out _ _ (FS.out X1 BX1) (fun _ => ?_)
            clear hK K
            try simp only [Act.put, List.setIfInBounds_toArray, List.set_cons_zero, List.set_cons_succ, List.getElem_toArray, List.getElem_cons_zero, List.getElem_cons_succ]
            refine wpAnyH_ready (rs := [7]) (by kernel_rfl) (by simp) ?_
            refine AllReadyH.cons rfl (fun K hK => ?_) AllReadyH.nil
            go_simp
            refine (clone_any (N k) X1 (by omega)).mono ?_
            rintro e X2 ⟨rfl, p2⟩
            have BX2 : Below V.heap.size V X2 := BX1.trans (p2.mono BX1.size)
            go_wp2_with fail
            refine hK.out _ _ (FS.out X2 BX2) (fun _ => ?_)
            clear hK K
            try simp only [Act.put, List.setIfInBounds_toArray, List.set_cons_zero, List.set_cons_succ, List.getElem_toArray, List.getElem_cons_zero, List.getElem_cons_succ]
            refine wpAnyH_take (i := 8) (v := ?_) rfl (by kernel_rfl) (by kernel_rfl) (by kernel_rfl) (fun _ _ _ h => h) (Or.inl ⟨by rfl, ?takeYn20⟩) (FS.out X2 BX2) ?takeRn20
            case takeYn20 => (intro w hSw; (try dsimp only at hSw); go_simp; try (with_reducible rfl))
            simp only [Act.put, List.setIfInBounds_toArray, List.set_cons_zero, List.set_cons_succ, List.getElem_toArray, List.getElem_cons_zero, List.getElem_cons_succ]
            refine wpAnyH_ready (rs := [9]) (by kernel_rfl) (by simp) ?_
            refine AllReadyH.cons rfl (fun K hK => ?_) AllReadyH.nil
            have BX3 : Below V.heap.size V (X2.alloc (.cells #[.string (U k), .string (N k)] 43)) := BX2.alloc BX2.size _
            go_simp
            refine hK.out _ _ (FS.out (X2.alloc (.cells #[.string (U k), .string (N k)] 43)) BX3) (fun _ => ?_)
            clear hK K
            try simp only [Act.put, List.setIfInBounds_toArray, List.set_cons_zero, List.set_cons_succ, List.getElem_toArray, List.getElem_cons_zero, List.getElem_cons_succ]
            refine wpAnyH_ready (rs := [10]) (by kernel_rfl) (by simp) ?_
            refine AllReadyH.cons rfl (fun K hK => ?_) AllReadyH.nil
            refine step_append_lies _ (by rfl) _ _ _ (by rfl) (E + 1) 43 i0 _ 2 32 Try.underlying24 hi0 hz0 hz1 hz2 rfl (by omega) A k (accVs U N k) (by rfl) (FO.out (X2.alloc (.cells #[.string (U k), .string (N k)] 43)) BX3) ⟨X2.heap.size, 0, none⟩ 1 1 [.string (U k), .string (N k)] (by rfl) rfl (two_new X2 (U k) (N k)) (two_one (U k) (N k)) (by omega) (by unfold maxLen; omega) (by omega) (by have := BX2.size; have := bv.size; simp; omega) (X2.heap.size + 1) (by simp) ?_
            intro gg cap8 w8 hown8 hgrow hat hlt8
            have AL := hA.lt
            have z9 := BX3.size
            have z8 := bv.size
            have z7 := HF.out
            have s8 : w8.cell? ⟨F, 0, none⟩ = some (.string (U k)) ∧ w8.cell? ⟨F, 1, none⟩ = some (.string (N k)) := by
              have h9 := (hgrow.block F (by simp at z9; simp; omega) (fun e => by have := (AL F e.symm).2; omega)).trans ((BX3.block F hFl).trans HFV.out)
              simp only [World.cell?, h9]
              exact ⟨rfl, rfl⟩
            have e8 := (hgrow.block E (by simp at z9; simp; omega) (fun e => by have := (AL E e.symm).1; omega)).trans ((BX3.block E (by omega)).trans ((bv.block E hEl).trans hEr))
            have k8 : w8.cell? ⟨E, 0, none⟩ = some A := (five_cells e8).1
            have f8 : ∀ i, w8.frozen? ⟨E, i, none⟩ = false := fun i => by simp [World.frozen?, e8]
            have S8 : Hid (w8.cell? ⟨F, 0, none⟩ = some (.string (U k)) ∧ w8.cell? ⟨F, 1, none⟩ = some (.string (N k))) := s8
            have S9 : Hid ((w8.setCell ⟨E, 0, none⟩ (.slice (some ⟨gg, 0, none⟩) (k + 1) cap8)).cell? ⟨F, 0, none⟩ = some (.string (U k)) ∧ (w8.setCell ⟨E, 0, none⟩ (.slice (some ⟨gg, 0, none⟩) (k + 1) cap8)).cell? ⟨F, 1, none⟩ = some (.string (N k))) := by
              have q : ∀ i, (w8.setCell ⟨E, 0, none⟩ (.slice (some ⟨gg, 0, none⟩) (k + 1) cap8)).cell? ⟨F, i, none⟩ = w8.cell? ⟨F, i, none⟩ := fun i => World.cell?_setCell_other _ _ _ _ (fun e => by have e9 := congrArg Addr.block e; simp at e9; omega)
              exact ⟨(q 0).trans s8.1, (q 1).trans s8.2⟩
            have B3 : Below W0.heap.size W0 (X2.alloc (.cells #[.string (U k), .string (N k)] 43)) := (bw.trans (bv.mono bw.size)).trans (BX3.mono (by have := bw.size; omega))
            have B8 : Below W0.heap.size W0 w8 := B3.grown hgrow (by have := B3.size; omega) (fun q hq => by have := (AL q hq).1; have := HE.out; omega)
            have B9 : Below W0.heap.size W0 (w8.setCell ⟨E, 0, none⟩ (.slice (some ⟨gg, 0, none⟩) (k + 1) cap8)) := B8.setCell (p := ⟨E, 0, none⟩) (by have := HE.out; show W0.heap.size ≤ E; omega) _
            have e9 := set_heap w8 E 0 _ _ _ (.slice (some ⟨gg, 0, none⟩) (k + 1) cap8) e8
            simp only [List.setIfInBounds_toArray, List.set_cons_zero] at e9
            have O9 : OwnA (w8.setCell ⟨E, 0, none⟩ (.slice (some ⟨gg, 0, none⟩) (k + 1) cap8)) (E + 1) (.slice (some ⟨gg, 0, none⟩) (k + 1) cap8) (k + 1) U N := by
              refine ownA_set ?_ (Nat.lt_succ_self E) 0 _
              unfold OwnA
              rw [accVs_succ]
              exact hown8
            have H9 : Hid (_ ∧ _) := And.intro e9 O9
            clear e9 O9 e8 hown8 hgrow s8
            refine hK.out _ _ S8.out (fun _ => ?_)
            clear hK K
            try simp only [Act.put, List.setIfInBounds_toArray, List.set_cons_zero, List.set_cons_succ, List.getElem_toArray, List.getElem_cons_zero, List.getElem_cons_succ]
            refine wpAnyH_take (i := 11) (v := ?_) rfl (by kernel_rfl) (by kernel_rfl) (by kernel_rfl) (fun _ _ _ h => h) (Or.inl ⟨by rfl, ?takeYn21⟩) S8.out ?takeRn21
            case takeYn21 => (intro w hSw; (try dsimp only at hSw); go_simp; try (with_reducible rfl))
            simp only [Act.put, List.setIfInBounds_toArray, List.set_cons_zero, List.set_cons_succ, List.getElem_toArray, List.getElem_cons_zero, List.getElem_cons_succ]
            refine wpAnyH_ready (rs := [12]) (by kernel_rfl) (by simp) ?_
            refine AllReadyH.cons rfl (fun K hK => ?_) AllReadyH.nil
            go_simp
            refine hK.out _ _ S9.out (fun _ => ?_)
            clear hK K
            try simp only [Act.put, List.setIfInBounds_toArray, List.set_cons_zero, List.set_cons_succ, List.getElem_toArray, List.getElem_cons_zero, List.getElem_cons_succ]
            refine wpAnyH_done (by kernel_rfl) ?_ _
            go_wp2_with fail
            go_roundw
            case rel => exact ⟨k + 1, _, by omega, by go_num, B9, H9.out.1, H9.out.2⟩
            case measure => simp [intOf]; omega
          · skip
            go_simp
            refine (clone_any (U k) V.drew (by omega)).mono ?_
            rintro e X1 ⟨rfl, p1⟩
            have BX1 : Below V.heap.size V X1 := BX0.trans (p1.mono BX0.size)
            go_wp2_with fail
            refine hK.out _ _ (FS.out X1 BX1) (fun _ => ?_)
            clear hK K
            try simp only [Act.put, List.setIfInBounds_toArray, List.set_cons_zero, List.set_cons_succ, List.getElem_toArray, List.getElem_cons_zero, List.getElem_cons_succ]
            refine wpAnyH_ready (rs := [1, 7]) (by kernel_rfl) (by simp) ?_
            refine (AllReadyH.cons rfl (fun K hK => ?_) (AllReadyH.cons rfl (fun K hK => ?_) AllReadyH.nil))
            · skip
              have cE := FE.out X1 BX1
              go_simp
              refine hK.out _ _ (FS.out X1 BX1) (fun _ => ?_)
              clear hK K cE
              try simp only [Act.put, List.setIfInBounds_toArray, List.set_cons_zero, List.set_cons_succ, List.getElem_toArray, List.getElem_cons_zero, List.getElem_cons_succ]
              refine wpAnyH_ready (rs := [7]) (by kernel_rfl) (by simp) ?_
              refine AllReadyH.cons rfl (fun K hK => ?_) AllReadyH.nil
              go_simp
              refine (clone_any (N k) X1 (by omega)).mono ?_
              rintro e X2 ⟨rfl, p2⟩
              have BX2 : Below V.heap.size V X2 := BX1.trans (p2.mono BX1.size)
              go_wp2_with fail
              refine hK.out _ _ (FS.out X2 BX2) (fun _ => ?_)
              clear hK K
              try simp only [Act.put, List.setIfInBounds_toArray, List.set_cons_zero, List.set_cons_succ, List.getElem_toArray, List.getElem_cons_zero, List.getElem_cons_succ]
              refine wpAnyH_take (i := 8) (v := ?_) rfl (by kernel_rfl) (by kernel_rfl) (by kernel_rfl) (fun _ _ _ h => h) (Or.inl ⟨by rfl, ?takeYn22⟩) (FS.out X2 BX2) ?takeRn22
              case takeYn22 => (intro w hSw; (try dsimp only at hSw); go_simp; try (with_reducible rfl))
              simp only [Act.put, List.setIfInBounds_toArray, List.set_cons_zero, List.set_cons_succ, List.getElem_toArray, List.getElem_cons_zero, List.getElem_cons_succ]
              refine wpAnyH_ready (rs := [9]) (by kernel_rfl) (by simp) ?_
              refine AllReadyH.cons rfl (fun K hK => ?_) AllReadyH.nil
              have BX3 : Below V.heap.size V (X2.alloc (.cells #[.string (U k), .string (N k)] 43)) := BX2.alloc BX2.size _
              go_simp
              refine hK.out _ _ (FS.out (X2.alloc (.cells #[.string (U k), .string (N k)] 43)) BX3) (fun _ => ?_)
              clear hK K
              try simp only [Act.put, List.setIfInBounds_toArray, List.set_cons_zero, List.set_cons_succ, List.getElem_toArray, List.getElem_cons_zero, List.getElem_cons_succ]
              refine wpAnyH_ready (rs := [10]) (by kernel_rfl) (by simp) ?_
              refine AllReadyH.cons rfl (fun K hK => ?_) AllReadyH.nil
              refine step_append_lies _ (by rfl) _ _ _ (by rfl) (E + 1) 43 i0 _ 2 32 Try.underlying24 hi0 hz0 hz1 hz2 rfl (by omega) A k (accVs U N k) (by rfl) (FO.out (X2.alloc (.cells #[.string (U k), .string (N k)] 43)) BX3) ⟨X2.heap.size, 0, none⟩ 1 1 [.string (U k), .string (N k)] (by rfl) rfl (two_new X2 (U k) (N k)) (two_one (U k) (N k)) (by omega) (by unfold maxLen; omega) (by omega) (by have := BX2.size; have := bv.size; simp; omega) (X2.heap.size + 1) (by simp) ?_
              intro gg cap8 w8 hown8 hgrow hat hlt8
              have AL := hA.lt
              have z9 := BX3.size
              have z8 := bv.size
              have z7 := HF.out
              have s8 : w8.cell? ⟨F, 0, none⟩ = some (.string (U k)) ∧ w8.cell? ⟨F, 1, none⟩ = some (.string (N k)) := by
                have h9 := (hgrow.block F (by simp at z9; simp; omega) (fun e => by have := (AL F e.symm).2; omega)).trans ((BX3.block F hFl).trans HFV.out)
                simp only [World.cell?, h9]
                exact ⟨rfl, rfl⟩
              have e8 := (hgrow.block E (by simp at z9; simp; omega) (fun e => by have := (AL E e.symm).1; omega)).trans ((BX3.block E (by omega)).trans ((bv.block E hEl).trans hEr))
              have k8 : w8.cell? ⟨E, 0, none⟩ = some A := (five_cells e8).1
              have f8 : ∀ i, w8.frozen? ⟨E, i, none⟩ = false := fun i => by simp [World.frozen?, e8]
              have S8 : Hid (w8.cell? ⟨F, 0, none⟩ = some (.string (U k)) ∧ w8.cell? ⟨F, 1, none⟩ = some (.string (N k))) := s8
              have S9 : Hid ((w8.setCell ⟨E, 0, none⟩ (.slice (some ⟨gg, 0, none⟩) (k + 1) cap8)).cell? ⟨F, 0, none⟩ = some (.string (U k)) ∧ (w8.setCell ⟨E, 0, none⟩ (.slice (some ⟨gg, 0, none⟩) (k + 1) cap8)).cell? ⟨F, 1, none⟩ = some (.string (N k))) := by
                have q : ∀ i, (w8.setCell ⟨E, 0, none⟩ (.slice (some ⟨gg, 0, none⟩) (k + 1) cap8)).cell? ⟨F, i, none⟩ = w8.cell? ⟨F, i, none⟩ := fun i => World.cell?_setCell_other _ _ _ _ (fun e => by have e9 := congrArg Addr.block e; simp at e9; omega)
                exact ⟨(q 0).trans s8.1, (q 1).trans s8.2⟩
              have B3 : Below W0.heap.size W0 (X2.alloc (.cells #[.string (U k), .string (N k)] 43)) := (bw.trans (bv.mono bw.size)).trans (BX3.mono (by have := bw.size; omega))
              have B8 : Below W0.heap.size W0 w8 := B3.grown hgrow (by have := B3.size; omega) (fun q hq => by have := (AL q hq).1; have := HE.out; omega)
              have B9 : Below W0.heap.size W0 (w8.setCell ⟨E, 0, none⟩ (.slice (some ⟨gg, 0, none⟩) (k + 1) cap8)) := B8.setCell (p := ⟨E, 0, none⟩) (by have := HE.out; show W0.heap.size ≤ E; omega) _
              have e9 := set_heap w8 E 0 _ _ _ (.slice (some ⟨gg, 0, none⟩) (k + 1) cap8) e8
              simp only [List.setIfInBounds_toArray, List.set_cons_zero] at e9
              have O9 : OwnA (w8.setCell ⟨E, 0, none⟩ (.slice (some ⟨gg, 0, none⟩) (k + 1) cap8)) (E + 1) (.slice (some ⟨gg, 0, none⟩) (k + 1) cap8) (k + 1) U N := by
                refine ownA_set ?_ (Nat.lt_succ_self E) 0 _
                unfold OwnA
                rw [accVs_succ]
                exact hown8
              have H9 : Hid (_ ∧ _) := And.intro e9 O9
              clear e9 O9 e8 hown8 hgrow s8
              refine hK.out _ _ S8.out (fun _ => ?_)
              clear hK K
              try simp only [Act.put, List.setIfInBounds_toArray, List.set_cons_zero, List.set_cons_succ, List.getElem_toArray, List.getElem_cons_zero, List.getElem_cons_succ]
              refine wpAnyH_take (i := 11) (v := ?_) rfl (by kernel_rfl) (by kernel_rfl) (by kernel_rfl) (fun _ _ _ h => h) (Or.inl ⟨by rfl, ?takeYn23⟩) S8.out ?takeRn23
              case takeYn23 => (intro w hSw; (try dsimp only at hSw); go_simp; try (with_reducible rfl))
              simp only [Act.put, List.setIfInBounds_toArray, List.set_cons_zero, List.set_cons_succ, List.getElem_toArray, List.getElem_cons_zero, List.getElem_cons_succ]
              refine wpAnyH_ready (rs := [12]) (by kernel_rfl) (by simp) ?_
              refine AllReadyH.cons rfl (fun K hK => ?_) AllReadyH.nil
              go_simp
              refine hK.out _ _ S9.out (fun _ => ?_)
              clear hK K
              try simp only [Act.put, List.setIfInBounds_toArray, List.set_cons_zero, List.set_cons_succ, List.getElem_toArray, List.getElem_cons_zero, List.getElem_cons_succ]
              refine wpAnyH_done (by kernel_rfl) ?_ _
              go_wp2_with fail
              go_roundw
              case rel => exact ⟨k + 1, _, by omega, by go_num, B9, H9.out.1, H9.out.2⟩
              case measure => simp [intOf]; omega
            · skip
              go_simp
              refine (clone_any (N k) X1 (by omega)).mono ?_
              rintro e X2 ⟨rfl, p2⟩
              have BX2 : Below V.heap.size V X2 := BX1.trans (p2.mono BX1.size)
              go_wp2_with fail
              refine hK.out _ _ (FS.out X2 BX2) (fun _ => ?_)
              clear hK K
              try simp only [Act.put, List.setIfInBounds_toArray, List.set_cons_zero, List.set_cons_succ, List.getElem_toArray, List.getElem_cons_zero, List.getElem_cons_succ]
              refine wpAnyH_take (i := 8) (v := ?_) rfl (by kernel_rfl) (by kernel_rfl) (by kernel_rfl) (fun _ _ _ h => h) (Or.inl ⟨by rfl, ?takeYn24⟩) (FS.out X2 BX2) ?takeRn24
              case takeYn24 => (intro w hSw; (try dsimp only at hSw); go_simp; try (with_reducible rfl))
              simp only [Act.put, List.setIfInBounds_toArray, List.set_cons_zero, List.set_cons_succ, List.getElem_toArray, List.getElem_cons_zero, List.getElem_cons_succ]
              refine wpAnyH_ready (rs := [1, 9]) (by kernel_rfl) (by simp) ?_
              refine (AllReadyH.cons rfl (fun K hK => ?_) (AllReadyH.cons rfl (fun K hK => ?_) AllReadyH.nil))
              · skip
                have cE := FE.out X2 BX2
                go_simp
                refine hK.out _ _ (FS.out X2 BX2) (fun _ => ?_)
                clear hK K cE
                try simp only [Act.put, List.setIfInBounds_toArray, List.set_cons_zero, List.set_cons_succ, List.getElem_toArray, List.getElem_cons_zero, List.getElem_cons_succ]
                refine wpAnyH_ready (rs := [9]) (by kernel_rfl) (by simp) ?_
                refine AllReadyH.cons rfl (fun K hK => ?_) AllReadyH.nil
                have BX3 : Below V.heap.size V (X2.alloc (.cells #[.string (U k), .string (N k)] 43)) := BX2.alloc BX2.size _
                go_simp
                refine hK.out _ _ (FS.out (X2.alloc (.cells #[.string (U k), .string (N k)] 43)) BX3) (fun _ => ?_)
                clear hK K
                try simp only [Act.put, List.setIfInBounds_toArray, List.set_cons_zero, List.set_cons_succ, List.getElem_toArray, List.getElem_cons_zero, List.getElem_cons_succ]
                refine wpAnyH_ready (rs := [10]) (by kernel_rfl) (by simp) ?_
                refine AllReadyH.cons rfl (fun K hK => ?_) AllReadyH.nil
                refine step_append_lies _ (by rfl) _ _ _ (by rfl) (E + 1) 43 i0 _ 2 32 Try.underlying24 hi0 hz0 hz1 hz2 rfl (by omega) A k (accVs U N k) (by rfl) (FO.out (X2.alloc (.cells #[.string (U k), .string (N k)] 43)) BX3) ⟨X2.heap.size, 0, none⟩ 1 1 [.string (U k), .string (N k)] (by rfl) rfl (two_new X2 (U k) (N k)) (two_one (U k) (N k)) (by omega) (by unfold maxLen; omega) (by omega) (by have := BX2.size; have := bv.size; simp; omega) (X2.heap.size + 1) (by simp) ?_
                intro gg cap8 w8 hown8 hgrow hat hlt8
                have AL := hA.lt
                have z9 := BX3.size
                have z8 := bv.size
                have z7 := HF.out
                have s8 : w8.cell? ⟨F, 0, none⟩ = some (.string (U k)) ∧ w8.cell? ⟨F, 1, none⟩ = some (.string (N k)) := by
                  have h9 := (hgrow.block F (by simp at z9; simp; omega) (fun e => by have := (AL F e.symm).2; omega)).trans ((BX3.block F hFl).trans HFV.out)
                  simp only [World.cell?, h9]
                  exact ⟨rfl, rfl⟩
                have e8 := (hgrow.block E (by simp at z9; simp; omega) (fun e => by have := (AL E e.symm).1; omega)).trans ((BX3.block E (by omega)).trans ((bv.block E hEl).trans hEr))
                have k8 : w8.cell? ⟨E, 0, none⟩ = some A := (five_cells e8).1
                have f8 : ∀ i, w8.frozen? ⟨E, i, none⟩ = false := fun i => by simp [World.frozen?, e8]
                have S8 : Hid (w8.cell? ⟨F, 0, none⟩ = some (.string (U k)) ∧ w8.cell? ⟨F, 1, none⟩ = some (.string (N k))) := s8
                have S9 : Hid ((w8.setCell ⟨E, 0, none⟩ (.slice (some ⟨gg, 0, none⟩) (k + 1) cap8)).cell? ⟨F, 0, none⟩ = some (.string (U k)) ∧ (w8.setCell ⟨E, 0, none⟩ (.slice (some ⟨gg, 0, none⟩) (k + 1) cap8)).cell? ⟨F, 1, none⟩ = some (.string (N k))) := by
                  have q : ∀ i, (w8.setCell ⟨E, 0, none⟩ (.slice (some ⟨gg, 0, none⟩) (k + 1) cap8)).cell? ⟨F, i, none⟩ = w8.cell? ⟨F, i, none⟩ := fun i => World.cell?_setCell_other _ _ _ _ (fun e => by have e9 := congrArg Addr.block e; simp at e9; omega)
                  exact ⟨(q 0).trans s8.1, (q 1).trans s8.2⟩
                have B3 : Below W0.heap.size W0 (X2.alloc (.cells #[.string (U k), .string (N k)] 43)) := (bw.trans (bv.mono bw.size)).trans (BX3.mono (by have := bw.size; omega))
                have B8 : Below W0.heap.size W0 w8 := B3.grown hgrow (by have := B3.size; omega) (fun q hq => by have := (AL q hq).1; have := HE.out; omega)
                have B9 : Below W0.heap.size W0 (w8.setCell ⟨E, 0, none⟩ (.slice (some ⟨gg, 0, none⟩) (k + 1) cap8)) := B8.setCell (p := ⟨E, 0, none⟩) (by have := HE.out; show W0.heap.size ≤ E; omega) _
                have e9 := set_heap w8 E 0 _ _ _ (.slice (some ⟨gg, 0, none⟩) (k + 1) cap8) e8
                simp only [List.setIfInBounds_toArray, List.set_cons_zero] at e9
                have O9 : OwnA (w8.setCell ⟨E, 0, none⟩ (.slice (some ⟨gg, 0, none⟩) (k + 1) cap8)) (E + 1) (.slice (some ⟨gg, 0, none⟩) (k + 1) cap8) (k + 1) U N := by
                  refine ownA_set ?_ (Nat.lt_succ_self E) 0 _
                  unfold OwnA
                  rw [accVs_succ]
                  exact hown8
                have H9 : Hid (_ ∧ _) := And.intro e9 O9
                clear e9 O9 e8 hown8 hgrow s8
                refine hK.out _ _ S8.out (fun _ => ?_)
                clear hK K
                try simp only [Act.put, List.setIfInBounds_toArray, List.set_cons_zero, List.set_cons_succ, List.getElem_toArray, List.getElem_cons_zero, List.getElem_cons_succ]
                refine wpAnyH_take (i := 11) (v := ?_) rfl (by kernel_rfl) (by kernel_rfl) (by kernel_rfl) (fun _ _ _ h => h) (Or.inl ⟨by rfl, ?takeYn25⟩) S8.out ?takeRn25
                case takeYn25 => (intro w hSw; (try dsimp only at hSw); go_simp; try (with_reducible rfl))
                simp only [Act.put, List.setIfInBounds_toArray, List.set_cons_zero, List.set_cons_succ, List.getElem_toArray, List.getElem_cons_zero, List.getElem_cons_succ]
                refine wpAnyH_ready (rs := [12]) (by kernel_rfl) (by simp) ?_
                refine AllReadyH.cons rfl (fun K hK => ?_) AllReadyH.nil
                go_simp
                refine hK.out _ _ S9.out (fun _ => ?_)
                clear hK K
                try simp only [Act.put, List.setIfInBounds_toArray, List.set_cons_zero, List.set_cons_succ, List.getElem_toArray, List.getElem_cons_zero, List.getElem_cons_succ]
                refine wpAnyH_done (by kernel_rfl) ?_ _
                go_wp2_with fail
                go_roundw
                case rel => exact ⟨k + 1, _, by omega, by go_num, B9, H9.out.1, H9.out.2⟩
                case measure => simp [intOf]; omega
              · skip
                have BX3 : Below V.heap.size V (X2.alloc (.cells #[.string (U k), .string (N k)] 43)) := BX2.alloc BX2.size _
                go_simp
                refine hK.out _ _ (FS.out (X2.alloc (.cells #[.string (U k), .string (N k)] 43)) BX3) (fun _ => ?_)
                clear hK K
                try simp only [Act.put, List.setIfInBounds_toArray, List.set_cons_zero, List.set_cons_succ, List.getElem_toArray, List.getElem_cons_zero, List.getElem_cons_succ]
                refine wpAnyH_ready (rs := [1]) (by kernel_rfl) (by simp) ?_
                refine AllReadyH.cons rfl (fun K hK => ?_) AllReadyH.nil
                have cE := FE.out (X2.alloc (.cells #[.string (U k), .string (N k)] 43)) BX3
                go_simp
                refine hK.out _ _ (FS.out (X2.alloc (.cells #[.string (U k), .string (N k)] 43)) BX3) (fun _ => ?_)
                clear hK K cE
                try simp only [Act.put, List.setIfInBounds_toArray, List.set_cons_zero, List.set_cons_succ, List.getElem_toArray, List.getElem_cons_zero, List.getElem_cons_succ]
                refine wpAnyH_ready (rs := [10]) (by kernel_rfl) (by simp) ?_
                refine AllReadyH.cons rfl (fun K hK => ?_) AllReadyH.nil
                refine step_append_lies _ (by rfl) _ _ _ (by rfl) (E + 1) 43 i0 _ 2 32 Try.underlying24 hi0 hz0 hz1 hz2 rfl (by omega) A k (accVs U N k) (by rfl) (FO.out (X2.alloc (.cells #[.string (U k), .string (N k)] 43)) BX3) ⟨X2.heap.size, 0, none⟩ 1 1 [.string (U k), .string (N k)] (by rfl) rfl (two_new X2 (U k) (N k)) (two_one (U k) (N k)) (by omega) (by unfold maxLen; omega) (by omega) (by have := BX2.size; have := bv.size; simp; omega) (X2.heap.size + 1) (by simp) ?_
                intro gg cap8 w8 hown8 hgrow hat hlt8
                have AL := hA.lt
                have z9 := BX3.size
                have z8 := bv.size
                have z7 := HF.out
                have s8 : w8.cell? ⟨F, 0, none⟩ = some (.string (U k)) ∧ w8.cell? ⟨F, 1, none⟩ = some (.string (N k)) := by
                  have h9 := (hgrow.block F (by simp at z9; simp; omega) (fun e => by have := (AL F e.symm).2; omega)).trans ((BX3.block F hFl).trans HFV.out)
                  simp only [World.cell?, h9]
                  exact ⟨rfl, rfl⟩
                have e8 := (hgrow.block E (by simp at z9; simp; omega) (fun e => by have := (AL E e.symm).1; omega)).trans ((BX3.block E (by omega)).trans ((bv.block E hEl).trans hEr))
                have k8 : w8.cell? ⟨E, 0, none⟩ = some A := (five_cells e8).1
                have f8 : ∀ i, w8.frozen? ⟨E, i, none⟩ = false := fun i => by simp [World.frozen?, e8]
                have S8 : Hid (w8.cell? ⟨F, 0, none⟩ = some (.string (U k)) ∧ w8.cell? ⟨F, 1, none⟩ = some (.string (N k))) := s8
                have S9 : Hid ((w8.setCell ⟨E, 0, none⟩ (.slice (some ⟨gg, 0, none⟩) (k + 1) cap8)).cell? ⟨F, 0, none⟩ = some (.string (U k)) ∧ (w8.setCell ⟨E, 0, none⟩ (.slice (some ⟨gg, 0, none⟩) (k + 1) cap8)).cell? ⟨F, 1, none⟩ = some (.string (N k))) := by
                  have q : ∀ i, (w8.setCell ⟨E, 0, none⟩ (.slice (some ⟨gg, 0, none⟩) (k + 1) cap8)).cell? ⟨F, i, none⟩ = w8.cell? ⟨F, i, none⟩ := fun i => World.cell?_setCell_other _ _ _ _ (fun e => by have e9 := congrArg Addr.block e; simp at e9; omega)
                  exact ⟨(q 0).trans s8.1, (q 1).trans s8.2⟩
                have B3 : Below W0.heap.size W0 (X2.alloc (.cells #[.string (U k), .string (N k)] 43)) := (bw.trans (bv.mono bw.size)).trans (BX3.mono (by have := bw.size; omega))
                have B8 : Below W0.heap.size W0 w8 := B3.grown hgrow (by have := B3.size; omega) (fun q hq => by have := (AL q hq).1; have := HE.out; omega)
                have B9 : Below W0.heap.size W0 (w8.setCell ⟨E, 0, none⟩ (.slice (some ⟨gg, 0, none⟩) (k + 1) cap8)) := B8.setCell (p := ⟨E, 0, none⟩) (by have := HE.out; show W0.heap.size ≤ E; omega) _
                have e9 := set_heap w8 E 0 _ _ _ (.slice (some ⟨gg, 0, none⟩) (k + 1) cap8) e8
                simp only [List.setIfInBounds_toArray, List.set_cons_zero] at e9
                have O9 : OwnA (w8.setCell ⟨E, 0, none⟩ (.slice (some ⟨gg, 0, none⟩) (k + 1) cap8)) (E + 1) (.slice (some ⟨gg, 0, none⟩) (k + 1) cap8) (k + 1) U N := by
                  refine ownA_set ?_ (Nat.lt_succ_self E) 0 _
                  unfold OwnA
                  rw [accVs_succ]
                  exact hown8
                have H9 : Hid (_ ∧ _) := And.intro e9 O9
                clear e9 O9 e8 hown8 hgrow s8
                refine hK.out _ _ S8.out (fun _ => ?_)
                clear hK K
                try simp only [Act.put, List.setIfInBounds_toArray, List.set_cons_zero, List.set_cons_succ, List.getElem_toArray, List.getElem_cons_zero, List.getElem_cons_succ]
                refine wpAnyH_take (i := 11) (v := ?_) rfl (by kernel_rfl) (by kernel_rfl) (by kernel_rfl) (fun _ _ _ h => h) (Or.inl ⟨by rfl, ?takeYn26⟩) S8.out ?takeRn26
                case takeYn26 => (intro w hSw; (try dsimp only at hSw); go_simp; try (with_reducible rfl))
                simp only [Act.put, List.setIfInBounds_toArray, List.set_cons_zero, List.set_cons_succ, List.getElem_toArray, List.getElem_cons_zero, List.getElem_cons_succ]
                refine wpAnyH_ready (rs := [12]) (by kernel_rfl) (by simp) ?_
                refine AllReadyH.cons rfl (fun K hK => ?_) AllReadyH.nil
                go_simp
                refine hK.out _ _ S9.out (fun _ => ?_)
                clear hK K
                try simp only [Act.put, List.setIfInBounds_toArray, List.set_cons_zero, List.set_cons_succ, List.getElem_toArray, List.getElem_cons_zero, List.getElem_cons_succ]
                refine wpAnyH_done (by kernel_rfl) ?_ _
                go_wp2_with fail
                go_roundw
                case rel => exact ⟨k + 1, _, by omega, by go_num, B9, H9.out.1, H9.out.2⟩
                case measure => simp [intOf]; omega
        · obtain rfl : k = n := by omega
          obtain ⟨ao, al, ac, rfl⟩ : ∃ o l c, A = Value.slice o l c := by
            rcases hA.2 with ⟨e, _⟩ | ⟨g, c, cur, e, _⟩
            · exact ⟨_, _, _, e⟩
            · exact ⟨_, _, _, e⟩
          obtain ⟨⟨t0, t4, t6⟩, t3, t5⟩ := DC.out wr (b0.trans (bw.mono b0.size))
          obtain ⟨x0, x1, x2, x3, x4⟩ := five_cells hEr
          have Z1 := ZERO.out wr bw
          have ZH : Hid (wr.heap[w.heap.size]? = some (.cells #[.slice none 0 0, .slice none 0 0, .string ⟨#[]⟩, .slice none 0 0, .int .i64 0] 28 (0, 0))) := Z1
          obtain ⟨z0, z1, z2, z3, z4⟩ := five_cells Z1
          have zf : ∀ j, wr.frozen? ⟨w.heap.size, j, none⟩ = false := fun j => by simp [World.frozen?, Z1]
          clear Z1
          go_wp2_with fail
          go_loop [51] (fun i => i = .int .i64 0) (fun _ => 0)
          case atStart => rfl
          case round =>
            obtain rfl := hrel
            go_wp2_with fail
            have hE0 : w.heap.size < E + 1 := by have := HE.out; have := b0.size; omega
            have OA9 := ownA_five hA hE0 (.slice ao al ac) (.slice none 0 0) ⟨#[]⟩ (.slice none 0 0) 0
            have N9 := five_cells (fiveW_heap ZH.out (.slice ao al ac) (.slice none 0 0) ⟨#[]⟩ (.slice none 0 0) 0)
            have b9 : Below w.heap.size w (fiveW wr w.heap.size (.slice ao al ac) (.slice none 0 0) ⟨#[]⟩ (.slice none 0 0) 0) := fiveW_below (b0.trans (bw.mono b0.size)) (Nat.le_refl _) _ _ _ _ _
            obtain ⟨W9, hW9⟩ : ∃ W9, fiveW wr w.heap.size (.slice ao al ac) (.slice none 0 0) ⟨#[]⟩ (.slice none 0 0) 0 = W9 := ⟨_, rfl⟩
            rw [hW9] at N9 b9 OA9
            unfold fiveW at hW9
            rw [hW9]
            obtain ⟨n0, n1, n2, n3, n4⟩ := N9
            exact bodyPost_ret (v := srvV (.slice ao al ac) (.slice none 0 0) ⟨#[]⟩ (.slice none 0 0) 0) (by simp [results, Try.results34, go_sem, n0, n1, n2, n3, n4]) rfl ⟨⟨_, rfl, ownA_mono OA9 (by omega)⟩, b9⟩
    · skip
      go_simp
      rw [← HW2.out, ← HE.out]
      refine hK.out _ _ NSA.out (fun _ => ?_)
      clear hK K
      try simp only [Act.put, List.setIfInBounds_toArray, List.set_cons_zero, List.set_cons_succ, List.getElem_toArray, List.getElem_cons_zero, List.getElem_cons_succ]
      refine wpAnyH_ready (rs := [10]) (by kernel_rfl) (by simp) ?_
      refine AllReadyH.cons rfl (fun K hK => ?_) AllReadyH.nil
      go_simp
      refine (clone_empty _).mono ?_
      rintro e w9 ⟨rfl, rfl⟩
      go_wp2_with fail
      refine hK.out _ _ NSA.out (fun _ => ?_)
      clear hK K
      try simp only [Act.put, List.setIfInBounds_toArray, List.set_cons_zero, List.set_cons_succ, List.getElem_toArray, List.getElem_cons_zero, List.getElem_cons_succ]
      refine wpAnyH_take (i := 15) (v := ?_) rfl (by kernel_rfl) (by kernel_rfl) (by kernel_rfl) (fun _ _ _ h => h) (Or.inl ⟨by rfl, ?takeYn27⟩) NSA.out ?takeRn27
      case takeYn27 => (intro w hSw; (try dsimp only at hSw); go_simp; try (with_reducible rfl))
      simp only [Act.put, List.setIfInBounds_toArray, List.set_cons_zero, List.set_cons_succ, List.getElem_toArray, List.getElem_cons_zero, List.getElem_cons_succ]
      refine wpAnyH_ready (rs := [17]) (by kernel_rfl) (by simp) ?_
      refine AllReadyH.cons rfl (fun K hK => ?_) AllReadyH.nil
      go_simp
      rw [HW3.out]
      refine hK.out _ _ NSC.out (fun _ => ?_)
      clear hK K
      try simp only [Act.put, List.setIfInBounds_toArray, List.set_cons_zero, List.set_cons_succ, List.getElem_toArray, List.getElem_cons_zero, List.getElem_cons_succ]
      refine wpAnyH_done (by kernel_rfl) ?_ _
      clear NSD NSA NSC HW3 HW2 q0 q1 q2 q3 q4 fz2 hHeld d2
      have hEW : E < W3.heap.size := (Array.getElem?_eq_some_iff.1 H3.out).1
      obtain ⟨⟨t0, t4, t6⟩, t3, t5⟩ := DC.out W3 (b0.trans (d3.mono b0.size))
      go_wp2_with fail
      go_loopw [29] (fun i wr => ∃ (k : Nat) (A : Value), k ≤ n ∧ i = .int .i64 k ∧ Below W0.heap.size W0 wr ∧ wr.heap[E]? = some (.cells #[A, .slice none 0 0, .string ⟨#[]⟩, .slice none 0 0, .int .i64 0] 28 (0, 0)) ∧ OwnA wr (E + 1) A k U N) (fun i _ => n - (intOf i).toNat)
      case atStart => exact ⟨0, .slice none 0 0, Nat.zero_le _, rfl, d3, H3.out, ⟨rfl, .inl ⟨rfl, rfl⟩⟩⟩
      case round =>
        obtain ⟨k, A, hk, rfl, bw, hEr, hA⟩ := hrel
        by_cases hlt : k < n
        · skip
          obtain ⟨b, f, ho, hb, c0, c1⟩ := HC.out k hlt
          subst ho
          have i1 : (0 : Int) ≤ (k : Int) := by omega
          have i2 : (k : Int) < (n : Int) := by omega
          have hsk := HS.out k hlt
          have bw0 : Below w.heap.size w wr := b0.trans (bw.mono b0.size)
          have r0 := (bw0.cell (p := ⟨b, f + k * 2, none⟩) hb).trans c0
          have r1 := (bw0.cell (p := ⟨b, f + k * 2 + 1, none⟩) hb).trans c1
          obtain ⟨F, hF⟩ : ∃ F, F = wr.heap.size := ⟨_, rfl⟩
          obtain ⟨V, hV⟩ : ∃ V, wr.alloc (.cells #[.string (U k), .string (N k)] 43) = V := ⟨_, rfl⟩
          have bv : Below wr.heap.size wr V := by rw [← hV]; exact (Below.refl _ wr).alloc (Nat.le_refl _) _
          have hFV : V.heap[F]? = some (.cells #[.string (U k), .string (N k)] 43 (0, 0)) := by rw [← hV, hF]; exact World.alloc_heap_new wr _
          have hFl : F < V.heap.size := (Array.getElem?_eq_some_iff.1 hFV).1
          have hEl : E < wr.heap.size := (Array.getElem?_eq_some_iff.1 hEr).1
          have FS : Hid (∀ W, Below V.heap.size V W → W.cell? ⟨F, 0, none⟩ = some (.string (U k)) ∧ W.cell? ⟨F, 1, none⟩ = some (.string (N k))) := fun W bb => by
            have h9 := (bb.block F hFl).trans hFV
            simp only [World.cell?, h9]
            exact ⟨rfl, rfl⟩
          have FE : Hid (∀ W, Below V.heap.size V W → W.cell? ⟨E, 0, none⟩ = some A) := fun W bb => by
            have h9 := (bb.block E (Nat.lt_of_lt_of_le hEl bv.size)).trans ((bv.block E hEl).trans hEr)
            simp only [World.cell?, h9]
            rfl
          have FO : Hid (∀ W, Below V.heap.size V W → W.ownsRow (E + 1) 43 2 A k (accVs U N k)) := fun W bb => World.ownsRow.kept (row := none) hA ⟨(bb.os.trans bv.os), (bb.tape.trans bv.tape), (bb.output.trans bv.output), Nat.le_trans bv.size bb.size, fun q hq _ => (bb.block q (Nat.lt_of_lt_of_le hq bv.size)).trans (bv.block q hq)⟩ (Classical.em _)
          have BX0 : Below V.heap.size V V.drew := (Below.refl _ V).drew
          have HF : Hid (F = wr.heap.size) := hF
          have HFV : Hid (V.heap[F]? = some (.cells #[.string (U k), .string (N k)] 43 (0, 0))) := hFV
          have HV : Hid (wr.alloc (.cells #[.string (U k), .string (N k)] 43) = V) := hV
          clear hF hV c0 c1 hFV
          go_wp2_with fail
          rw [HV.out, ← HF.out]
          refine wp_region_held_drew (S := (fun W => W.cell? ⟨F, 0, none⟩ = some (.string (U k)) ∧ W.cell? ⟨F, 1, none⟩ = some (.string (N k)))) (by kernel_rfl) (FS.out _ BX0) (fun hHeld => ?_)
          refine wpAnyH_take (i := 0) (v := ?_) rfl (by kernel_rfl) (by kernel_rfl) (by kernel_rfl) (fun _ _ _ h => h) (Or.inl ⟨by rfl, ?takeYn28⟩) (FS.out _ BX0) ?takeRn28
          case takeYn28 => (intro w hSw; (try dsimp only at hSw); go_simp; try (with_reducible rfl))
          simp only [Act.put, List.setIfInBounds_toArray, List.set_cons_zero, List.set_cons_succ, List.getElem_toArray, List.getElem_cons_zero]
          refine wpAnyH_take (i := 2) (v := ?_) rfl (by kernel_rfl) (by kernel_rfl) (by kernel_rfl) (fun _ _ _ h => h) (Or.inl ⟨by rfl, ?takeYn29⟩) (FS.out _ BX0) ?takeRn29
          case takeYn29 => (intro w hSw; (try dsimp only at hSw); go_simp; try (with_reducible rfl))
          simp only [Act.put, List.setIfInBounds_toArray, List.set_cons_zero, List.set_cons_succ, List.getElem_toArray, List.getElem_cons_zero, List.getElem_cons_succ]
          refine wpAnyH_take (i := 3) (v := ?_) rfl (by kernel_rfl) (by kernel_rfl) (by kernel_rfl) (fun _ _ _ h => h) (Or.inl ⟨by rfl, ?takeYn30⟩) (FS.out _ BX0) ?takeRn30
          case takeYn30 => (intro w hSw; (try dsimp only at hSw); go_simp; try (with_reducible rfl))
          simp only [Act.put, List.setIfInBounds_toArray, List.set_cons_zero, List.set_cons_succ, List.getElem_toArray, List.getElem_cons_zero, List.getElem_cons_succ]
          refine wpAnyH_take (i := 5) (v := ?_) rfl (by kernel_rfl) (by kernel_rfl) (by kernel_rfl) (fun _ _ _ h => h) (Or.inl ⟨by rfl, ?takeYn31⟩) (FS.out _ BX0) ?takeRn31
          case takeYn31 => (intro w hSw; (try dsimp only at hSw); go_simp; try (with_reducible rfl))
          simp only [Act.put, List.setIfInBounds_toArray, List.set_cons_zero, List.set_cons_succ, List.getElem_toArray, List.getElem_cons_zero, List.getElem_cons_succ]
          refine wpAnyH_take (i := 6) (v := ?_) rfl (by kernel_rfl) (by kernel_rfl) (by kernel_rfl) (fun _ _ _ h => h) (Or.inl ⟨by rfl, ?takeYn32⟩) (FS.out _ BX0) ?takeRn32
          case takeYn32 => (intro w hSw; (try dsimp only at hSw); go_simp; try (with_reducible rfl))
          simp only [Act.put, List.setIfInBounds_toArray, List.set_cons_zero, List.set_cons_succ, List.getElem_toArray, List.getElem_cons_zero, List.getElem_cons_succ]
          refine wpAnyH_ready (rs := [1, 4]) (by kernel_rfl) (by simp) ?_
          refine (AllReadyH.cons rfl (fun K hK => ?_) (AllReadyH.cons rfl (fun K hK => ?_) AllReadyH.nil))
          · skip
            have cE := FE.out V.drew BX0
            go_simp
            refine hK.out _ _ (FS.out V.drew BX0) (fun _ => ?_)
            clear hK K cE
            try simp only [Act.put, List.setIfInBounds_toArray, List.set_cons_zero, List.set_cons_succ, List.getElem_toArray, List.getElem_cons_zero, List.getElem_cons_succ]
            refine wpAnyH_ready (rs := [4]) (by kernel_rfl) (by simp) ?_
            refine AllReadyH.cons rfl (fun K hK => ?_) AllReadyH.nil
            go_simp
            refine (clone_any (U k) V.drew (by omega)).mono ?_
            rintro e X1 ⟨rfl, p1⟩
            have BX1 : Below V.heap.size V X1 := BX0.trans (p1.mono BX0.size)
            go_wp2_with fail
            refine hK.out _ _ (FS.out X1 BX1) (fun _ => ?_)
            clear hK K
            try simp only [Act.put, List.setIfInBounds_toArray, List.set_cons_zero, List.set_cons_succ, List.getElem_toArray, List.getElem_cons_zero, List.getElem_cons_succ]
            refine wpAnyH_ready (rs := [7]) (by kernel_rfl) (by simp) ?_
            refine AllReadyH.cons rfl (fun K hK => ?_) AllReadyH.nil
            go_simp
            refine (clone_any (N k) X1 (by omega)).mono ?_
            rintro e X2 ⟨rfl, p2⟩
            have BX2 : Below V.heap.size V X2 := BX1.trans (p2.mono BX1.size)
            go_wp2_with fail
            refine hK.out _ _ (FS.out X2 BX2) (fun _ => ?_)
            clear hK K
            try simp only [Act.put, List.setIfInBounds_toArray, List.set_cons_zero, List.set_cons_succ, List.getElem_toArray, List.getElem_cons_zero, List.getElem_cons_succ]
            refine wpAnyH_take (i := 8) (v := ?_) rfl (by kernel_rfl) (by kernel_rfl) (by kernel_rfl) (fun _ _ _ h => h) (Or.inl ⟨by rfl, ?takeYn33⟩) (FS.out X2 BX2) ?takeRn33
            case takeYn33 => (intro w hSw; (try dsimp only at hSw); go_simp; try (with_reducible rfl))
            simp only [Act.put, List.setIfInBounds_toArray, List.set_cons_zero, List.set_cons_succ, List.getElem_toArray, List.getElem_cons_zero, List.getElem_cons_succ]
            refine wpAnyH_ready (rs := [9]) (by kernel_rfl) (by simp) ?_
            refine AllReadyH.cons rfl (fun K hK => ?_) AllReadyH.nil
            have BX3 : Below V.heap.size V (X2.alloc (.cells #[.string (U k), .string (N k)] 43)) := BX2.alloc BX2.size _
            go_simp
            refine hK.out _ _ (FS.out (X2.alloc (.cells #[.string (U k), .string (N k)] 43)) BX3) (fun _ => ?_)
            clear hK K
            try simp only [Act.put, List.setIfInBounds_toArray, List.set_cons_zero, List.set_cons_succ, List.getElem_toArray, List.getElem_cons_zero, List.getElem_cons_succ]
            refine wpAnyH_ready (rs := [10]) (by kernel_rfl) (by simp) ?_
            refine AllReadyH.cons rfl (fun K hK => ?_) AllReadyH.nil
            refine step_append_lies _ (by rfl) _ _ _ (by rfl) (E + 1) 43 i0 _ 2 32 Try.underlying24 hi0 hz0 hz1 hz2 rfl (by omega) A k (accVs U N k) (by rfl) (FO.out (X2.alloc (.cells #[.string (U k), .string (N k)] 43)) BX3) ⟨X2.heap.size, 0, none⟩ 1 1 [.string (U k), .string (N k)] (by rfl) rfl (two_new X2 (U k) (N k)) (two_one (U k) (N k)) (by omega) (by unfold maxLen; omega) (by omega) (by have := BX2.size; have := bv.size; simp; omega) (X2.heap.size + 1) (by simp) ?_
            intro gg cap8 w8 hown8 hgrow hat hlt8
            have AL := hA.lt
            have z9 := BX3.size
            have z8 := bv.size
            have z7 := HF.out
            have s8 : w8.cell? ⟨F, 0, none⟩ = some (.string (U k)) ∧ w8.cell? ⟨F, 1, none⟩ = some (.string (N k)) := by
              have h9 := (hgrow.block F (by simp at z9; simp; omega) (fun e => by have := (AL F e.symm).2; omega)).trans ((BX3.block F hFl).trans HFV.out)
              simp only [World.cell?, h9]
              exact ⟨rfl, rfl⟩
            have e8 := (hgrow.block E (by simp at z9; simp; omega) (fun e => by have := (AL E e.symm).1; omega)).trans ((BX3.block E (by omega)).trans ((bv.block E hEl).trans hEr))
            have k8 : w8.cell? ⟨E, 0, none⟩ = some A := (five_cells e8).1
            have f8 : ∀ i, w8.frozen? ⟨E, i, none⟩ = false := fun i => by simp [World.frozen?, e8]
            have S8 : Hid (w8.cell? ⟨F, 0, none⟩ = some (.string (U k)) ∧ w8.cell? ⟨F, 1, none⟩ = some (.string (N k))) := s8
            have S9 : Hid ((w8.setCell ⟨E, 0, none⟩ (.slice (some ⟨gg, 0, none⟩) (k + 1) cap8)).cell? ⟨F, 0, none⟩ = some (.string (U k)) ∧ (w8.setCell ⟨E, 0, none⟩ (.slice (some ⟨gg, 0, none⟩) (k + 1) cap8)).cell? ⟨F, 1, none⟩ = some (.string (N k))) := by
              have q : ∀ i, (w8.setCell ⟨E, 0, none⟩ (.slice (some ⟨gg, 0, none⟩) (k + 1) cap8)).cell? ⟨F, i, none⟩ = w8.cell? ⟨F, i, none⟩ := fun i => World.cell?_setCell_other _ _ _ _ (fun e => by have e9 := congrArg Addr.block e; simp at e9; omega)
              exact ⟨(q 0).trans s8.1, (q 1).trans s8.2⟩
            have B3 : Below W0.heap.size W0 (X2.alloc (.cells #[.string (U k), .string (N k)] 43)) := (bw.trans (bv.mono bw.size)).trans (BX3.mono (by have := bw.size; omega))
            have B8 : Below W0.heap.size W0 w8 := B3.grown hgrow (by have := B3.size; omega) (fun q hq => by have := (AL q hq).1; have := HE.out; omega)
            have B9 : Below W0.heap.size W0 (w8.setCell ⟨E, 0, none⟩ (.slice (some ⟨gg, 0, none⟩) (k + 1) cap8)) := B8.setCell (p := ⟨E, 0, none⟩) (by have := HE.out; show W0.heap.size ≤ E; omega) _
            have e9 := set_heap w8 E 0 _ _ _ (.slice (some ⟨gg, 0, none⟩) (k + 1) cap8) e8
            simp only [List.setIfInBounds_toArray, List.set_cons_zero] at e9
            have O9 : OwnA (w8.setCell ⟨E, 0, none⟩ (.slice (some ⟨gg, 0, none⟩) (k + 1) cap8)) (E + 1) (.slice (some ⟨gg, 0, none⟩) (k + 1) cap8) (k + 1) U N := by
              refine ownA_set ?_ (Nat.lt_succ_self E) 0 _
              unfold OwnA
              rw [accVs_succ]
              exact hown8
            have H9 : Hid (_ ∧ _) := And.intro e9 O9
            clear e9 O9 e8 hown8 hgrow s8
            refine hK.out _ _ S8.out (fun _ => ?_)
            clear hK K
            try simp only [Act.put, List.setIfInBounds_toArray, List.set_cons_zero, List.set_cons_succ, List.getElem_toArray, List.getElem_cons_zero, List.getElem_cons_succ]
            refine wpAnyH_take (i := 11) (v := ?_) rfl (by kernel_rfl) (by kernel_rfl) (by kernel_rfl) (fun _ _ _ h => h) (Or.inl ⟨by rfl, ?takeYn34⟩) S8.out ?takeRn34
            case takeYn34 => (intro w hSw; (try dsimp only at hSw); go_simp; try (with_reducible rfl))
            simp only [Act.put, List.setIfInBounds_toArray, List.set_cons_zero, List.set_cons_succ, List.getElem_toArray, List.getElem_cons_zero, List.getElem_cons_succ]
            refine wpAnyH_ready (rs := [12]) (by kernel_rfl) (by simp) ?_
            refine AllReadyH.cons rfl (fun K hK => ?_) AllReadyH.nil
            go_simp
            refine hK.out _ _ S9.out (fun _ => ?_)
            clear hK K
            try simp only [Act.put, List.setIfInBounds_toArray, List.set_cons_zero, List.set_cons_succ, List.getElem_toArray, List.getElem_cons_zero, List.getElem_cons_succ]
            refine wpAnyH_done (by kernel_rfl) ?_ _
            go_wp2_with fail
            go_roundw
            case rel => exact ⟨k + 1, _, by omega, by go_num, B9, H9.out.1, H9.out.2⟩
            case measure => simp [intOf]; omega
          · skip
            go_simp
            refine (clone_any (U k) V.drew (by omega)).mono ?_
            rintro e X1 ⟨rfl, p1⟩
            have BX1 : Below V.heap.size V X1 := BX0.trans (p1.mono BX0.size)
            go_wp2_with fail
            refine hK.out _ _ (FS.out X1 BX1) (fun _ => ?_)
            clear hK K
            try simp only [Act.put, List.setIfInBounds_toArray, List.set_cons_zero, List.set_cons_succ, List.getElem_toArray, List.getElem_cons_zero, List.getElem_cons_succ]
            refine wpAnyH_ready (rs := [1, 7]) (by kernel_rfl) (by simp) ?_
            refine (AllReadyH.cons rfl (fun K hK => ?_) (AllReadyH.cons rfl (fun K hK => ?_) AllReadyH.nil))
            · skip
              have cE := FE.out X1 BX1
              go_simp
              refine hK.out _ _ (FS.out X1 BX1) (fun _ => ?_)
              clear hK K cE
              try simp only [Act.put, List.setIfInBounds_toArray, List.set_cons_zero, List.set_cons_succ, List.getElem_toArray, List.getElem_cons_zero, List.getElem_cons_succ]
              refine wpAnyH_ready (rs := [7]) (by kernel_rfl) (by simp) ?_
              refine AllReadyH.cons rfl (fun K hK => ?_) AllReadyH.nil
              go_simp
              refine (clone_any (N k) X1 (by omega)).mono ?_
              rintro e X2 ⟨rfl, p2⟩
              have BX2 : Below V.heap.size V X2 := BX1.trans (p2.mono BX1.size)
              go_wp2_with fail
              refine hK.out _ _ (FS.out X2 BX2) (fun _ => ?_)
              clear hK K
              try simp only [Act.put, List.setIfInBounds_toArray, List.set_cons_zero, List.set_cons_succ, List.getElem_toArray, List.getElem_cons_zero, List.getElem_cons_succ]
              refine wpAnyH_take (i := 8) (v := ?_) rfl (by kernel_rfl) (by kernel_rfl) (by kernel_rfl) (fun _ _ _ h => h) (Or.inl ⟨by rfl, ?takeYn35⟩) (FS.out X2 BX2) ?takeRn35
              case takeYn35 => (intro w hSw; (try dsimp only at hSw); go_simp; try (with_reducible rfl))
              simp only [Act.put, List.setIfInBounds_toArray, List.set_cons_zero, List.set_cons_succ, List.getElem_toArray, List.getElem_cons_zero, List.getElem_cons_succ]
              refine wpAnyH_ready (rs := [9]) (by kernel_rfl) (by simp) ?_
              refine AllReadyH.cons rfl (fun K hK => ?_) AllReadyH.nil
              have BX3 : Below V.heap.size V (X2.alloc (.cells #[.string (U k), .string (N k)] 43)) := BX2.alloc BX2.size _
              go_simp
              refine hK.out _ _ (FS.out (X2.alloc (.cells #[.string (U k), .string (N k)] 43)) BX3) (fun _ => ?_)
              clear hK K
              try simp only [Act.put, List.setIfInBounds_toArray, List.set_cons_zero, List.set_cons_succ, List.getElem_toArray, List.getElem_cons_zero, List.getElem_cons_succ]
              refine wpAnyH_ready (rs := [10]) (by kernel_rfl) (by simp) ?_
              refine AllReadyH.cons rfl (fun K hK => ?_) AllReadyH.nil
              refine step_append_lies _ (by rfl) _ _ _ (by rfl) (E + 1) 43 i0 _ 2 32 Try.underlying24 hi0 hz0 hz1 hz2 rfl (by omega) A k (accVs U N k) (by rfl) (FO.out (X2.alloc (.cells #[.string (U k), .string (N k)] 43)) BX3) ⟨X2.heap.size, 0, none⟩ 1 1 [.string (U k), .string (N k)] (by rfl) rfl (two_new X2 (U k) (N k)) (two_one (U k) (N k)) (by omega) (by unfold maxLen; omega) (by omega) (by have := BX2.size; have := bv.size; simp; omega) (X2.heap.size + 1) (by simp) ?_
              intro gg cap8 w8 hown8 hgrow hat hlt8
              have AL := hA.lt
              have z9 := BX3.size
              have z8 := bv.size
              have z7 := HF.out
              have s8 : w8.cell? ⟨F, 0, none⟩ = some (.string (U k)) ∧ w8.cell? ⟨F, 1, none⟩ = some (.string (N k)) := by
                have h9 := (hgrow.block F (by simp at z9; simp; omega) (fun e => by have := (AL F e.symm).2; omega)).trans ((BX3.block F hFl).trans HFV.out)
                simp only [World.cell?, h9]
                exact ⟨rfl, rfl⟩
              have e8 := (hgrow.block E (by simp at z9; simp; omega) (fun e => by have := (AL E e.symm).1; omega)).trans ((BX3.block E (by omega)).trans ((bv.block E hEl).trans hEr))
              have k8 : w8.cell? ⟨E, 0, none⟩ = some A := (five_cells e8).1
              have f8 : ∀ i, w8.frozen? ⟨E, i, none⟩ = false := fun i => by simp [World.frozen?, e8]
              have S8 : Hid (w8.cell? ⟨F, 0, none⟩ = some (.string (U k)) ∧ w8.cell? ⟨F, 1, none⟩ = some (.string (N k))) := s8
              have S9 : Hid ((w8.setCell ⟨E, 0, none⟩ (.slice (some ⟨gg, 0, none⟩) (k + 1) cap8)).cell? ⟨F, 0, none⟩ = some (.string (U k)) ∧ (w8.setCell ⟨E, 0, none⟩ (.slice (some ⟨gg, 0, none⟩) (k + 1) cap8)).cell? ⟨F, 1, none⟩ = some (.string (N k))) := by
                have q : ∀ i, (w8.setCell ⟨E, 0, none⟩ (.slice (some ⟨gg, 0, none⟩) (k + 1) cap8)).cell? ⟨F, i, none⟩ = w8.cell? ⟨F, i, none⟩ := fun i => World.cell?_setCell_other _ _ _ _ (fun e => by have e9 := congrArg Addr.block e; simp at e9; omega)
                exact ⟨(q 0).trans s8.1, (q 1).trans s8.2⟩
              have B3 : Below W0.heap.size W0 (X2.alloc (.cells #[.string (U k), .string (N k)] 43)) := (bw.trans (bv.mono bw.size)).trans (BX3.mono (by have := bw.size; omega))
              have B8 : Below W0.heap.size W0 w8 := B3.grown hgrow (by have := B3.size; omega) (fun q hq => by have := (AL q hq).1; have := HE.out; omega)
              have B9 : Below W0.heap.size W0 (w8.setCell ⟨E, 0, none⟩ (.slice (some ⟨gg, 0, none⟩) (k + 1) cap8)) := B8.setCell (p := ⟨E, 0, none⟩) (by have := HE.out; show W0.heap.size ≤ E; omega) _
              have e9 := set_heap w8 E 0 _ _ _ (.slice (some ⟨gg, 0, none⟩) (k + 1) cap8) e8
              simp only [List.setIfInBounds_toArray, List.set_cons_zero] at e9
              have O9 : OwnA (w8.setCell ⟨E, 0, none⟩ (.slice (some ⟨gg, 0, none⟩) (k + 1) cap8)) (E + 1) (.slice (some ⟨gg, 0, none⟩) (k + 1) cap8) (k + 1) U N := by
                refine ownA_set ?_ (Nat.lt_succ_self E) 0 _
                unfold OwnA
                rw [accVs_succ]
                exact hown8
              have H9 : Hid (_ ∧ _) := And.intro e9 O9
              clear e9 O9 e8 hown8 hgrow s8
              refine hK.out _ _ S8.out (fun _ => ?_)
              clear hK K
              try simp only [Act.put, List.setIfInBounds_toArray, List.set_cons_zero, List.set_cons_succ, List.getElem_toArray, List.getElem_cons_zero, List.getElem_cons_succ]
              refine wpAnyH_take (i := 11) (v := ?_) rfl (by kernel_rfl) (by kernel_rfl) (by kernel_rfl) (fun _ _ _ h => h) (Or.inl ⟨by rfl, ?takeYn36⟩) S8.out ?takeRn36
              case takeYn36 => (intro w hSw; (try dsimp only at hSw); go_simp; try (with_reducible rfl))
              simp only [Act.put, List.setIfInBounds_toArray, List.set_cons_zero, List.set_cons_succ, List.getElem_toArray, List.getElem_cons_zero, List.getElem_cons_succ]
              refine wpAnyH_ready (rs := [12]) (by kernel_rfl) (by simp) ?_
              refine AllReadyH.cons rfl (fun K hK => ?_) AllReadyH.nil
              go_simp
              refine hK.out _ _ S9.out (fun _ => ?_)
              clear hK K
              try simp only [Act.put, List.setIfInBounds_toArray, List.set_cons_zero, List.set_cons_succ, List.getElem_toArray, List.getElem_cons_zero, List.getElem_cons_succ]
              refine wpAnyH_done (by kernel_rfl) ?_ _
              go_wp2_with fail
              go_roundw
              case rel => exact ⟨k + 1, _, by omega, by go_num, B9, H9.out.1, H9.out.2⟩
              case measure => simp [intOf]; omega
            · skip
              go_simp
              refine (clone_any (N k) X1 (by omega)).mono ?_
              rintro e X2 ⟨rfl, p2⟩
              have BX2 : Below V.heap.size V X2 := BX1.trans (p2.mono BX1.size)
              go_wp2_with fail
              refine hK.out _ _ (FS.out X2 BX2) (fun _ => ?_)
              clear hK K
              try simp only [Act.put, List.setIfInBounds_toArray, List.set_cons_zero, List.set_cons_succ, List.getElem_toArray, List.getElem_cons_zero, List.getElem_cons_succ]
              refine wpAnyH_take (i := 8) (v := ?_) rfl (by kernel_rfl) (by kernel_rfl) (by kernel_rfl) (fun _ _ _ h => h) (Or.inl ⟨by rfl, ?takeYn37⟩) (FS.out X2 BX2) ?takeRn37
              case takeYn37 => (intro w hSw; (try dsimp only at hSw); go_simp; try (with_reducible rfl))
              simp only [Act.put, List.setIfInBounds_toArray, List.set_cons_zero, List.set_cons_succ, List.getElem_toArray, List.getElem_cons_zero, List.getElem_cons_succ]
              refine wpAnyH_ready (rs := [1, 9]) (by kernel_rfl) (by simp) ?_
              refine (AllReadyH.cons rfl (fun K hK => ?_) (AllReadyH.cons rfl (fun K hK => ?_) AllReadyH.nil))
              · skip
                have cE := FE.out X2 BX2
                go_simp
                refine hK.out _ _ (FS.out X2 BX2) (fun _ => ?_)
                clear hK K cE
                try simp only [Act.put, List.setIfInBounds_toArray, List.set_cons_zero, List.set_cons_succ, List.getElem_toArray, List.getElem_cons_zero, List.getElem_cons_succ]
                refine wpAnyH_ready (rs := [9]) (by kernel_rfl) (by simp) ?_
                refine AllReadyH.cons rfl (fun K hK => ?_) AllReadyH.nil
                have BX3 : Below V.heap.size V (X2.alloc (.cells #[.string (U k), .string (N k)] 43)) := BX2.alloc BX2.size _
                go_simp
                refine hK.out _ _ (FS.out (X2.alloc (.cells #[.string (U k), .string (N k)] 43)) BX3) (fun _ => ?_)
                clear hK K
                try simp only [Act.put, List.setIfInBounds_toArray, List.set_cons_zero, List.set_cons_succ, List.getElem_toArray, List.getElem_cons_zero, List.getElem_cons_succ]
                refine wpAnyH_ready (rs := [10]) (by kernel_rfl) (by simp) ?_
                refine AllReadyH.cons rfl (fun K hK => ?_) AllReadyH.nil
                refine step_append_lies _ (by rfl) _ _ _ (by rfl) (E + 1) 43 i0 _ 2 32 Try.underlying24 hi0 hz0 hz1 hz2 rfl (by omega) A k (accVs U N k) (by rfl) (FO.out (X2.alloc (.cells #[.string (U k), .string (N k)] 43)) BX3) ⟨X2.heap.size, 0, none⟩ 1 1 [.string (U k), .string (N k)] (by rfl) rfl (two_new X2 (U k) (N k)) (two_one (U k) (N k)) (by omega) (by unfold maxLen; omega) (by omega) (by have := BX2.size; have := bv.size; simp; omega) (X2.heap.size + 1) (by simp) ?_
                intro gg cap8 w8 hown8 hgrow hat hlt8
                have AL := hA.lt
                have z9 := BX3.size
                have z8 := bv.size
                have z7 := HF.out
                have s8 : w8.cell? ⟨F, 0, none⟩ = some (.string (U k)) ∧ w8.cell? ⟨F, 1, none⟩ = some (.string (N k)) := by
                  have h9 := (hgrow.block F (by simp at z9; simp; omega) (fun e => by have := (AL F e.symm).2; omega)).trans ((BX3.block F hFl).trans HFV.out)
                  simp only [World.cell?, h9]
                  exact ⟨rfl, rfl⟩
                have e8 := (hgrow.block E (by simp at z9; simp; omega) (fun e => by have := (AL E e.symm).1; omega)).trans ((BX3.block E (by omega)).trans ((bv.block E hEl).trans hEr))
                have k8 : w8.cell? ⟨E, 0, none⟩ = some A := (five_cells e8).1
                have f8 : ∀ i, w8.frozen? ⟨E, i, none⟩ = false := fun i => by simp [World.frozen?, e8]
                have S8 : Hid (w8.cell? ⟨F, 0, none⟩ = some (.string (U k)) ∧ w8.cell? ⟨F, 1, none⟩ = some (.string (N k))) := s8
                have S9 : Hid ((w8.setCell ⟨E, 0, none⟩ (.slice (some ⟨gg, 0, none⟩) (k + 1) cap8)).cell? ⟨F, 0, none⟩ = some (.string (U k)) ∧ (w8.setCell ⟨E, 0, none⟩ (.slice (some ⟨gg, 0, none⟩) (k + 1) cap8)).cell? ⟨F, 1, none⟩ = some (.string (N k))) := by
                  have q : ∀ i, (w8.setCell ⟨E, 0, none⟩ (.slice (some ⟨gg, 0, none⟩) (k + 1) cap8)).cell? ⟨F, i, none⟩ = w8.cell? ⟨F, i, none⟩ := fun i => World.cell?_setCell_other _ _ _ _ (fun e => by have e9 := congrArg Addr.block e; simp at e9; omega)
                  exact ⟨(q 0).trans s8.1, (q 1).trans s8.2⟩
                have B3 : Below W0.heap.size W0 (X2.alloc (.cells #[.string (U k), .string (N k)] 43)) := (bw.trans (bv.mono bw.size)).trans (BX3.mono (by have := bw.size; omega))
                have B8 : Below W0.heap.size W0 w8 := B3.grown hgrow (by have := B3.size; omega) (fun q hq => by have := (AL q hq).1; have := HE.out; omega)
                have B9 : Below W0.heap.size W0 (w8.setCell ⟨E, 0, none⟩ (.slice (some ⟨gg, 0, none⟩) (k + 1) cap8)) := B8.setCell (p := ⟨E, 0, none⟩) (by have := HE.out; show W0.heap.size ≤ E; omega) _
                have e9 := set_heap w8 E 0 _ _ _ (.slice (some ⟨gg, 0, none⟩) (k + 1) cap8) e8
                simp only [List.setIfInBounds_toArray, List.set_cons_zero] at e9
                have O9 : OwnA (w8.setCell ⟨E, 0, none⟩ (.slice (some ⟨gg, 0, none⟩) (k + 1) cap8)) (E + 1) (.slice (some ⟨gg, 0, none⟩) (k + 1) cap8) (k + 1) U N := by
                  refine ownA_set ?_ (Nat.lt_succ_self E) 0 _
                  unfold OwnA
                  rw [accVs_succ]
                  exact hown8
                have H9 : Hid (_ ∧ _) := And.intro e9 O9
                clear e9 O9 e8 hown8 hgrow s8
                refine hK.out _ _ S8.out (fun _ => ?_)
                clear hK K
                try simp only [Act.put, List.setIfInBounds_toArray, List.set_cons_zero, List.set_cons_succ, List.getElem_toArray, List.getElem_cons_zero, List.getElem_cons_succ]
                refine wpAnyH_take (i := 11) (v := ?_) rfl (by kernel_rfl) (by kernel_rfl) (by kernel_rfl) (fun _ _ _ h => h) (Or.inl ⟨by rfl, ?takeYn38⟩) S8.out ?takeRn38
                case takeYn38 => (intro w hSw; (try dsimp only at hSw); go_simp; try (with_reducible rfl))
                simp only [Act.put, List.setIfInBounds_toArray, List.set_cons_zero, List.set_cons_succ, List.getElem_toArray, List.getElem_cons_zero, List.getElem_cons_succ]
                refine wpAnyH_ready (rs := [12]) (by kernel_rfl) (by simp) ?_
                refine AllReadyH.cons rfl (fun K hK => ?_) AllReadyH.nil
                go_simp
                refine hK.out _ _ S9.out (fun _ => ?_)
                clear hK K
                try simp only [Act.put, List.setIfInBounds_toArray, List.set_cons_zero, List.set_cons_succ, List.getElem_toArray, List.getElem_cons_zero, List.getElem_cons_succ]
                refine wpAnyH_done (by kernel_rfl) ?_ _
                go_wp2_with fail
                go_roundw
                case rel => exact ⟨k + 1, _, by omega, by go_num, B9, H9.out.1, H9.out.2⟩
                case measure => simp [intOf]; omega
              · skip
                have BX3 : Below V.heap.size V (X2.alloc (.cells #[.string (U k), .string (N k)] 43)) := BX2.alloc BX2.size _
                go_simp
                refine hK.out _ _ (FS.out (X2.alloc (.cells #[.string (U k), .string (N k)] 43)) BX3) (fun _ => ?_)
                clear hK K
                try simp only [Act.put, List.setIfInBounds_toArray, List.set_cons_zero, List.set_cons_succ, List.getElem_toArray, List.getElem_cons_zero, List.getElem_cons_succ]
                refine wpAnyH_ready (rs := [1]) (by kernel_rfl) (by simp) ?_
                refine AllReadyH.cons rfl (fun K hK => ?_) AllReadyH.nil
                have cE := FE.out (X2.alloc (.cells #[.string (U k), .string (N k)] 43)) BX3
                go_simp
                refine hK.out _ _ (FS.out (X2.alloc (.cells #[.string (U k), .string (N k)] 43)) BX3) (fun _ => ?_)
                clear hK K cE
                try simp only [Act.put, List.setIfInBounds_toArray, List.set_cons_zero, List.set_cons_succ, List.getElem_toArray, List.getElem_cons_zero, List.getElem_cons_succ]
                refine wpAnyH_ready (rs := [10]) (by kernel_rfl) (by simp) ?_
                refine AllReadyH.cons rfl (fun K hK => ?_) AllReadyH.nil
                refine step_append_lies _ (by rfl) _ _ _ (by rfl) (E + 1) 43 i0 _ 2 32 Try.underlying24 hi0 hz0 hz1 hz2 rfl (by omega) A k (accVs U N k) (by rfl) (FO.out (X2.alloc (.cells #[.string (U k), .string (N k)] 43)) BX3) ⟨X2.heap.size, 0, none⟩ 1 1 [.string (U k), .string (N k)] (by rfl) rfl (two_new X2 (U k) (N k)) (two_one (U k) (N k)) (by omega) (by unfold maxLen; omega) (by omega) (by have := BX2.size; have := bv.size; simp; omega) (X2.heap.size + 1) (by simp) ?_
                intro gg cap8 w8 hown8 hgrow hat hlt8
                have AL := hA.lt
                have z9 := BX3.size
                have z8 := bv.size
                have z7 := HF.out
                have s8 : w8.cell? ⟨F, 0, none⟩ = some (.string (U k)) ∧ w8.cell? ⟨F, 1, none⟩ = some (.string (N k)) := by
                  have h9 := (hgrow.block F (by simp at z9; simp; omega) (fun e => by have := (AL F e.symm).2; omega)).trans ((BX3.block F hFl).trans HFV.out)
                  simp only [World.cell?, h9]
                  exact ⟨rfl, rfl⟩
                have e8 := (hgrow.block E (by simp at z9; simp; omega) (fun e => by have := (AL E e.symm).1; omega)).trans ((BX3.block E (by omega)).trans ((bv.block E hEl).trans hEr))
                have k8 : w8.cell? ⟨E, 0, none⟩ = some A := (five_cells e8).1
                have f8 : ∀ i, w8.frozen? ⟨E, i, none⟩ = false := fun i => by simp [World.frozen?, e8]
                have S8 : Hid (w8.cell? ⟨F, 0, none⟩ = some (.string (U k)) ∧ w8.cell? ⟨F, 1, none⟩ = some (.string (N k))) := s8
                have S9 : Hid ((w8.setCell ⟨E, 0, none⟩ (.slice (some ⟨gg, 0, none⟩) (k + 1) cap8)).cell? ⟨F, 0, none⟩ = some (.string (U k)) ∧ (w8.setCell ⟨E, 0, none⟩ (.slice (some ⟨gg, 0, none⟩) (k + 1) cap8)).cell? ⟨F, 1, none⟩ = some (.string (N k))) := by
                  have q : ∀ i, (w8.setCell ⟨E, 0, none⟩ (.slice (some ⟨gg, 0, none⟩) (k + 1) cap8)).cell? ⟨F, i, none⟩ = w8.cell? ⟨F, i, none⟩ := fun i => World.cell?_setCell_other _ _ _ _ (fun e => by have e9 := congrArg Addr.block e; simp at e9; omega)
                  exact ⟨(q 0).trans s8.1, (q 1).trans s8.2⟩
                have B3 : Below W0.heap.size W0 (X2.alloc (.cells #[.string (U k), .string (N k)] 43)) := (bw.trans (bv.mono bw.size)).trans (BX3.mono (by have := bw.size; omega))
                have B8 : Below W0.heap.size W0 w8 := B3.grown hgrow (by have := B3.size; omega) (fun q hq => by have := (AL q hq).1; have := HE.out; omega)
                have B9 : Below W0.heap.size W0 (w8.setCell ⟨E, 0, none⟩ (.slice (some ⟨gg, 0, none⟩) (k + 1) cap8)) := B8.setCell (p := ⟨E, 0, none⟩) (by have := HE.out; show W0.heap.size ≤ E; omega) _
                have e9 := set_heap w8 E 0 _ _ _ (.slice (some ⟨gg, 0, none⟩) (k + 1) cap8) e8
                simp only [List.setIfInBounds_toArray, List.set_cons_zero] at e9
                have O9 : OwnA (w8.setCell ⟨E, 0, none⟩ (.slice (some ⟨gg, 0, none⟩) (k + 1) cap8)) (E + 1) (.slice (some ⟨gg, 0, none⟩) (k + 1) cap8) (k + 1) U N := by
                  refine ownA_set ?_ (Nat.lt_succ_self E) 0 _
                  unfold OwnA
                  rw [accVs_succ]
                  exact hown8
                have H9 : Hid (_ ∧ _) := And.intro e9 O9
                clear e9 O9 e8 hown8 hgrow s8
                refine hK.out _ _ S8.out (fun _ => ?_)
                clear hK K
                try simp only [Act.put, List.setIfInBounds_toArray, List.set_cons_zero, List.set_cons_succ, List.getElem_toArray, List.getElem_cons_zero, List.getElem_cons_succ]
                refine wpAnyH_take (i := 11) (v := ?_) rfl (by kernel_rfl) (by kernel_rfl) (by kernel_rfl) (fun _ _ _ h => h) (Or.inl ⟨by rfl, ?takeYn39⟩) S8.out ?takeRn39
                case takeYn39 => (intro w hSw; (try dsimp only at hSw); go_simp; try (with_reducible rfl))
                simp only [Act.put, List.setIfInBounds_toArray, List.set_cons_zero, List.set_cons_succ, List.getElem_toArray, List.getElem_cons_zero, List.getElem_cons_succ]
                refine wpAnyH_ready (rs := [12]) (by kernel_rfl) (by simp) ?_
                refine AllReadyH.cons rfl (fun K hK => ?_) AllReadyH.nil
                go_simp
                refine hK.out _ _ S9.out (fun _ => ?_)
                clear hK K
                try simp only [Act.put, List.setIfInBounds_toArray, List.set_cons_zero, List.set_cons_succ, List.getElem_toArray, List.getElem_cons_zero, List.getElem_cons_succ]
                refine wpAnyH_done (by kernel_rfl) ?_ _
                go_wp2_with fail
                go_roundw
                case rel => exact ⟨k + 1, _, by omega, by go_num, B9, H9.out.1, H9.out.2⟩
                case measure => simp [intOf]; omega
        · obtain rfl : k = n := by omega
          obtain ⟨ao, al, ac, rfl⟩ : ∃ o l c, A = Value.slice o l c := by
            rcases hA.2 with ⟨e, _⟩ | ⟨g, c, cur, e, _⟩
            · exact ⟨_, _, _, e⟩
            · exact ⟨_, _, _, e⟩
          obtain ⟨⟨t0, t4, t6⟩, t3, t5⟩ := DC.out wr (b0.trans (bw.mono b0.size))
          obtain ⟨x0, x1, x2, x3, x4⟩ := five_cells hEr
          have Z1 := ZERO.out wr bw
          have ZH : Hid (wr.heap[w.heap.size]? = some (.cells #[.slice none 0 0, .slice none 0 0, .string ⟨#[]⟩, .slice none 0 0, .int .i64 0] 28 (0, 0))) := Z1
          obtain ⟨z0, z1, z2, z3, z4⟩ := five_cells Z1
          have zf : ∀ j, wr.frozen? ⟨w.heap.size, j, none⟩ = false := fun j => by simp [World.frozen?, Z1]
          clear Z1
          go_wp2_with fail
          go_loop [51] (fun i => i = .int .i64 0) (fun _ => 0)
          case atStart => rfl
          case round =>
            obtain rfl := hrel
            go_wp2_with fail
            have hE0 : w.heap.size < E + 1 := by have := HE.out; have := b0.size; omega
            have OA9 := ownA_five hA hE0 (.slice ao al ac) (.slice none 0 0) ⟨#[]⟩ (.slice none 0 0) 0
            have N9 := five_cells (fiveW_heap ZH.out (.slice ao al ac) (.slice none 0 0) ⟨#[]⟩ (.slice none 0 0) 0)
            have b9 : Below w.heap.size w (fiveW wr w.heap.size (.slice ao al ac) (.slice none 0 0) ⟨#[]⟩ (.slice none 0 0) 0) := fiveW_below (b0.trans (bw.mono b0.size)) (Nat.le_refl _) _ _ _ _ _
            obtain ⟨W9, hW9⟩ : ∃ W9, fiveW wr w.heap.size (.slice ao al ac) (.slice none 0 0) ⟨#[]⟩ (.slice none 0 0) 0 = W9 := ⟨_, rfl⟩
            rw [hW9] at N9 b9 OA9
            unfold fiveW at hW9
            rw [hW9]
            obtain ⟨n0, n1, n2, n3, n4⟩ := N9
            exact bodyPost_ret (v := srvV (.slice ao al ac) (.slice none 0 0) ⟨#[]⟩ (.slice none 0 0) 0) (by simp [results, Try.results34, go_sem, n0, n1, n2, n3, n4]) rfl ⟨⟨_, rfl, ownA_mono OA9 (by omega)⟩, b9⟩
  · skip
    go_simp
    rw [← HW2.out, ← HE.out]
    refine hK.out _ _ NSA.out (fun _ => ?_)
    clear hK K
    try simp only [Act.put, List.setIfInBounds_toArray, List.set_cons_zero, List.set_cons_succ, List.getElem_toArray, List.getElem_cons_zero, List.getElem_cons_succ]
    refine wpAnyH_ready (rs := [5]) (by kernel_rfl) (by simp) ?_
    refine AllReadyH.cons rfl (fun K hK => ?_) AllReadyH.nil
    go_simp
    refine (copyEntries_none _).mono ?_
    rintro e w9 ⟨rfl, rfl⟩
    go_wp2_with fail
    refine hK.out _ _ NSA.out (fun _ => ?_)
    clear hK K
    try simp only [Act.put, List.setIfInBounds_toArray, List.set_cons_zero, List.set_cons_succ, List.getElem_toArray, List.getElem_cons_zero, List.getElem_cons_succ]
    refine wpAnyH_ready (rs := [10]) (by kernel_rfl) (by simp) ?_
    refine AllReadyH.cons rfl (fun K hK => ?_) AllReadyH.nil
    go_simp
    refine (clone_empty _).mono ?_
    rintro e w9 ⟨rfl, rfl⟩
    go_wp2_with fail
    refine hK.out _ _ NSA.out (fun _ => ?_)
    clear hK K
    try simp only [Act.put, List.setIfInBounds_toArray, List.set_cons_zero, List.set_cons_succ, List.getElem_toArray, List.getElem_cons_zero, List.getElem_cons_succ]
    refine wpAnyH_take (i := 15) (v := ?_) rfl (by kernel_rfl) (by kernel_rfl) (by kernel_rfl) (fun _ _ _ h => h) (Or.inl ⟨by rfl, ?takeYn40⟩) NSA.out ?takeRn40
    case takeYn40 => (intro w hSw; (try dsimp only at hSw); go_simp; try (with_reducible rfl))
    simp only [Act.put, List.setIfInBounds_toArray, List.set_cons_zero, List.set_cons_succ, List.getElem_toArray, List.getElem_cons_zero, List.getElem_cons_succ]
    refine wpAnyH_ready (rs := [17]) (by kernel_rfl) (by simp) ?_
    refine AllReadyH.cons rfl (fun K hK => ?_) AllReadyH.nil
    go_simp
    rw [HW3.out]
    refine hK.out _ _ NSC.out (fun _ => ?_)
    clear hK K
    try simp only [Act.put, List.setIfInBounds_toArray, List.set_cons_zero, List.set_cons_succ, List.getElem_toArray, List.getElem_cons_zero, List.getElem_cons_succ]
    refine wpAnyH_done (by kernel_rfl) ?_ _
    clear NSD NSA NSC HW3 HW2 q0 q1 q2 q3 q4 fz2 hHeld d2
    have hEW : E < W3.heap.size := (Array.getElem?_eq_some_iff.1 H3.out).1
    obtain ⟨⟨t0, t4, t6⟩, t3, t5⟩ := DC.out W3 (b0.trans (d3.mono b0.size))
    go_wp2_with fail
    go_loopw [29] (fun i wr => ∃ (k : Nat) (A : Value), k ≤ n ∧ i = .int .i64 k ∧ Below W0.heap.size W0 wr ∧ wr.heap[E]? = some (.cells #[A, .slice none 0 0, .string ⟨#[]⟩, .slice none 0 0, .int .i64 0] 28 (0, 0)) ∧ OwnA wr (E + 1) A k U N) (fun i _ => n - (intOf i).toNat)
    case atStart => exact ⟨0, .slice none 0 0, Nat.zero_le _, rfl, d3, H3.out, ⟨rfl, .inl ⟨rfl, rfl⟩⟩⟩
    case round =>
      obtain ⟨k, A, hk, rfl, bw, hEr, hA⟩ := hrel
      by_cases hlt : k < n
      · skip
        obtain ⟨b, f, ho, hb, c0, c1⟩ := HC.out k hlt
        subst ho
        have i1 : (0 : Int) ≤ (k : Int) := by omega
        have i2 : (k : Int) < (n : Int) := by omega
        have hsk := HS.out k hlt
        have bw0 : Below w.heap.size w wr := b0.trans (bw.mono b0.size)
        have r0 := (bw0.cell (p := ⟨b, f + k * 2, none⟩) hb).trans c0
        have r1 := (bw0.cell (p := ⟨b, f + k * 2 + 1, none⟩) hb).trans c1
        obtain ⟨F, hF⟩ : ∃ F, F = wr.heap.size := ⟨_, rfl⟩
        obtain ⟨V, hV⟩ : ∃ V, wr.alloc (.cells #[.string (U k), .string (N k)] 43) = V := ⟨_, rfl⟩
        have bv : Below wr.heap.size wr V := by rw [← hV]; exact (Below.refl _ wr).alloc (Nat.le_refl _) _
        have hFV : V.heap[F]? = some (.cells #[.string (U k), .string (N k)] 43 (0, 0)) := by rw [← hV, hF]; exact World.alloc_heap_new wr _
        have hFl : F < V.heap.size := (Array.getElem?_eq_some_iff.1 hFV).1
        have hEl : E < wr.heap.size := (Array.getElem?_eq_some_iff.1 hEr).1
        have FS : Hid (∀ W, Below V.heap.size V W → W.cell? ⟨F, 0, none⟩ = some (.string (U k)) ∧ W.cell? ⟨F, 1, none⟩ = some (.string (N k))) := fun W bb => by
          have h9 := (bb.block F hFl).trans hFV
          simp only [World.cell?, h9]
          exact ⟨rfl, rfl⟩
        have FE : Hid (∀ W, Below V.heap.size V W → W.cell? ⟨E, 0, none⟩ = some A) := fun W bb => by
          have h9 := (bb.block E (Nat.lt_of_lt_of_le hEl bv.size)).trans ((bv.block E hEl).trans hEr)
          simp only [World.cell?, h9]
          rfl
        have FO : Hid (∀ W, Below V.heap.size V W → W.ownsRow (E + 1) 43 2 A k (accVs U N k)) := fun W bb => World.ownsRow.kept (row := none) hA ⟨(bb.os.trans bv.os), (bb.tape.trans bv.tape), (bb.output.trans bv.output), Nat.le_trans bv.size bb.size, fun q hq _ => (bb.block q (Nat.lt_of_lt_of_le hq bv.size)).trans (bv.block q hq)⟩ (Classical.em _)
        have BX0 : Below V.heap.size V V.drew := (Below.refl _ V).drew
        have HF : Hid (F = wr.heap.size) := hF
        have HFV : Hid (V.heap[F]? = some (.cells #[.string (U k), .string (N k)] 43 (0, 0))) := hFV
        have HV : Hid (wr.alloc (.cells #[.string (U k), .string (N k)] 43) = V) := hV
        clear hF hV c0 c1 hFV
        go_wp2_with fail
        rw [HV.out, ← HF.out]
        refine wp_region_held_drew (S := (fun W => W.cell? ⟨F, 0, none⟩ = some (.string (U k)) ∧ W.cell? ⟨F, 1, none⟩ = some (.string (N k)))) (by kernel_rfl) (FS.out _ BX0) (fun hHeld => ?_)
        refine wpAnyH_take (i := 0) (v := ?_) rfl (by kernel_rfl) (by kernel_rfl) (by kernel_rfl) (fun _ _ _ h => h) (Or.inl ⟨by rfl, ?takeYn41⟩) (FS.out _ BX0) ?takeRn41
        case takeYn41 => (intro w hSw; (try dsimp only at hSw); go_simp; try (with_reducible rfl))
        simp only [Act.put, List.setIfInBounds_toArray, List.set_cons_zero, List.set_cons_succ, List.getElem_toArray, List.getElem_cons_zero]
        refine wpAnyH_take (i := 2) (v := ?_) rfl (by kernel_rfl) (by kernel_rfl) (by kernel_rfl) (fun _ _ _ h => h) (Or.inl ⟨by rfl, ?takeYn42⟩) (FS.out _ BX0) ?takeRn42
        case takeYn42 => (intro w hSw; (try dsimp only at hSw); go_simp; try (with_reducible rfl))
        simp only [Act.put, List.setIfInBounds_toArray, List.set_cons_zero, List.set_cons_succ, List.getElem_toArray, List.getElem_cons_zero, List.getElem_cons_succ]
        refine wpAnyH_take (i := 3) (v := ?_) rfl (by kernel_rfl) (by kernel_rfl) (by kernel_rfl) (fun _ _ _ h => h) (Or.inl ⟨by rfl, ?takeYn43⟩) (FS.out _ BX0) ?takeRn43
        case takeYn43 => (intro w hSw; (try dsimp only at hSw); go_simp; try (with_reducible rfl))
        simp only [Act.put, List.setIfInBounds_toArray, List.set_cons_zero, List.set_cons_succ, List.getElem_toArray, List.getElem_cons_zero, List.getElem_cons_succ]
        refine wpAnyH_take (i := 5) (v := ?_) rfl (by kernel_rfl) (by kernel_rfl) (by kernel_rfl) (fun _ _ _ h => h) (Or.inl ⟨by rfl, ?takeYn44⟩) (FS.out _ BX0) ?takeRn44
        case takeYn44 => (intro w hSw; (try dsimp only at hSw); go_simp; try (with_reducible rfl))
        simp only [Act.put, List.setIfInBounds_toArray, List.set_cons_zero, List.set_cons_succ, List.getElem_toArray, List.getElem_cons_zero, List.getElem_cons_succ]
        refine wpAnyH_take (i := 6) (v := ?_) rfl (by kernel_rfl) (by kernel_rfl) (by kernel_rfl) (fun _ _ _ h => h) (Or.inl ⟨by rfl, ?takeYn45⟩) (FS.out _ BX0) ?takeRn45
        case takeYn45 => (intro w hSw; (try dsimp only at hSw); go_simp; try (with_reducible rfl))
        simp only [Act.put, List.setIfInBounds_toArray, List.set_cons_zero, List.set_cons_succ, List.getElem_toArray, List.getElem_cons_zero, List.getElem_cons_succ]
        refine wpAnyH_ready (rs := [1, 4]) (by kernel_rfl) (by simp) ?_
        refine (AllReadyH.cons rfl (fun K hK => ?_) (AllReadyH.cons rfl (fun K hK => ?_) AllReadyH.nil))
        · skip
          have cE := FE.out V.drew BX0
          go_simp
          refine hK.out _ _ (FS.out V.drew BX0) (fun _ => ?_)
          clear hK K cE
          try simp only [Act.put, List.setIfInBounds_toArray, List.set_cons_zero, List.set_cons_succ, List.getElem_toArray, List.getElem_cons_zero, List.getElem_cons_succ]
          refine wpAnyH_ready (rs := [4]) (by kernel_rfl) (by simp) ?_
          refine AllReadyH.cons rfl (fun K hK => ?_) AllReadyH.nil
          go_simp
          refine (clone_any (U k) V.drew (by omega)).mono ?_
          rintro e X1 ⟨rfl, p1⟩
          have BX1 : Below V.heap.size V X1 := BX0.trans (p1.mono BX0.size)
          go_wp2_with fail
          refine hK.out _ _ (FS.out X1 BX1) (fun _ => ?_)
          clear hK K
          try simp only [Act.put, List.setIfInBounds_toArray, List.set_cons_zero, List.set_cons_succ, List.getElem_toArray, List.getElem_cons_zero, List.getElem_cons_succ]
          refine wpAnyH_ready (rs := [7]) (by kernel_rfl) (by simp) ?_
          refine AllReadyH.cons rfl (fun K hK => ?_) AllReadyH.nil
          go_simp
          refine (clone_any (N k) X1 (by omega)).mono ?_
          rintro e X2 ⟨rfl, p2⟩
          have BX2 : Below V.heap.size V X2 := BX1.trans (p2.mono BX1.size)
          go_wp2_with fail
          refine hK.out _ _ (FS.out X2 BX2) (fun _ => ?_)
          clear hK K
          try simp only [Act.put, List.setIfInBounds_toArray, List.set_cons_zero, List.set_cons_succ, List.getElem_toArray, List.getElem_cons_zero, List.getElem_cons_succ]
          refine wpAnyH_take (i := 8) (v := ?_) rfl (by kernel_rfl) (by kernel_rfl) (by kernel_rfl) (fun _ _ _ h => h) (Or.inl ⟨by rfl, ?takeYn46⟩) (FS.out X2 BX2) ?takeRn46
          case takeYn46 => (intro w hSw; (try dsimp only at hSw); go_simp; try (with_reducible rfl))
          simp only [Act.put, List.setIfInBounds_toArray, List.set_cons_zero, List.set_cons_succ, List.getElem_toArray, List.getElem_cons_zero, List.getElem_cons_succ]
          refine wpAnyH_ready (rs := [9]) (by kernel_rfl) (by simp) ?_
          refine AllReadyH.cons rfl (fun K hK => ?_) AllReadyH.nil
          have BX3 : Below V.heap.size V (X2.alloc (.cells #[.string (U k), .string (N k)] 43)) := BX2.alloc BX2.size _
          go_simp
          refine hK.out _ _ (FS.out (X2.alloc (.cells #[.string (U k), .string (N k)] 43)) BX3) (fun _ => ?_)
          clear hK K
          try simp only [Act.put, List.setIfInBounds_toArray, List.set_cons_zero, List.set_cons_succ, List.getElem_toArray, List.getElem_cons_zero, List.getElem_cons_succ]
          refine wpAnyH_ready (rs := [10]) (by kernel_rfl) (by simp) ?_
          refine AllReadyH.cons rfl (fun K hK => ?_) AllReadyH.nil
          refine step_append_lies _ (by rfl) _ _ _ (by rfl) (E + 1) 43 i0 _ 2 32 Try.underlying24 hi0 hz0 hz1 hz2 rfl (by omega) A k (accVs U N k) (by rfl) (FO.out (X2.alloc (.cells #[.string (U k), .string (N k)] 43)) BX3) ⟨X2.heap.size, 0, none⟩ 1 1 [.string (U k), .string (N k)] (by rfl) rfl (two_new X2 (U k) (N k)) (two_one (U k) (N k)) (by omega) (by unfold maxLen; omega) (by omega) (by have := BX2.size; have := bv.size; simp; omega) (X2.heap.size + 1) (by simp) ?_
          intro gg cap8 w8 hown8 hgrow hat hlt8
          have AL := hA.lt
          have z9 := BX3.size
          have z8 := bv.size
          have z7 := HF.out
          have s8 : w8.cell? ⟨F, 0, none⟩ = some (.string (U k)) ∧ w8.cell? ⟨F, 1, none⟩ = some (.string (N k)) := by
            have h9 := (hgrow.block F (by simp at z9; simp; omega) (fun e => by have := (AL F e.symm).2; omega)).trans ((BX3.block F hFl).trans HFV.out)
            simp only [World.cell?, h9]
            exact ⟨rfl, rfl⟩
          have e8 := (hgrow.block E (by simp at z9; simp; omega) (fun e => by have := (AL E e.symm).1; omega)).trans ((BX3.block E (by omega)).trans ((bv.block E hEl).trans hEr))
          have k8 : w8.cell? ⟨E, 0, none⟩ = some A := (five_cells e8).1
          have f8 : ∀ i, w8.frozen? ⟨E, i, none⟩ = false := fun i => by simp [World.frozen?, e8]
          have S8 : Hid (w8.cell? ⟨F, 0, none⟩ = some (.string (U k)) ∧ w8.cell? ⟨F, 1, none⟩ = some (.string (N k))) := s8
          have S9 : Hid ((w8.setCell ⟨E, 0, none⟩ (.slice (some ⟨gg, 0, none⟩) (k + 1) cap8)).cell? ⟨F, 0, none⟩ = some (.string (U k)) ∧ (w8.setCell ⟨E, 0, none⟩ (.slice (some ⟨gg, 0, none⟩) (k + 1) cap8)).cell? ⟨F, 1, none⟩ = some (.string (N k))) := by
            have q : ∀ i, (w8.setCell ⟨E, 0, none⟩ (.slice (some ⟨gg, 0, none⟩) (k + 1) cap8)).cell? ⟨F, i, none⟩ = w8.cell? ⟨F, i, none⟩ := fun i => World.cell?_setCell_other _ _ _ _ (fun e => by have e9 := congrArg Addr.block e; simp at e9; omega)
            exact ⟨(q 0).trans s8.1, (q 1).trans s8.2⟩
          have B3 : Below W0.heap.size W0 (X2.alloc (.cells #[.string (U k), .string (N k)] 43)) := (bw.trans (bv.mono bw.size)).trans (BX3.mono (by have := bw.size; omega))
          have B8 : Below W0.heap.size W0 w8 := B3.grown hgrow (by have := B3.size; omega) (fun q hq => by have := (AL q hq).1; have := HE.out; omega)
          have B9 : Below W0.heap.size W0 (w8.setCell ⟨E, 0, none⟩ (.slice (some ⟨gg, 0, none⟩) (k + 1) cap8)) := B8.setCell (p := ⟨E, 0, none⟩) (by have := HE.out; show W0.heap.size ≤ E; omega) _
          have e9 := set_heap w8 E 0 _ _ _ (.slice (some ⟨gg, 0, none⟩) (k + 1) cap8) e8
          simp only [List.setIfInBounds_toArray, List.set_cons_zero] at e9
          have O9 : OwnA (w8.setCell ⟨E, 0, none⟩ (.slice (some ⟨gg, 0, none⟩) (k + 1) cap8)) (E + 1) (.slice (some ⟨gg, 0, none⟩) (k + 1) cap8) (k + 1) U N := by
            refine ownA_set ?_ (Nat.lt_succ_self E) 0 _
            unfold OwnA
            rw [accVs_succ]
            exact hown8
          have H9 : Hid (_ ∧ _) := And.intro e9 O9
          clear e9 O9 e8 hown8 hgrow s8
          refine hK.out _ _ S8.out (fun _ => ?_)
          clear hK K
          try simp only [Act.put, List.setIfInBounds_toArray, List.set_cons_zero, List.set_cons_succ, List.getElem_toArray, List.getElem_cons_zero, List.getElem_cons_succ]
          refine wpAnyH_take (i := 11) (v := ?_) rfl (by kernel_rfl) (by kernel_rfl) (by kernel_rfl) (fun _ _ _ h => h) (Or.inl ⟨by rfl, ?takeYn47⟩) S8.out ?takeRn47
          case takeYn47 => (intro w hSw; (try dsimp only at hSw); go_simp; try (with_reducible rfl))
          simp only [Act.put, List.setIfInBounds_toArray, List.set_cons_zero, List.set_cons_succ, List.getElem_toArray, List.getElem_cons_zero, List.getElem_cons_succ]
          refine wpAnyH_ready (rs := [12]) (by kernel_rfl) (by simp) ?_
          refine AllReadyH.cons rfl (fun K hK => ?_) AllReadyH.nil
          go_simp
          refine hK.out _ _ S9.out (fun _ => ?_)
          clear hK K
          try simp only [Act.put, List.setIfInBounds_toArray, List.set_cons_zero, List.set_cons_succ, List.getElem_toArray, List.getElem_cons_zero, List.getElem_cons_succ]
          refine wpAnyH_done (by kernel_rfl) ?_ _
          go_wp2_with fail
          go_roundw
          case rel => exact ⟨k + 1, _, by omega, by go_num, B9, H9.out.1, H9.out.2⟩
          case measure => simp [intOf]; omega
        · skip
          go_simp
          refine (clone_any (U k) V.drew (by omega)).mono ?_
          rintro e X1 ⟨rfl, p1⟩
          have BX1 : Below V.heap.size V X1 := BX0.trans (p1.mono BX0.size)
          go_wp2_with fail
          refine hK.out _ _ (FS.out X1 BX1) (fun _ => ?_)
          clear hK K
          try simp only [Act.put, List.setIfInBounds_toArray, List.set_cons_zero, List.set_cons_succ, List.getElem_toArray, List.getElem_cons_zero, List.getElem_cons_succ]
          refine wpAnyH_ready (rs := [1, 7]) (by kernel_rfl) (by simp) ?_
          refine (AllReadyH.cons rfl (fun K hK => ?_) (AllReadyH.cons rfl (fun K hK => ?_) AllReadyH.nil))
          · skip
            have cE := FE.out X1 BX1
            go_simp
            refine hK.out _ _ (FS.out X1 BX1) (fun _ => ?_)
            clear hK K cE
            try simp only [Act.put, List.setIfInBounds_toArray, List.set_cons_zero, List.set_cons_succ, List.getElem_toArray, List.getElem_cons_zero, List.getElem_cons_succ]
            refine wpAnyH_ready (rs := [7]) (by kernel_rfl) (by simp) ?_
            refine AllReadyH.cons rfl (fun K hK => ?_) AllReadyH.nil
            go_simp
            refine (clone_any (N k) X1 (by omega)).mono ?_
            rintro e X2 ⟨rfl, p2⟩
            have BX2 : Below V.heap.size V X2 := BX1.trans (p2.mono BX1.size)
            go_wp2_with fail
            refine hK.out _ _ (FS.out X2 BX2) (fun _ => ?_)
            clear hK K
            try simp only [Act.put, List.setIfInBounds_toArray, List.set_cons_zero, List.set_cons_succ, List.getElem_toArray, List.getElem_cons_zero, List.getElem_cons_succ]
            refine wpAnyH_take (i := 8) (v := ?_) rfl (by kernel_rfl) (by kernel_rfl) (by kernel_rfl) (fun _ _ _ h => h) (Or.inl ⟨by rfl, ?takeYn48⟩) (FS.out X2 BX2) ?takeRn48
            case takeYn48 => (intro w hSw; (try dsimp only at hSw); go_simp; try (with_reducible rfl))
            simp only [Act.put, List.setIfInBounds_toArray, List.set_cons_zero, List.set_cons_succ, List.getElem_toArray, List.getElem_cons_zero, List.getElem_cons_succ]
            refine wpAnyH_ready (rs := [9]) (by kernel_rfl) (by simp) ?_
            refine AllReadyH.cons rfl (fun K hK => ?_) AllReadyH.nil
            have BX3 : Below V.heap.size V (X2.alloc (.cells #[.string (U k), .string (N k)] 43)) := BX2.alloc BX2.size _
            go_simp
            refine hK.out _ _ (FS.out (X2.alloc (.cells #[.string (U k), .string (N k)] 43)) BX3) (fun _ => ?_)
            clear hK K
            try simp only [Act.put, List.setIfInBounds_toArray, List.set_cons_zero, List.set_cons_succ, List.getElem_toArray, List.getElem_cons_zero, List.getElem_cons_succ]
            refine wpAnyH_ready (rs := [10]) (by kernel_rfl) (by simp) ?_
            refine AllReadyH.cons rfl (fun K hK => ?_) AllReadyH.nil
            refine step_append_lies _ (by rfl) _ _ _ (by rfl) (E + 1) 43 i0 _ 2 32 Try.underlying24 hi0 hz0 hz1 hz2 rfl (by omega) A k (accVs U N k) (by rfl) (FO.out (X2.alloc (.cells #[.string (U k), .string (N k)] 43)) BX3) ⟨X2.heap.size, 0, none⟩ 1 1 [.string (U k), .string (N k)] (by rfl) rfl (two_new X2 (U k) (N k)) (two_one (U k) (N k)) (by omega) (by unfold maxLen; omega) (by omega) (by have := BX2.size; have := bv.size; simp; omega) (X2.heap.size + 1) (by simp) ?_
            intro gg cap8 w8 hown8 hgrow hat hlt8
            have AL := hA.lt
            have z9 := BX3.size
            have z8 := bv.size
            have z7 := HF.out
            have s8 : w8.cell? ⟨F, 0, none⟩ = some (.string (U k)) ∧ w8.cell? ⟨F, 1, none⟩ = some (.string (N k)) := by
              have h9 := (hgrow.block F (by simp at z9; simp; omega) (fun e => by have := (AL F e.symm).2; omega)).trans ((BX3.block F hFl).trans HFV.out)
              simp only [World.cell?, h9]
              exact ⟨rfl, rfl⟩
            have e8 := (hgrow.block E (by simp at z9; simp; omega) (fun e => by have := (AL E e.symm).1; omega)).trans ((BX3.block E (by omega)).trans ((bv.block E hEl).trans hEr))
            have k8 : w8.cell? ⟨E, 0, none⟩ = some A := (five_cells e8).1
            have f8 : ∀ i, w8.frozen? ⟨E, i, none⟩ = false := fun i => by simp [World.frozen?, e8]
            have S8 : Hid (w8.cell? ⟨F, 0, none⟩ = some (.string (U k)) ∧ w8.cell? ⟨F, 1, none⟩ = some (.string (N k))) := s8
            have S9 : Hid ((w8.setCell ⟨E, 0, none⟩ (.slice (some ⟨gg, 0, none⟩) (k + 1) cap8)).cell? ⟨F, 0, none⟩ = some (.string (U k)) ∧ (w8.setCell ⟨E, 0, none⟩ (.slice (some ⟨gg, 0, none⟩) (k + 1) cap8)).cell? ⟨F, 1, none⟩ = some (.string (N k))) := by
              have q : ∀ i, (w8.setCell ⟨E, 0, none⟩ (.slice (some ⟨gg, 0, none⟩) (k + 1) cap8)).cell? ⟨F, i, none⟩ = w8.cell? ⟨F, i, none⟩ := fun i => World.cell?_setCell_other _ _ _ _ (fun e => by have e9 := congrArg Addr.block e; simp at e9; omega)
              exact ⟨(q 0).trans s8.1, (q 1).trans s8.2⟩
            have B3 : Below W0.heap.size W0 (X2.alloc (.cells #[.string (U k), .string (N k)] 43)) := (bw.trans (bv.mono bw.size)).trans (BX3.mono (by have := bw.size; omega))
            have B8 : Below W0.heap.size W0 w8 := B3.grown hgrow (by have := B3.size; omega) (fun q hq => by have := (AL q hq).1; have := HE.out; omega)
            have B9 : Below W0.heap.size W0 (w8.setCell ⟨E, 0, none⟩ (.slice (some ⟨gg, 0, none⟩) (k + 1) cap8)) := B8.setCell (p := ⟨E, 0, none⟩) (by have := HE.out; show W0.heap.size ≤ E; omega) _
            have e9 := set_heap w8 E 0 _ _ _ (.slice (some ⟨gg, 0, none⟩) (k + 1) cap8) e8
            simp only [List.setIfInBounds_toArray, List.set_cons_zero] at e9
            have O9 : OwnA (w8.setCell ⟨E, 0, none⟩ (.slice (some ⟨gg, 0, none⟩) (k + 1) cap8)) (E + 1) (.slice (some ⟨gg, 0, none⟩) (k + 1) cap8) (k + 1) U N := by
              refine ownA_set ?_ (Nat.lt_succ_self E) 0 _
              unfold OwnA
              rw [accVs_succ]
              exact hown8
            have H9 : Hid (_ ∧ _) := And.intro e9 O9
            clear e9 O9 e8 hown8 hgrow s8
            refine hK.out _ _ S8.out (fun _ => ?_)
            clear hK K
            try simp only [Act.put, List.setIfInBounds_toArray, List.set_cons_zero, List.set_cons_succ, List.getElem_toArray, List.getElem_cons_zero, List.getElem_cons_succ]
            refine wpAnyH_take (i := 11) (v := ?_) rfl (by kernel_rfl) (by kernel_rfl) (by kernel_rfl) (fun _ _ _ h => h) (Or.inl ⟨by rfl, ?takeYn49⟩) S8.out ?takeRn49
            case takeYn49 => (intro w hSw; (try dsimp only at hSw); go_simp; try (with_reducible rfl))
            simp only [Act.put, List.setIfInBounds_toArray, List.set_cons_zero, List.set_cons_succ, List.getElem_toArray, List.getElem_cons_zero, List.getElem_cons_succ]
            refine wpAnyH_ready (rs := [12]) (by kernel_rfl) (by simp) ?_
            refine AllReadyH.cons rfl (fun K hK => ?_) AllReadyH.nil
            go_simp
            refine hK.out _ _ S9.out (fun _ => ?_)
            clear hK K
            try simp only [Act.put, List.setIfInBounds_toArray, List.set_cons_zero, List.set_cons_succ, List.getElem_toArray, List.getElem_cons_zero, List.getElem_cons_succ]
            refine wpAnyH_done (by kernel_rfl) ?_ _
            go_wp2_with fail
            go_roundw
            case rel => exact ⟨k + 1, _, by omega, by go_num, B9, H9.out.1, H9.out.2⟩
            case measure => simp [intOf]; omega
          · skip
            go_simp
            refine (clone_any (N k) X1 (by omega)).mono ?_
            rintro e X2 ⟨rfl, p2⟩
            have BX2 : Below V.heap.size V X2 := BX1.trans (p2.mono BX1.size)
            go_wp2_with fail
            refine hK.out _ _ (FS.out X2 BX2) (fun _ => ?_)
            clear hK K
            try simp only [Act.put, List.setIfInBounds_toArray, List.set_cons_zero, List.set_cons_succ, List.getElem_toArray, List.getElem_cons_zero, List.getElem_cons_succ]
            refine wpAnyH_take (i := 8) (v := ?_) rfl (by kernel_rfl) (by kernel_rfl) (by kernel_rfl) (fun _ _ _ h => h) (Or.inl ⟨by rfl, ?takeYn50⟩) (FS.out X2 BX2) ?takeRn50
            case takeYn50 => (intro w hSw; (try dsimp only at hSw); go_simp; try (with_reducible rfl))
            simp only [Act.put, List.setIfInBounds_toArray, List.set_cons_zero, List.set_cons_succ, List.getElem_toArray, List.getElem_cons_zero, List.getElem_cons_succ]
            refine wpAnyH_ready (rs := [1, 9]) (by kernel_rfl) (by simp) ?_
            refine (AllReadyH.cons rfl (fun K hK => ?_) (AllReadyH.cons rfl (fun K hK => ?_) AllReadyH.nil))
            · skip
              have cE := FE.out X2 BX2
              go_simp
              refine hK.out _ _ (FS.out X2 BX2) (fun _ => ?_)
              clear hK K cE
              try simp only [Act.put, List.setIfInBounds_toArray, List.set_cons_zero, List.set_cons_succ, List.getElem_toArray, List.getElem_cons_zero, List.getElem_cons_succ]
              refine wpAnyH_ready (rs := [9]) (by kernel_rfl) (by simp) ?_
              refine AllReadyH.cons rfl (fun K hK => ?_) AllReadyH.nil
              have BX3 : Below V.heap.size V (X2.alloc (.cells #[.string (U k), .string (N k)] 43)) := BX2.alloc BX2.size _
              go_simp
              refine hK.out _ _ (FS.out (X2.alloc (.cells #[.string (U k), .string (N k)] 43)) BX3) (fun _ => ?_)
              clear hK K
              try simp only [Act.put, List.setIfInBounds_toArray, List.set_cons_zero, List.set_cons_succ, List.getElem_toArray, List.getElem_cons_zero, List.getElem_cons_succ]
              refine wpAnyH_ready (rs := [10]) (by kernel_rfl) (by simp) ?_
              refine AllReadyH.cons rfl (fun K hK => ?_) AllReadyH.nil
              refine step_append_lies _ (by rfl) _ _ _ (by rfl) (E + 1) 43 i0 _ 2 32 Try.underlying24 hi0 hz0 hz1 hz2 rfl (by omega) A k (accVs U N k) (by rfl) (FO.out (X2.alloc (.cells #[.string (U k), .string (N k)] 43)) BX3) ⟨X2.heap.size, 0, none⟩ 1 1 [.string (U k), .string (N k)] (by rfl) rfl (two_new X2 (U k) (N k)) (two_one (U k) (N k)) (by omega) (by unfold maxLen; omega) (by omega) (by have := BX2.size; have := bv.size; simp; omega) (X2.heap.size + 1) (by simp) ?_
              intro gg cap8 w8 hown8 hgrow hat hlt8
              have AL := hA.lt
              have z9 := BX3.size
              have z8 := bv.size
              have z7 := HF.out
              have s8 : w8.cell? ⟨F, 0, none⟩ = some (.string (U k)) ∧ w8.cell? ⟨F, 1, none⟩ = some (.string (N k)) := by
                have h9 := (hgrow.block F (by simp at z9; simp; omega) (fun e => by have := (AL F e.symm).2; omega)).trans ((BX3.block F hFl).trans HFV.out)
                simp only [World.cell?, h9]
                exact ⟨rfl, rfl⟩
              have e8 := (hgrow.block E (by simp at z9; simp; omega) (fun e => by have := (AL E e.symm).1; omega)).trans ((BX3.block E (by omega)).trans ((bv.block E hEl).trans hEr))
              have k8 : w8.cell? ⟨E, 0, none⟩ = some A := (five_cells e8).1
              have f8 : ∀ i, w8.frozen? ⟨E, i, none⟩ = false := fun i => by simp [World.frozen?, e8]
              have S8 : Hid (w8.cell? ⟨F, 0, none⟩ = some (.string (U k)) ∧ w8.cell? ⟨F, 1, none⟩ = some (.string (N k))) := s8
              have S9 : Hid ((w8.setCell ⟨E, 0, none⟩ (.slice (some ⟨gg, 0, none⟩) (k + 1) cap8)).cell? ⟨F, 0, none⟩ = some (.string (U k)) ∧ (w8.setCell ⟨E, 0, none⟩ (.slice (some ⟨gg, 0, none⟩) (k + 1) cap8)).cell? ⟨F, 1, none⟩ = some (.string (N k))) := by
                have q : ∀ i, (w8.setCell ⟨E, 0, none⟩ (.slice (some ⟨gg, 0, none⟩) (k + 1) cap8)).cell? ⟨F, i, none⟩ = w8.cell? ⟨F, i, none⟩ := fun i => World.cell?_setCell_other _ _ _ _ (fun e => by have e9 := congrArg Addr.block e; simp at e9; omega)
                exact ⟨(q 0).trans s8.1, (q 1).trans s8.2⟩
              have B3 : Below W0.heap.size W0 (X2.alloc (.cells #[.string (U k), .string (N k)] 43)) := (bw.trans (bv.mono bw.size)).trans (BX3.mono (by have := bw.size; omega))
              have B8 : Below W0.heap.size W0 w8 := B3.grown hgrow (by have := B3.size; omega) (fun q hq => by have := (AL q hq).1; have := HE.out; omega)
              have B9 : Below W0.heap.size W0 (w8.setCell ⟨E, 0, none⟩ (.slice (some ⟨gg, 0, none⟩) (k + 1) cap8)) := B8.setCell (p := ⟨E, 0, none⟩) (by have := HE.out; show W0.heap.size ≤ E; omega) _
              have e9 := set_heap w8 E 0 _ _ _ (.slice (some ⟨gg, 0, none⟩) (k + 1) cap8) e8
              simp only [List.setIfInBounds_toArray, List.set_cons_zero] at e9
              have O9 : OwnA (w8.setCell ⟨E, 0, none⟩ (.slice (some ⟨gg, 0, none⟩) (k + 1) cap8)) (E + 1) (.slice (some ⟨gg, 0, none⟩) (k + 1) cap8) (k + 1) U N := by
                refine ownA_set ?_ (Nat.lt_succ_self E) 0 _
                unfold OwnA
                rw [accVs_succ]
                exact hown8
              have H9 : Hid (_ ∧ _) := And.intro e9 O9
              clear e9 O9 e8 hown8 hgrow s8
              refine hK.out _ _ S8.out (fun _ => ?_)
              clear hK K
              try simp only [Act.put, List.setIfInBounds_toArray, List.set_cons_zero, List.set_cons_succ, List.getElem_toArray, List.getElem_cons_zero, List.getElem_cons_succ]
              refine wpAnyH_take (i := 11) (v := ?_) rfl (by kernel_rfl) (by kernel_rfl) (by kernel_rfl) (fun _ _ _ h => h) (Or.inl ⟨by rfl, ?takeYn51⟩) S8.out ?takeRn51
              case takeYn51 => (intro w hSw; (try dsimp only at hSw); go_simp; try (with_reducible rfl))
              simp only [Act.put, List.setIfInBounds_toArray, List.set_cons_zero, List.set_cons_succ, List.getElem_toArray, List.getElem_cons_zero, List.getElem_cons_succ]
              refine wpAnyH_ready (rs := [12]) (by kernel_rfl) (by simp) ?_
              refine AllReadyH.cons rfl (fun K hK => ?_) AllReadyH.nil
              go_simp
              refine hK.out _ _ S9.out (fun _ => ?_)
              clear hK K
              try simp only [Act.put, List.setIfInBounds_toArray, List.set_cons_zero, List.set_cons_succ, List.getElem_toArray, List.getElem_cons_zero, List.getElem_cons_succ]
              refine wpAnyH_done (by kernel_rfl) ?_ _
              go_wp2_with fail
              go_roundw
              case rel => exact ⟨k + 1, _, by omega, by go_num, B9, H9.out.1, H9.out.2⟩
              case measure => simp [intOf]; omega
            · skip
              have BX3 : Below V.heap.size V (X2.alloc (.cells #[.string (U k), .string (N k)] 43)) := BX2.alloc BX2.size _
              go_simp
              refine hK.out _ _ (FS.out (X2.alloc (.cells #[.string (U k), .string (N k)] 43)) BX3) (fun _ => ?_)
              clear hK K
              try simp only [Act.put, List.setIfInBounds_toArray, List.set_cons_zero, List.set_cons_succ, List.getElem_toArray, List.getElem_cons_zero, List.getElem_cons_succ]
              refine wpAnyH_ready (rs := [1]) (by kernel_rfl) (by simp) ?_
              refine AllReadyH.cons rfl (fun K hK => ?_) AllReadyH.nil
              have cE := FE.out (X2.alloc (.cells #[.string (U k), .string (N k)] 43)) BX3
              go_simp
              refine hK.out _ _ (FS.out (X2.alloc (.cells #[.string (U k), .string (N k)] 43)) BX3) (fun _ => ?_)
              clear hK K cE
              try simp only [Act.put, List.setIfInBounds_toArray, List.set_cons_zero, List.set_cons_succ, List.getElem_toArray, List.getElem_cons_zero, List.getElem_cons_succ]
              refine wpAnyH_ready (rs := [10]) (by kernel_rfl) (by simp) ?_
              refine AllReadyH.cons rfl (fun K hK => ?_) AllReadyH.nil
              refine step_append_lies _ (by rfl) _ _ _ (by rfl) (E + 1) 43 i0 _ 2 32 Try.underlying24 hi0 hz0 hz1 hz2 rfl (by omega) A k (accVs U N k) (by rfl) (FO.out (X2.alloc (.cells #[.string (U k), .string (N k)] 43)) BX3) ⟨X2.heap.size, 0, none⟩ 1 1 [.string (U k), .string (N k)] (by rfl) rfl (two_new X2 (U k) (N k)) (two_one (U k) (N k)) (by omega) (by unfold maxLen; omega) (by omega) (by have := BX2.size; have := bv.size; simp; omega) (X2.heap.size + 1) (by simp) ?_
              intro gg cap8 w8 hown8 hgrow hat hlt8
              have AL := hA.lt
              have z9 := BX3.size
              have z8 := bv.size
              have z7 := HF.out
              have s8 : w8.cell? ⟨F, 0, none⟩ = some (.string (U k)) ∧ w8.cell? ⟨F, 1, none⟩ = some (.string (N k)) := by
                have h9 := (hgrow.block F (by simp at z9; simp; omega) (fun e => by have := (AL F e.symm).2; omega)).trans ((BX3.block F hFl).trans HFV.out)
                simp only [World.cell?, h9]
                exact ⟨rfl, rfl⟩
              have e8 := (hgrow.block E (by simp at z9; simp; omega) (fun e => by have := (AL E e.symm).1; omega)).trans ((BX3.block E (by omega)).trans ((bv.block E hEl).trans hEr))
              have k8 : w8.cell? ⟨E, 0, none⟩ = some A := (five_cells e8).1
              have f8 : ∀ i, w8.frozen? ⟨E, i, none⟩ = false := fun i => by simp [World.frozen?, e8]
              have S8 : Hid (w8.cell? ⟨F, 0, none⟩ = some (.string (U k)) ∧ w8.cell? ⟨F, 1, none⟩ = some (.string (N k))) := s8
              have S9 : Hid ((w8.setCell ⟨E, 0, none⟩ (.slice (some ⟨gg, 0, none⟩) (k + 1) cap8)).cell? ⟨F, 0, none⟩ = some (.string (U k)) ∧ (w8.setCell ⟨E, 0, none⟩ (.slice (some ⟨gg, 0, none⟩) (k + 1) cap8)).cell? ⟨F, 1, none⟩ = some (.string (N k))) := by
                have q : ∀ i, (w8.setCell ⟨E, 0, none⟩ (.slice (some ⟨gg, 0, none⟩) (k + 1) cap8)).cell? ⟨F, i, none⟩ = w8.cell? ⟨F, i, none⟩ := fun i => World.cell?_setCell_other _ _ _ _ (fun e => by have e9 := congrArg Addr.block e; simp at e9; omega)
                exact ⟨(q 0).trans s8.1, (q 1).trans s8.2⟩
              have B3 : Below W0.heap.size W0 (X2.alloc (.cells #[.string (U k), .string (N k)] 43)) := (bw.trans (bv.mono bw.size)).trans (BX3.mono (by have := bw.size; omega))
              have B8 : Below W0.heap.size W0 w8 := B3.grown hgrow (by have := B3.size; omega) (fun q hq => by have := (AL q hq).1; have := HE.out; omega)
              have B9 : Below W0.heap.size W0 (w8.setCell ⟨E, 0, none⟩ (.slice (some ⟨gg, 0, none⟩) (k + 1) cap8)) := B8.setCell (p := ⟨E, 0, none⟩) (by have := HE.out; show W0.heap.size ≤ E; omega) _
              have e9 := set_heap w8 E 0 _ _ _ (.slice (some ⟨gg, 0, none⟩) (k + 1) cap8) e8
              simp only [List.setIfInBounds_toArray, List.set_cons_zero] at e9
              have O9 : OwnA (w8.setCell ⟨E, 0, none⟩ (.slice (some ⟨gg, 0, none⟩) (k + 1) cap8)) (E + 1) (.slice (some ⟨gg, 0, none⟩) (k + 1) cap8) (k + 1) U N := by
                refine ownA_set ?_ (Nat.lt_succ_self E) 0 _
                unfold OwnA
                rw [accVs_succ]
                exact hown8
              have H9 : Hid (_ ∧ _) := And.intro e9 O9
              clear e9 O9 e8 hown8 hgrow s8
              refine hK.out _ _ S8.out (fun _ => ?_)
              clear hK K
              try simp only [Act.put, List.setIfInBounds_toArray, List.set_cons_zero, List.set_cons_succ, List.getElem_toArray, List.getElem_cons_zero, List.getElem_cons_succ]
              refine wpAnyH_take (i := 11) (v := ?_) rfl (by kernel_rfl) (by kernel_rfl) (by kernel_rfl) (fun _ _ _ h => h) (Or.inl ⟨by rfl, ?takeYn52⟩) S8.out ?takeRn52
              case takeYn52 => (intro w hSw; (try dsimp only at hSw); go_simp; try (with_reducible rfl))
              simp only [Act.put, List.setIfInBounds_toArray, List.set_cons_zero, List.set_cons_succ, List.getElem_toArray, List.getElem_cons_zero, List.getElem_cons_succ]
              refine wpAnyH_ready (rs := [12]) (by kernel_rfl) (by simp) ?_
              refine AllReadyH.cons rfl (fun K hK => ?_) AllReadyH.nil
              go_simp
              refine hK.out _ _ S9.out (fun _ => ?_)
              clear hK K
              try simp only [Act.put, List.setIfInBounds_toArray, List.set_cons_zero, List.set_cons_succ, List.getElem_toArray, List.getElem_cons_zero, List.getElem_cons_succ]
              refine wpAnyH_done (by kernel_rfl) ?_ _
              go_wp2_with fail
              go_roundw
              case rel => exact ⟨k + 1, _, by omega, by go_num, B9, H9.out.1, H9.out.2⟩
              case measure => simp [intOf]; omega
      · obtain rfl : k = n := by omega
        obtain ⟨ao, al, ac, rfl⟩ : ∃ o l c, A = Value.slice o l c := by
          rcases hA.2 with ⟨e, _⟩ | ⟨g, c, cur, e, _⟩
          · exact ⟨_, _, _, e⟩
          · exact ⟨_, _, _, e⟩
        obtain ⟨⟨t0, t4, t6⟩, t3, t5⟩ := DC.out wr (b0.trans (bw.mono b0.size))
        obtain ⟨x0, x1, x2, x3, x4⟩ := five_cells hEr
        have Z1 := ZERO.out wr bw
        have ZH : Hid (wr.heap[w.heap.size]? = some (.cells #[.slice none 0 0, .slice none 0 0, .string ⟨#[]⟩, .slice none 0 0, .int .i64 0] 28 (0, 0))) := Z1
        obtain ⟨z0, z1, z2, z3, z4⟩ := five_cells Z1
        have zf : ∀ j, wr.frozen? ⟨w.heap.size, j, none⟩ = false := fun j => by simp [World.frozen?, Z1]
        clear Z1
        go_wp2_with fail
        go_loop [51] (fun i => i = .int .i64 0) (fun _ => 0)
        case atStart => rfl
        case round =>
          obtain rfl := hrel
          go_wp2_with fail
          have hE0 : w.heap.size < E + 1 := by have := HE.out; have := b0.size; omega
          have OA9 := ownA_five hA hE0 (.slice ao al ac) (.slice none 0 0) ⟨#[]⟩ (.slice none 0 0) 0
          have N9 := five_cells (fiveW_heap ZH.out (.slice ao al ac) (.slice none 0 0) ⟨#[]⟩ (.slice none 0 0) 0)
          have b9 : Below w.heap.size w (fiveW wr w.heap.size (.slice ao al ac) (.slice none 0 0) ⟨#[]⟩ (.slice none 0 0) 0) := fiveW_below (b0.trans (bw.mono b0.size)) (Nat.le_refl _) _ _ _ _ _
          obtain ⟨W9, hW9⟩ : ∃ W9, fiveW wr w.heap.size (.slice ao al ac) (.slice none 0 0) ⟨#[]⟩ (.slice none 0 0) 0 = W9 := ⟨_, rfl⟩
          rw [hW9] at N9 b9 OA9
          unfold fiveW at hW9
          rw [hW9]
          obtain ⟨n0, n1, n2, n3, n4⟩ := N9
          exact bodyPost_ret (v := srvV (.slice ao al ac) (.slice none 0 0) ⟨#[]⟩ (.slice none 0 0) 0) (by simp [results, Try.results34, go_sem, n0, n1, n2, n3, n4]) rfl ⟨⟨_, rfl, ownA_mono OA9 (by omega)⟩, b9⟩
end Go.Proofs.Ytkfdggcccegmlaa.Hub
