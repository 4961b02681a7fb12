/-
  impl.ServerNew; the law's markServer and heldServer.
-/
import Derived.Test.YtkfdggcccegmlaaNewI
import Derived.Test.YtkfdggcccegmlaaSrvEq
namespace Go.Proofs.Ytkfdggcccegmlaa.Hub
open Go.RowKit
set_option linter.unusedVariables false

set_option maxRecDepth 100000 in
set_option maxHeartbeats 4000000 in
theorem implNew_any (v : Value) (n : Nat) (U N : Nat → ByteArray) (w : World) (hm : AccAt w v n U N) (hs : ∀ j, j < n → (U j).size ≤ 1048576 ∧ (N j).size ≤ 1048576) (hn : n ≤ 1048576) :
    Calls Try.prog 18 #[v] w fun e w' => (∃ a, e = .returned (srvV a (.slice none 0 0) ⟨#[]⟩ (.slice none 0 0) 0) ∧ ((accsT n U N = true ∧ OwnA w' w.heap.size a n U N) ∨ (accsT n U N = false ∧ a = .slice none 0 0))) ∧ Below w.heap.size w w' := by
  have ZERO := srv_zero w
  obtain ⟨W0, hW0⟩ : ∃ W0, W0 = w.alloc (.cells #[.slice none 0 0, .slice none 0 0, .string ⟨#[]⟩, .slice none 0 0, .int .i64 0] 28) := ⟨_, rfl⟩
  rw [← hW0] at ZERO
  have b0 : Below w.heap.size w W0 := by rw [hW0]; exact (Below.refl _ w).alloc (Nat.le_refl _) _
  have h0 : w.heap.size < W0.heap.size := by rw [hW0]; simp
  have cO := accountsOk_any v n U N W0 (hm.below b0) hs hn
  obtain ⟨T, hT⟩ : ∃ T, accsT n U N = T := ⟨_, rfl⟩
  rw [hT] at cO ⊢
  cases T
  · obtain ⟨o, cap, rfl, -⟩ := hm
    clear hT
    go_enter Try.func18, Try.ntmps18
    go_wp2_with (go_at_call 17; rw [← hW0]; go_fit cO; rintro e w1 ⟨rfl, b1⟩; have Z1 := ZERO.out w1 b1; have ZH : Hid (w1.heap[w.heap.size]? = some (.cells #[.slice none 0 0, .slice none 0 0, .string ⟨#[]⟩, .slice none 0 0, .int .i64 0] 28 (0, 0))) := Z1; obtain ⟨z0, z1, z2, z3, z4⟩ := five_cells Z1; have zf : ∀ j, w1.frozen? ⟨w.heap.size, j, none⟩ = false := (fun j => (by simp [World.frozen?, Z1])); clear Z1)
    obtain ⟨W9, hW9⟩ : ∃ W9, fiveW w1 w.heap.size (.slice none 0 0) (.slice none 0 0) ⟨#[]⟩ (.slice none 0 0) 0 = W9 := ⟨_, rfl⟩
    have N9 := five_cells (fiveW_heap ZH.out (.slice none 0 0) (.slice none 0 0) ⟨#[]⟩ (.slice none 0 0) 0)
    have b9 : Below w.heap.size w (fiveW w1 w.heap.size (.slice none 0 0) (.slice none 0 0) ⟨#[]⟩ (.slice none 0 0) 0) := fiveW_below (b0.trans (b1.mono b0.size)) (Nat.le_refl _) _ _ _ _ _
    rw [hW9] at N9 b9
    unfold fiveW at hW9
    rw [hW9]
    obtain ⟨n0, n1, n2, n3, n4⟩ := N9
    exact bodyPost_ret (v := srvV (.slice none 0 0) (.slice none 0 0) ⟨#[]⟩ (.slice none 0 0) 0) (by simp [results, Try.results18, go_sem, n0, n1, n2, n3, n4]) rfl ⟨⟨_, rfl, .inr ⟨by first | trivial | rfl, rfl⟩⟩, b9⟩
  · have hn4 : n ≤ 4 := by
      unfold accsT inI at hT
      simp only [Bool.and_eq_true, decide_eq_true_eq] at hT
      omega
    clear hT
    have hm' := hm
    obtain ⟨o, cap, rfl, -⟩ := hm'
    have cS : Hid (∀ (D : Nat) (W : World), Below w.heap.size w W → W.heap[D]? = some (.cells #[.slice none 0 0, .slice none 0 0, .int .i64 0, .slice o n cap, .string ⟨#[]⟩, .slice none 0 0, .int .i64 0, .nilFunc] 64 (0, 0)) → Calls Try.prog 34 #[.pointer (some ⟨D, 0, none⟩)] W fun e w' => (∃ a, e = .returned (srvV a (.slice none 0 0) ⟨#[]⟩ (.slice none 0 0) 0) ∧ OwnA w' W.heap.size a n U N) ∧ Below W.heap.size W w') := fun D W bb hD => server_any D _ n U N W hD (hm.below bb) hs hn4
    clear hm
    have hst : ∀ (a : Addr) (w : World) (m : Mode), (store a .nilFunc m).run Try.prog w = stored Try.prog w a .nilFunc m := fun a w m => run_store Try.prog w a .nilFunc m rfl
    go_enter Try.func18, Try.ntmps18
    go_wp2_with first
      | (go_at_call 34; rw [HV.out]; refine (cS.out w1.heap.size V BV HD.out).mono ?_; rintro e w5 ⟨⟨a, rfl, hOA⟩, b5⟩; obtain ⟨ao, al, ac, rfl⟩ : ∃ o l c, a = Value.slice o l c := (by rcases hOA.2 with ⟨e, _⟩ | ⟨g, c, cur, e, _⟩; exact ⟨_, _, _, e⟩; exact ⟨_, _, _, e⟩); have Z5 := ZERO.out w5 (b1.trans ((dv.trans (b5.mono dv.size)).mono b1.size)); have ZH : Hid (w5.heap[w.heap.size]? = some (.cells #[.slice none 0 0, .slice none 0 0, .string ⟨#[]⟩, .slice none 0 0, .int .i64 0] 28 (0, 0))) := Z5; obtain ⟨z0, z1, z2, z3, z4⟩ := five_cells Z5; have zf : ∀ j, w5.frozen? ⟨w.heap.size, j, none⟩ = false := (fun j => (by simp [World.frozen?, Z5])); clear Z5)
      | (go_at_call 17; rw [← hW0]; go_fit cO; rintro e w1 ⟨rfl, b1⟩; obtain ⟨V, hV⟩ : ∃ V, w1.alloc (.cells #[.slice none 0 0, .slice none 0 0, .int .i64 0, .slice o n cap, .string ⟨#[]⟩, .slice none 0 0, .int .i64 0, .nilFunc] 64) = V := ⟨_, rfl⟩; have dv : Below w1.heap.size w1 V := (by rw [← hV]; exact (Below.refl _ w1).alloc (Nat.le_refl _) _); have BV : Below w.heap.size w V := b0.trans ((b1.trans (dv.mono b1.size)).mono b0.size); have HD : Hid (V.heap[w1.heap.size]? = some (.cells #[.slice none 0 0, .slice none 0 0, .int .i64 0, .slice o n cap, .string ⟨#[]⟩, .slice none 0 0, .int .i64 0, .nilFunc] 64 (0, 0))) := (by rw [← hV]; exact World.alloc_heap_new w1 _); have HV : Hid (w1.alloc (.cells #[.slice none 0 0, .slice none 0 0, .int .i64 0, .slice o n cap, .string ⟨#[]⟩, .slice none 0 0, .int .i64 0, .nilFunc] 64) = V) := hV; clear hV)
    have hlt9 : w.heap.size < V.heap.size := by have := b1.size; have := dv.size; omega
    have OA9 := ownA_five hOA hlt9 (.slice ao al ac) (.slice none 0 0) ⟨#[]⟩ (.slice none 0 0) 0
    have N9 := five_cells (fiveW_heap ZH.out (.slice ao al ac) (.slice none 0 0) ⟨#[]⟩ (.slice none 0 0) 0)
    have b9 : Below w.heap.size w (fiveW w5 w.heap.size (.slice ao al ac) (.slice none 0 0) ⟨#[]⟩ (.slice none 0 0) 0) := fiveW_below (BV.trans (b5.mono BV.size)) (Nat.le_refl _) _ _ _ _ _
    obtain ⟨W9, hW9⟩ : ∃ W9, fiveW w5 w.heap.size (.slice ao al ac) (.slice none 0 0) ⟨#[]⟩ (.slice none 0 0) 0 = W9 := ⟨_, rfl⟩
    rw [hW9] at N9 b9 OA9
    unfold fiveW at hW9
    rw [hW9]
    obtain ⟨n0, n1, n2, n3, n4⟩ := N9
    exact bodyPost_ret (v := srvV (.slice ao al ac) (.slice none 0 0) ⟨#[]⟩ (.slice none 0 0) 0) (by simp [results, Try.results18, go_sem, n0, n1, n2, n3, n4]) rfl ⟨⟨_, rfl, .inl ⟨by first | trivial | rfl, ownA_mono OA9 (Nat.le_of_lt hlt9)⟩⟩, b9⟩

set_option maxRecDepth 100000 in
set_option maxHeartbeats 2000000 in
theorem markServer_any (base : Nat) (a : Value) (n : Nat) (U N : Nat → ByteArray) (w : World) (hm : OwnA w base a n U N) (hn : n ≤ 1048600) :
    Calls Try.prog 23 #[srvV a (.slice none 0 0) ⟨#[]⟩ (.slice none 0 0) 0, .int .i64 1] w fun e w' => e = .returned (.int .i64 ((1 + 2 * n : Nat) : Int)) ∧ OwnA w' base a n (fun j => markT (1 + 2 * j)) (fun j => markT (1 + 2 * j + 1)) ∧ w.grownBy w' a.ownBlock := by
  obtain ⟨ao, al, ac, rfl⟩ : ∃ o l c, a = Value.slice o l c := by
    rcases hm.2 with ⟨e, _⟩ | ⟨g, c, cur, e, _⟩
    · exact ⟨_, _, _, e⟩
    · exact ⟨_, _, _, e⟩
  obtain ⟨W1, hW1⟩ : ∃ W1, w.alloc (.cells #[.slice ao al ac, .slice none 0 0, .string ⟨#[]⟩, .slice none 0 0, .int .i64 0] 28) = W1 := ⟨_, rfl⟩
  have hm1 : OwnA W1 base (.slice ao al ac) n U N := by rw [← hW1]; exact World.ownsRow.alloc hm _
  have cA := markAccountS_any base (.slice ao al ac) n 1 U N W1 hm1 hn (by omega)
  have e1 : W1.heap[w.heap.size]? = some (.cells #[.slice ao al ac, .slice none 0 0, .string ⟨#[]⟩, .slice none 0 0, .int .i64 0] 28 (0, 0)) := by rw [← hW1]; exact World.alloc_heap_new w _
  have AL := World.ownsRow.lt hm
  obtain ⟨u0, u1, u2, u3, u4⟩ := five_cells e1
  go_enter Try.func23, Try.ntmps23
  go_wp2_with first
    | (go_at_call 39; refine (markSessS_none _ _).mono ?_; rintro e w9 ⟨rfl, rfl⟩)
    | (go_at_call 38; refine (markEntryS_none _ _).mono ?_; rintro e w9 ⟨rfl, rfl⟩)
    | (go_at_call 10; (try rw [hW1]); go_fit cA; rintro e w2 ⟨rfl, o2, g2⟩; have e2 := (g2.block w.heap.size (by rw [← hW1]; simp) (fun e => by have := (AL _ e.symm).2; omega)).trans e1; obtain ⟨x0, x1, x2, x3, x4⟩ := five_cells e2)
  go_ret
  have b1 : Below w.heap.size w W1 := by rw [← hW1]; exact (Below.refl _ w).alloc (Nat.le_refl _) _
  exact ⟨rfl, o2, ⟨g2.os.trans b1.os, g2.tape.trans b1.tape, g2.output.trans b1.output, Nat.le_trans b1.size g2.size, fun q hq hne => (g2.block q (Nat.lt_of_lt_of_le hq b1.size) hne).trans (b1.block q hq)⟩⟩

set_option maxRecDepth 100000 in
set_option maxHeartbeats 2000000 in
theorem heldServer_any (a : Value) (n : Nat) (w : World) (hm : AccAt w a n (fun j => markT (1 + 2 * j)) (fun j => markT (1 + 2 * j + 1))) (hn : n ≤ 1048600) :
    Calls Try.prog 25 #[srvV a (.slice none 0 0) ⟨#[]⟩ (.slice none 0 0) 0, .int .i64 1] w fun e w' => e = .returned (.int .i64 ((1 + 2 * n : Nat) : Int)) ∧ Below w.heap.size w w' := by
  have hm' := hm
  obtain ⟨ao, ac, rfl, -⟩ := hm'
  obtain ⟨W1, hW1⟩ : ∃ W1, w.alloc (.cells #[.slice ao n ac, .slice none 0 0, .string ⟨#[]⟩, .slice none 0 0, .int .i64 0] 28) = W1 := ⟨_, rfl⟩
  have b1 : Below w.heap.size w W1 := by rw [← hW1]; exact (Below.refl _ w).alloc (Nat.le_refl _) _
  have cA := heldAccountS_any (.slice ao n ac) n 1 W1 (hm.below b1) hn (by omega)
  have e1 : W1.heap[w.heap.size]? = some (.cells #[.slice ao n ac, .slice none 0 0, .string ⟨#[]⟩, .slice none 0 0, .int .i64 0] 28 (0, 0)) := by rw [← hW1]; exact World.alloc_heap_new w _
  have l1 : w.heap.size < W1.heap.size := by rw [← hW1]; simp
  obtain ⟨u0, u1, u2, u3, u4⟩ := five_cells e1
  obtain ⟨m, hmm⟩ : ∃ m, m = 1 + 2 * n := ⟨_, rfl⟩
  rw [← hmm] at cA ⊢
  have z1 : ¬ (m : Int) < 0 := by omega
  clear hmm
  go_enter Try.func25, Try.ntmps25
  go_wp2_with first
    | (go_at_call 44; refine (heldSessS_none _ _).mono ?_; rintro e w9 ⟨rfl, rfl⟩)
    | (go_at_call 43; refine (heldEntryS_none _ _).mono ?_; rintro e w9 ⟨rfl, rfl⟩)
    | (go_at_call 42; (try rw [hW1]); go_fit cA; rintro e w2 ⟨rfl, b2⟩; obtain ⟨x0, x1, x2, x3, x4⟩ := five_cells ((b2.block w.heap.size l1).trans e1))
  go_ret
  exact ⟨rfl, b1.trans (b2.mono b1.size)⟩
end Go.Proofs.Ytkfdggcccegmlaa.Hub
