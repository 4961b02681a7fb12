/-
  impl.copyRoom: a room of one's own.
-/
import Derived.Test.YtgjlgddglgffmaaGreatDoorCopyE
namespace Go.Proofs.YtgjlgddglgffmaaGreatDoor.Hub
open Go.RowKit
set_option linter.unusedVariables false

set_option maxRecDepth 100000 in
set_option maxHeartbeats 8000000 in
theorem copyRoom_any (nm sb : ByteArray) (nx : Int) (vm vk : Value) (n : Nat) (U N : Nat → ByteArray) (R : Nat → Int) (z : Nat) (KU : Nat → ByteArray) (KR : Nat → Int) (w : World) (hm : MemAt w vm n U N R) (hk : RankAt w vk z KU KR) (hn : n ≤ 1048500) (hz : z ≤ 1048500) (hnm : nm.size ≤ 1048600) (hsb : sb.size ≤ 1048600) (hs : ∀ j, j < n → (U j).size ≤ 1048600 ∧ (N j).size ≤ 1048600) (hzs : ∀ j, j < z → (KU j).size ≤ 1048600) :
    Calls Tryz.prog 23 #[roomV nm nx vm vk sb] w fun e w' => (∃ v, e = .returned v ∧ NewRoom w w' v nm nx sb n U N R z KU KR) ∧ Below w.heap.size w w' := by
  have hm' := hm
  have hk' := hk
  obtain ⟨mo, mc, rfl, -⟩ := hm'
  obtain ⟨ko, kc, rfl, -⟩ := hk'
  obtain ⟨W2, hW2⟩ : ∃ W2, ((w.alloc (.cells #[.string nm, .int .i64 nx, .slice mo n mc, .slice ko z kc, .string sb] 33)).alloc (.cells #[.string ⟨#[]⟩, .int .i64 0, .slice none 0 0, .slice none 0 0, .string ⟨#[]⟩] 33)) = W2 := ⟨_, rfl⟩
  have b2 : Below w.heap.size w W2 := by rw [← hW2]; exact ((Below.refl _ w).alloc (Nat.le_refl _) _).alloc (by simp) _
  have s2 : W2.heap.size = w.heap.size + 2 := by rw [← hW2]; simp
  have eA : W2.heap[w.heap.size]? = some (.cells #[.string nm, .int .i64 nx, .slice mo n mc, .slice ko z kc, .string sb] 33 (0, 0)) := by
    rw [← hW2, Below.heap_alloc _ _ _ (by simp)]
    exact World.alloc_heap_new w _
  have eZ : W2.heap[w.heap.size + 1]? = some (.cells #[.string ⟨#[]⟩, .int .i64 0, .slice none 0 0, .slice none 0 0, .string ⟨#[]⟩] 33 (0, 0)) := by
    rw [← hW2]
    have := World.alloc_heap_new (w.alloc (.cells #[.string nm, .int .i64 nx, .slice mo n mc, .slice ko z kc, .string sb] 33)) (.cells #[.string ⟨#[]⟩, .int .i64 0, .slice none 0 0, .slice none 0 0, .string ⟨#[]⟩] 33)
    simpa using this
  have BA : Hid (∀ W, Below W2.heap.size W2 W → W.heap[w.heap.size]? = some (.cells #[.string nm, .int .i64 nx, .slice mo n mc, .slice ko z kc, .string sb] 33 (0, 0))) := fun W bb => (bb.block _ (by omega)).trans eA
  have BZ : Hid (∀ W, Below W2.heap.size W2 W → W.heap[w.heap.size + 1]? = some (.cells #[.string ⟨#[]⟩, .int .i64 0, .slice none 0 0, .slice none 0 0, .string ⟨#[]⟩] 33 (0, 0))) := fun W bb => (bb.block _ (by omega)).trans eZ
  have HM : Hid (∀ W, Below w.heap.size w W → MemAt W (.slice mo n mc) n U N R) := fun W bb => hm.below bb
  have HKK : Hid (∀ W, Below w.heap.size w W → RankAt W (.slice ko z kc) z KU KR) := fun W bb => hk.below bb
  have hmc : n ≤ mc ∧ mc ≤ 9223372036854775807 := by
    obtain ⟨o9, c9, e9, h9, h8, -⟩ := hm
    injection e9 with e1 e2 e3
    subst e3
    exact ⟨h9, h8⟩
  have hkc : z ≤ kc ∧ kc ≤ 9223372036854775807 := by
    obtain ⟨o9, c9, e9, h9, h8, -⟩ := hk
    injection e9 with e1 e2 e3
    subst e3
    exact ⟨h9, h8⟩
  have HS : Hid (∀ j, j < n → (U j).size ≤ 1048600 ∧ (N j).size ≤ 1048600) := hs
  have HZ : Hid (∀ j, j < z → (KU j).size ≤ 1048600) := hzs
  have HW2 : Hid (((w.alloc (.cells #[.string nm, .int .i64 nx, .slice mo n mc, .slice ko z kc, .string sb] 33)).alloc (.cells #[.string ⟨#[]⟩, .int .i64 0, .slice none 0 0, .slice none 0 0, .string ⟨#[]⟩] 33)) = W2) := hW2
  have HS2 : Hid (W2.heap.size = w.heap.size + 2) := s2
  clear hW2 eZ hm hk hs hzs s2
  obtain ⟨im, him, hm0, hm1, hm2⟩ := info_parts info_mem
  obtain ⟨ir, hir, hr0, hr1, hr2⟩ := info_parts info_rank
  go_enter Tryz.func23, Tryz.ntmps23
  go_wp2_with fail
  rw [HW2.out]
  rename_i K1 hK1
  have TAIL : ∀ (E : Nat) (W : World) (u8 u9 u10 u11 u12 u13 u14 u15 u16 : Value), W2.heap.size ≤ E → Below W2.heap.size W2 W → W.heap[E]? = some (.cells #[.string nm, .int .i64 nx, .slice none 0 0, .slice none 0 0, .string sb] 33 (0, 0)) → K1 ⟨#[roomV nm nx (.slice mo n mc) (.slice ko z kc) sb, .pointer (some ⟨w.heap.size, 0, none⟩), .pointer (some ⟨w.heap.size + 1, 0, none⟩), .pointer (some ⟨E, 0, none⟩), undef, undef, undef, undef, u8, u9, u10, u11, u12, u13, u14, u15, u16, undef, undef, undef, undef, undef, undef, undef, undef, undef, undef, undef, undef, undef, undef, undef, undef, undef, undef, undef, undef, undef, undef, undef, undef, undef, undef, undef, undef, undef, undef, undef, undef, undef, undef, undef, undef, undef, undef, undef, undef, undef, undef], []⟩ W := by
    intro E W u8 u9 u10 u11 u12 u13 u14 u15 u16 hE bW eE
    refine hK1 _ _ ?_
    clear hK1 K1
    obtain ⟨a0, a1, a2, a3, a4⟩ := rm_cells (BA.out W bW)
    have lE : E < W.heap.size := (Array.getElem?_eq_some_iff.1 eE).1
    have bW0 : Below w.heap.size w W := b2.trans (bW.mono b2.size)
    go_wp2_with fail
    go_loopw [20] (fun i wr => ∃ (k : Nat) (a : Value), k ≤ n ∧ i = .int .i64 k ∧ Below W2.heap.size W2 wr ∧ wr.heap[E]? = some (.cells #[.string nm, .int .i64 nx, a, (.slice none 0 0), .string sb] 33 (0, 0)) ∧ OwnM wr (E + 1) a k U N R) (fun i _ => n - (intOf i).toNat)
    case atStart => exact ⟨0, _, Nat.zero_le _, rfl, bW, eE, OwnL.nil _ _ _ _ _⟩
    case round =>
      obtain ⟨k, a, hk, rfl, bw, hEr, hA⟩ := hrel
      have bw0 : Below w.heap.size w wr := b2.trans (bw.mono b2.size)
      by_cases hlt : k < n
      · skip
        obtain ⟨o9, c9, e9, -, -, hc9⟩ := HM.out wr bw0
        injection e9 with e91 e92 e93
        subst e91 e93
        obtain ⟨b, f, ho, hb, r0, r1, r2⟩ := hc9 k hlt
        subst ho
        have i1 : (0 : Int) ≤ (k : Int) := by omega
        have i2 : (k : Int) < (n : Int) := by omega
        have hsk := HS.out k hlt
        obtain ⟨F, hF⟩ : ∃ F, F = wr.heap.size := ⟨_, rfl⟩
        obtain ⟨V, hV⟩ : ∃ V, wr.alloc (.cells #[.string (U k), .string (N k), .int .i64 (R k)] 64) = V := ⟨_, rfl⟩
        have bv : Below wr.heap.size wr V := by rw [← hV]; exact (Below.refl _ wr).alloc (Nat.le_refl _) _
        have hFV : V.heap[F]? = some (.cells #[.string (U k), .string (N k), .int .i64 (R k)] 64 (0, 0)) := by rw [← hV, hF]; exact World.alloc_heap_new wr _
        have hFl : F < V.heap.size := (Array.getElem?_eq_some_iff.1 hFV).1
        have hEl : E < wr.heap.size := (Array.getElem?_eq_some_iff.1 hEr).1
        have FS : Hid (∀ W, Below V.heap.size V W → W.cell? ⟨F, 0, none⟩ = some (.string (U k)) ∧ W.cell? ⟨F, 1, none⟩ = some (.string (N k)) ∧ W.cell? ⟨F, 2, none⟩ = some (.int .i64 (R k))) := fun W bb => by
          have h9 := (bb.block F hFl).trans hFV
          simp only [World.cell?, h9]
          exact ⟨rfl, rfl, rfl⟩
        have FE : Hid (∀ W, Below V.heap.size V W → W.cell? ⟨E, 2, none⟩ = some a) := fun W bb => by
          have h9 := (bb.block E (Nat.lt_of_lt_of_le hEl bv.size)).trans ((bv.block E hEl).trans hEr)
          simp only [World.cell?, h9]
          rfl
        have FO : Hid (∀ W, Below V.heap.size V W → OwnM W (E + 1) a k U N R) := fun W bb => OwnL.below (OwnL.below hA bv) (bb.mono (Nat.le_refl _))
        have BX0 : Below V.heap.size V V.drew := (Below.refl _ V).drew
        have HF : Hid (F = wr.heap.size) := hF
        have HFV : Hid (V.heap[F]? = some (.cells #[.string (U k), .string (N k), .int .i64 (R k)] 64 (0, 0))) := hFV
        have HV : Hid (wr.alloc (.cells #[.string (U k), .string (N k), .int .i64 (R k)] 64) = V) := hV
        have zV := bv.size
        have lwr : W2.heap.size ≤ wr.heap.size := bw.size
        clear hF hV hFV
        go_wp2_with fail
        rw [HV.out, ← HF.out]
        refine wp_region_held_drew (S := (fun W => W.cell? ⟨F, 0, none⟩ = some (.string (U k)) ∧ W.cell? ⟨F, 1, none⟩ = some (.string (N k)) ∧ W.cell? ⟨F, 2, none⟩ = some (.int .i64 (R k)))) (by kernel_rfl) (FS.out _ BX0) (fun hHeld => ?_)
        refine wpAnyH_take (i := 0) (v := ?_) rfl (by kernel_rfl) (by kernel_rfl) (by kernel_rfl) (fun _ _ _ h => h) (Or.inl ⟨by rfl, ?takeYr1⟩) (FS.out _ BX0) ?takeRr1
        case takeYr1 => (intro w hSw; (try dsimp only at hSw); go_simp; try (with_reducible rfl))
        simp only [Act.put, List.setIfInBounds_toArray, List.set_cons_zero, List.set_cons_succ, List.getElem_toArray, List.getElem_cons_zero]
        refine wpAnyH_take (i := 2) (v := ?_) rfl (by kernel_rfl) (by kernel_rfl) (by kernel_rfl) (fun _ _ _ h => h) (Or.inl ⟨by rfl, ?takeYr2⟩) (FS.out _ BX0) ?takeRr2
        case takeYr2 => (intro w hSw; (try dsimp only at hSw); go_simp; try (with_reducible rfl))
        simp only [Act.put, List.setIfInBounds_toArray, List.set_cons_zero, List.set_cons_succ, List.getElem_toArray, List.getElem_cons_zero, List.getElem_cons_succ]
        refine wpAnyH_take (i := 3) (v := ?_) rfl (by kernel_rfl) (by kernel_rfl) (by kernel_rfl) (fun _ _ _ h => h) (Or.inl ⟨by rfl, ?takeYr3⟩) (FS.out _ BX0) ?takeRr3
        case takeYr3 => (intro w hSw; (try dsimp only at hSw); go_simp; try (with_reducible rfl))
        simp only [Act.put, List.setIfInBounds_toArray, List.set_cons_zero, List.set_cons_succ, List.getElem_toArray, List.getElem_cons_zero, List.getElem_cons_succ]
        refine wpAnyH_take (i := 5) (v := ?_) rfl (by kernel_rfl) (by kernel_rfl) (by kernel_rfl) (fun _ _ _ h => h) (Or.inl ⟨by rfl, ?takeYr4⟩) (FS.out _ BX0) ?takeRr4
        case takeYr4 => (intro w hSw; (try dsimp only at hSw); go_simp; try (with_reducible rfl))
        simp only [Act.put, List.setIfInBounds_toArray, List.set_cons_zero, List.set_cons_succ, List.getElem_toArray, List.getElem_cons_zero, List.getElem_cons_succ]
        refine wpAnyH_take (i := 6) (v := ?_) rfl (by kernel_rfl) (by kernel_rfl) (by kernel_rfl) (fun _ _ _ h => h) (Or.inl ⟨by rfl, ?takeYr5⟩) (FS.out _ BX0) ?takeRr5
        case takeYr5 => (intro w hSw; (try dsimp only at hSw); go_simp; try (with_reducible rfl))
        simp only [Act.put, List.setIfInBounds_toArray, List.set_cons_zero, List.set_cons_succ, List.getElem_toArray, List.getElem_cons_zero, List.getElem_cons_succ]
        refine wpAnyH_take (i := 8) (v := ?_) rfl (by kernel_rfl) (by kernel_rfl) (by kernel_rfl) (fun _ _ _ h => h) (Or.inl ⟨by rfl, ?takeYr6⟩) (FS.out _ BX0) ?takeRr6
        case takeYr6 => (intro w hSw; (try dsimp only at hSw); go_simp; try (with_reducible rfl))
        simp only [Act.put, List.setIfInBounds_toArray, List.set_cons_zero, List.set_cons_succ, List.getElem_toArray, List.getElem_cons_zero, List.getElem_cons_succ]
        refine wpAnyH_take (i := 9) (v := ?_) rfl (by kernel_rfl) (by kernel_rfl) (by kernel_rfl) (fun _ _ _ h => h) (Or.inl ⟨by rfl, ?takeYr7⟩) (FS.out _ BX0) ?takeRr7
        case takeYr7 => (intro w hSw; (try dsimp only at hSw); go_simp; try (with_reducible rfl))
        simp only [Act.put, List.setIfInBounds_toArray, List.set_cons_zero, List.set_cons_succ, List.getElem_toArray, List.getElem_cons_zero, List.getElem_cons_succ]
        refine wpAnyH_ready (rs := [1, 4]) (by kernel_rfl) (by simp) ?_
        refine (AllReadyH.cons rfl (fun K hK => ?_) (AllReadyH.cons rfl (fun K hK => ?_) AllReadyH.nil))
        · skip
          have cE := FE.out V.drew BX0
          go_simp
          refine hK.out _ _ (FS.out V.drew BX0) (fun _ => ?_)
          clear hK K cE
          try simp only [Act.put, List.setIfInBounds_toArray, List.set_cons_zero, List.set_cons_succ, List.getElem_toArray, List.getElem_cons_zero, List.getElem_cons_succ]
          refine wpAnyH_ready (rs := [4]) (by kernel_rfl) (by simp) ?_
          refine AllReadyH.cons rfl (fun K hK => ?_) AllReadyH.nil
          go_simp
          refine (clone_any (U k) V.drew (by omega)).mono ?_
          rintro e X1 ⟨rfl, p1⟩
          have BX1 : Below V.heap.size V X1 := BX0.trans (p1.mono BX0.size)
          go_wp2_with fail
          refine hK.out _ _ (FS.out X1 BX1) (fun _ => ?_)
          clear hK K
          try simp only [Act.put, List.setIfInBounds_toArray, List.set_cons_zero, List.set_cons_succ, List.getElem_toArray, List.getElem_cons_zero, List.getElem_cons_succ]
          refine wpAnyH_ready (rs := [7]) (by kernel_rfl) (by simp) ?_
          refine AllReadyH.cons rfl (fun K hK => ?_) AllReadyH.nil
          go_simp
          refine (clone_any (N k) X1 (by omega)).mono ?_
          rintro e X2 ⟨rfl, p2⟩
          have BX2 : Below V.heap.size V X2 := BX1.trans (p2.mono BX1.size)
          go_wp2_with fail
          refine hK.out _ _ (FS.out X2 BX2) (fun _ => ?_)
          clear hK K
          try simp only [Act.put, List.setIfInBounds_toArray, List.set_cons_zero, List.set_cons_succ, List.getElem_toArray, List.getElem_cons_zero, List.getElem_cons_succ]
          refine wpAnyH_take (i := 10) (v := ?_) rfl (by kernel_rfl) (by kernel_rfl) (by kernel_rfl) (fun _ _ _ h => h) (Or.inl ⟨by rfl, ?takeYr8⟩) (FS.out X2 BX2) ?takeRr8
          case takeYr8 => (intro w hSw; (try dsimp only at hSw); go_simp; try (with_reducible rfl))
          simp only [Act.put, List.setIfInBounds_toArray, List.set_cons_zero, List.set_cons_succ, List.getElem_toArray, List.getElem_cons_zero, List.getElem_cons_succ]
          refine wpAnyH_ready (rs := [11]) (by kernel_rfl) (by simp) ?_
          refine AllReadyH.cons rfl (fun K hK => ?_) AllReadyH.nil
          have BX3 : Below V.heap.size V (X2.alloc (.cells #[.string (U k), .string (N k), .int .i64 (R k)] 64)) := BX2.alloc BX2.size _
          go_simp
          refine hK.out _ _ (FS.out (X2.alloc (.cells #[.string (U k), .string (N k), .int .i64 (R k)] 64)) BX3) (fun _ => ?_)
          clear hK K
          try simp only [Act.put, List.setIfInBounds_toArray, List.set_cons_zero, List.set_cons_succ, List.getElem_toArray, List.getElem_cons_zero, List.getElem_cons_succ]
          refine wpAnyH_ready (rs := [12]) (by kernel_rfl) (by simp) ?_
          refine AllReadyH.cons rfl (fun K hK => ?_) AllReadyH.nil
          refine step_append_list (by rfl) _ _ _ (by rfl) (E + 1) 64 im _ 3 40 Tryz.underlying30 him hm0 hm1 hm2 rfl (by omega) a k (rowVs (memC U N R) k) (by rfl) (FO.out (X2.alloc (.cells #[.string (U k), .string (N k), .int .i64 (R k)] 64)) BX3) (.slice (some ⟨X2.heap.size, 0, none⟩) 1 1) 1 (fun _ => [.string (U k), .string (N k), .int .i64 (R k)]) (by rfl) (three_cells X2 (U k) (N k) (R k) _) (fun _ => rfl) (one_mem (U k) (N k) (R k)) (by unfold maxLen; omega) (by omega) (by have := BX2.size; simp; omega) (X2.heap.size + 1) (by simp) ?_
          intro o8 c8 w8 hown8 hgrow8 hat8
          have AL := OwnL.lt hA
          have z9 := BX3.size
          have z7 := HF.out
          have s8 : w8.cell? ⟨F, 0, none⟩ = some (.string (U k)) ∧ w8.cell? ⟨F, 1, none⟩ = some (.string (N k)) ∧ w8.cell? ⟨F, 2, none⟩ = some (.int .i64 (R k)) := by
            have h9 := (hgrow8.block F (by simp at z9; simp; omega) (fun e => by have := (AL F e.symm).2; omega)).trans ((BX3.block F hFl).trans HFV.out)
            simp only [World.cell?, h9]
            exact ⟨rfl, rfl, rfl⟩
          have e8 := (hgrow8.block E (by simp at z9; simp; omega) (fun e => by have := (AL E e.symm).1; omega)).trans ((BX3.block E (by omega)).trans ((bv.block E hEl).trans hEr))
          obtain ⟨y0, y1, y2, y3, y4⟩ := rm_cells e8
          have f8 : ∀ i, w8.frozen? ⟨E, i, none⟩ = false := fun i => by simp [World.frozen?, e8]
          have S8 : Hid (w8.cell? ⟨F, 0, none⟩ = some (.string (U k)) ∧ w8.cell? ⟨F, 1, none⟩ = some (.string (N k)) ∧ w8.cell? ⟨F, 2, none⟩ = some (.int .i64 (R k))) := s8
          have S9 : Hid ((w8.setCell ⟨E, 2, none⟩ (.slice o8 (k + 1) c8)).cell? ⟨F, 0, none⟩ = some (.string (U k)) ∧ (w8.setCell ⟨E, 2, none⟩ (.slice o8 (k + 1) c8)).cell? ⟨F, 1, none⟩ = some (.string (N k)) ∧ (w8.setCell ⟨E, 2, none⟩ (.slice o8 (k + 1) c8)).cell? ⟨F, 2, none⟩ = some (.int .i64 (R k))) := by
            have q : ∀ i, (w8.setCell ⟨E, 2, none⟩ (.slice o8 (k + 1) c8)).cell? ⟨F, i, none⟩ = w8.cell? ⟨F, i, none⟩ := fun i => World.cell?_setCell_other _ _ _ _ (fun e => by have e9 := congrArg Addr.block e; simp at e9; omega)
            rw [q, q, q]
            exact s8
          have B3 : Below W2.heap.size W2 (X2.alloc (.cells #[.string (U k), .string (N k), .int .i64 (R k)] 64)) := (bw.trans (bv.mono bw.size)).trans (BX3.mono (by omega))
          have B8 : Below W2.heap.size W2 w8 := B3.grown hgrow8 B3.size (fun q hq => by have := (AL q hq).1; omega)
          have B9 : Below W2.heap.size W2 (w8.setCell ⟨E, 2, none⟩ (.slice o8 (k + 1) c8)) := B8.setCell (p := ⟨E, 2, none⟩) (by show W2.heap.size ≤ E; omega) _
          have e9 := set_heap w8 E 2 _ _ _ (.slice o8 (k + 1) c8) e8
          simp only [List.setIfInBounds_toArray, List.set_cons_zero, List.set_cons_succ] at e9
          have O9 := OwnL.set (own_push (g := memC U N R) hown8 rfl) ⟨E, 2, none⟩ (.slice o8 (k + 1) c8) (by show E < (E + 1); omega)
          have H9 : Hid ((w8.setCell ⟨E, 2, none⟩ (.slice o8 (k + 1) c8)).heap[E]? = some (.cells #[.string nm, .int .i64 nx, (.slice o8 (k + 1) c8), (.slice none 0 0), .string sb] 33 (0, 0))) := e9
          have HO9 : Hid (OwnL (w8.setCell ⟨E, 2, none⟩ (.slice o8 (k + 1) c8)) (E + 1) 64 3 (.slice o8 (k + 1) c8) (k + 1) (memC U N R)) := O9
          clear e9 O9 e8 hown8 s8
          refine hK.out _ _ S8.out (fun _ => ?_)
          clear hK K
          try simp only [Act.put, List.setIfInBounds_toArray, List.set_cons_zero, List.set_cons_succ, List.getElem_toArray, List.getElem_cons_zero, List.getElem_cons_succ]
          refine wpAnyH_take (i := 13) (v := ?_) rfl (by kernel_rfl) (by kernel_rfl) (by kernel_rfl) (fun _ _ _ h => h) (Or.inl ⟨by rfl, ?takeYr9⟩) S8.out ?takeRr9
          case takeYr9 => (intro w hSw; (try dsimp only at hSw); go_simp; try (with_reducible rfl))
          simp only [Act.put, List.setIfInBounds_toArray, List.set_cons_zero, List.set_cons_succ, List.getElem_toArray, List.getElem_cons_zero, List.getElem_cons_succ]
          refine wpAnyH_ready (rs := [14]) (by kernel_rfl) (by simp) ?_
          refine AllReadyH.cons rfl (fun K hK => ?_) AllReadyH.nil
          go_simp
          refine hK.out _ _ S9.out (fun _ => ?_)
          clear hK K
          try simp only [Act.put, List.setIfInBounds_toArray, List.set_cons_zero, List.set_cons_succ, List.getElem_toArray, List.getElem_cons_zero, List.getElem_cons_succ]
          refine wpAnyH_done (by kernel_rfl) ?_ _
          go_wp2_with fail
          go_roundw
          case rel => exact ⟨k + 1, _, by omega, by go_num, B9, H9.out, HO9.out⟩
          case measure => simp [intOf]; omega
        · skip
          go_simp
          refine (clone_any (U k) V.drew (by omega)).mono ?_
          rintro e X1 ⟨rfl, p1⟩
          have BX1 : Below V.heap.size V X1 := BX0.trans (p1.mono BX0.size)
          go_wp2_with fail
          refine hK.out _ _ (FS.out X1 BX1) (fun _ => ?_)
          clear hK K
          try simp only [Act.put, List.setIfInBounds_toArray, List.set_cons_zero, List.set_cons_succ, List.getElem_toArray, List.getElem_cons_zero, List.getElem_cons_succ]
          refine wpAnyH_ready (rs := [1, 7]) (by kernel_rfl) (by simp) ?_
          refine (AllReadyH.cons rfl (fun K hK => ?_) (AllReadyH.cons rfl (fun K hK => ?_) AllReadyH.nil))
          · skip
            have cE := FE.out X1 BX1
            go_simp
            refine hK.out _ _ (FS.out X1 BX1) (fun _ => ?_)
            clear hK K cE
            try simp only [Act.put, List.setIfInBounds_toArray, List.set_cons_zero, List.set_cons_succ, List.getElem_toArray, List.getElem_cons_zero, List.getElem_cons_succ]
            refine wpAnyH_ready (rs := [7]) (by kernel_rfl) (by simp) ?_
            refine AllReadyH.cons rfl (fun K hK => ?_) AllReadyH.nil
            go_simp
            refine (clone_any (N k) X1 (by omega)).mono ?_
            rintro e X2 ⟨rfl, p2⟩
            have BX2 : Below V.heap.size V X2 := BX1.trans (p2.mono BX1.size)
            go_wp2_with fail
            refine hK.out _ _ (FS.out X2 BX2) (fun _ => ?_)
            clear hK K
            try simp only [Act.put, List.setIfInBounds_toArray, List.set_cons_zero, List.set_cons_succ, List.getElem_toArray, List.getElem_cons_zero, List.getElem_cons_succ]
            refine wpAnyH_take (i := 10) (v := ?_) rfl (by kernel_rfl) (by kernel_rfl) (by kernel_rfl) (fun _ _ _ h => h) (Or.inl ⟨by rfl, ?takeYr10⟩) (FS.out X2 BX2) ?takeRr10
            case takeYr10 => (intro w hSw; (try dsimp only at hSw); go_simp; try (with_reducible rfl))
            simp only [Act.put, List.setIfInBounds_toArray, List.set_cons_zero, List.set_cons_succ, List.getElem_toArray, List.getElem_cons_zero, List.getElem_cons_succ]
            refine wpAnyH_ready (rs := [11]) (by kernel_rfl) (by simp) ?_
            refine AllReadyH.cons rfl (fun K hK => ?_) AllReadyH.nil
            have BX3 : Below V.heap.size V (X2.alloc (.cells #[.string (U k), .string (N k), .int .i64 (R k)] 64)) := BX2.alloc BX2.size _
            go_simp
            refine hK.out _ _ (FS.out (X2.alloc (.cells #[.string (U k), .string (N k), .int .i64 (R k)] 64)) BX3) (fun _ => ?_)
            clear hK K
            try simp only [Act.put, List.setIfInBounds_toArray, List.set_cons_zero, List.set_cons_succ, List.getElem_toArray, List.getElem_cons_zero, List.getElem_cons_succ]
            refine wpAnyH_ready (rs := [12]) (by kernel_rfl) (by simp) ?_
            refine AllReadyH.cons rfl (fun K hK => ?_) AllReadyH.nil
            refine step_append_list (by rfl) _ _ _ (by rfl) (E + 1) 64 im _ 3 40 Tryz.underlying30 him hm0 hm1 hm2 rfl (by omega) a k (rowVs (memC U N R) k) (by rfl) (FO.out (X2.alloc (.cells #[.string (U k), .string (N k), .int .i64 (R k)] 64)) BX3) (.slice (some ⟨X2.heap.size, 0, none⟩) 1 1) 1 (fun _ => [.string (U k), .string (N k), .int .i64 (R k)]) (by rfl) (three_cells X2 (U k) (N k) (R k) _) (fun _ => rfl) (one_mem (U k) (N k) (R k)) (by unfold maxLen; omega) (by omega) (by have := BX2.size; simp; omega) (X2.heap.size + 1) (by simp) ?_
            intro o8 c8 w8 hown8 hgrow8 hat8
            have AL := OwnL.lt hA
            have z9 := BX3.size
            have z7 := HF.out
            have s8 : w8.cell? ⟨F, 0, none⟩ = some (.string (U k)) ∧ w8.cell? ⟨F, 1, none⟩ = some (.string (N k)) ∧ w8.cell? ⟨F, 2, none⟩ = some (.int .i64 (R k)) := by
              have h9 := (hgrow8.block F (by simp at z9; simp; omega) (fun e => by have := (AL F e.symm).2; omega)).trans ((BX3.block F hFl).trans HFV.out)
              simp only [World.cell?, h9]
              exact ⟨rfl, rfl, rfl⟩
            have e8 := (hgrow8.block E (by simp at z9; simp; omega) (fun e => by have := (AL E e.symm).1; omega)).trans ((BX3.block E (by omega)).trans ((bv.block E hEl).trans hEr))
            obtain ⟨y0, y1, y2, y3, y4⟩ := rm_cells e8
            have f8 : ∀ i, w8.frozen? ⟨E, i, none⟩ = false := fun i => by simp [World.frozen?, e8]
            have S8 : Hid (w8.cell? ⟨F, 0, none⟩ = some (.string (U k)) ∧ w8.cell? ⟨F, 1, none⟩ = some (.string (N k)) ∧ w8.cell? ⟨F, 2, none⟩ = some (.int .i64 (R k))) := s8
            have S9 : Hid ((w8.setCell ⟨E, 2, none⟩ (.slice o8 (k + 1) c8)).cell? ⟨F, 0, none⟩ = some (.string (U k)) ∧ (w8.setCell ⟨E, 2, none⟩ (.slice o8 (k + 1) c8)).cell? ⟨F, 1, none⟩ = some (.string (N k)) ∧ (w8.setCell ⟨E, 2, none⟩ (.slice o8 (k + 1) c8)).cell? ⟨F, 2, none⟩ = some (.int .i64 (R k))) := by
              have q : ∀ i, (w8.setCell ⟨E, 2, none⟩ (.slice o8 (k + 1) c8)).cell? ⟨F, i, none⟩ = w8.cell? ⟨F, i, none⟩ := fun i => World.cell?_setCell_other _ _ _ _ (fun e => by have e9 := congrArg Addr.block e; simp at e9; omega)
              rw [q, q, q]
              exact s8
            have B3 : Below W2.heap.size W2 (X2.alloc (.cells #[.string (U k), .string (N k), .int .i64 (R k)] 64)) := (bw.trans (bv.mono bw.size)).trans (BX3.mono (by omega))
            have B8 : Below W2.heap.size W2 w8 := B3.grown hgrow8 B3.size (fun q hq => by have := (AL q hq).1; omega)
            have B9 : Below W2.heap.size W2 (w8.setCell ⟨E, 2, none⟩ (.slice o8 (k + 1) c8)) := B8.setCell (p := ⟨E, 2, none⟩) (by show W2.heap.size ≤ E; omega) _
            have e9 := set_heap w8 E 2 _ _ _ (.slice o8 (k + 1) c8) e8
            simp only [List.setIfInBounds_toArray, List.set_cons_zero, List.set_cons_succ] at e9
            have O9 := OwnL.set (own_push (g := memC U N R) hown8 rfl) ⟨E, 2, none⟩ (.slice o8 (k + 1) c8) (by show E < (E + 1); omega)
            have H9 : Hid ((w8.setCell ⟨E, 2, none⟩ (.slice o8 (k + 1) c8)).heap[E]? = some (.cells #[.string nm, .int .i64 nx, (.slice o8 (k + 1) c8), (.slice none 0 0), .string sb] 33 (0, 0))) := e9
            have HO9 : Hid (OwnL (w8.setCell ⟨E, 2, none⟩ (.slice o8 (k + 1) c8)) (E + 1) 64 3 (.slice o8 (k + 1) c8) (k + 1) (memC U N R)) := O9
            clear e9 O9 e8 hown8 s8
            refine hK.out _ _ S8.out (fun _ => ?_)
            clear hK K
            try simp only [Act.put, List.setIfInBounds_toArray, List.set_cons_zero, List.set_cons_succ, List.getElem_toArray, List.getElem_cons_zero, List.getElem_cons_succ]
            refine wpAnyH_take (i := 13) (v := ?_) rfl (by kernel_rfl) (by kernel_rfl) (by kernel_rfl) (fun _ _ _ h => h) (Or.inl ⟨by rfl, ?takeYr11⟩) S8.out ?takeRr11
            case takeYr11 => (intro w hSw; (try dsimp only at hSw); go_simp; try (with_reducible rfl))
            simp only [Act.put, List.setIfInBounds_toArray, List.set_cons_zero, List.set_cons_succ, List.getElem_toArray, List.getElem_cons_zero, List.getElem_cons_succ]
            refine wpAnyH_ready (rs := [14]) (by kernel_rfl) (by simp) ?_
            refine AllReadyH.cons rfl (fun K hK => ?_) AllReadyH.nil
            go_simp
            refine hK.out _ _ S9.out (fun _ => ?_)
            clear hK K
            try simp only [Act.put, List.setIfInBounds_toArray, List.set_cons_zero, List.set_cons_succ, List.getElem_toArray, List.getElem_cons_zero, List.getElem_cons_succ]
            refine wpAnyH_done (by kernel_rfl) ?_ _
            go_wp2_with fail
            go_roundw
            case rel => exact ⟨k + 1, _, by omega, by go_num, B9, H9.out, HO9.out⟩
            case measure => simp [intOf]; omega
          · skip
            go_simp
            refine (clone_any (N k) X1 (by omega)).mono ?_
            rintro e X2 ⟨rfl, p2⟩
            have BX2 : Below V.heap.size V X2 := BX1.trans (p2.mono BX1.size)
            go_wp2_with fail
            refine hK.out _ _ (FS.out X2 BX2) (fun _ => ?_)
            clear hK K
            try simp only [Act.put, List.setIfInBounds_toArray, List.set_cons_zero, List.set_cons_succ, List.getElem_toArray, List.getElem_cons_zero, List.getElem_cons_succ]
            refine wpAnyH_take (i := 10) (v := ?_) rfl (by kernel_rfl) (by kernel_rfl) (by kernel_rfl) (fun _ _ _ h => h) (Or.inl ⟨by rfl, ?takeYr12⟩) (FS.out X2 BX2) ?takeRr12
            case takeYr12 => (intro w hSw; (try dsimp only at hSw); go_simp; try (with_reducible rfl))
            simp only [Act.put, List.setIfInBounds_toArray, List.set_cons_zero, List.set_cons_succ, List.getElem_toArray, List.getElem_cons_zero, List.getElem_cons_succ]
            refine wpAnyH_ready (rs := [1, 11]) (by kernel_rfl) (by simp) ?_
            refine (AllReadyH.cons rfl (fun K hK => ?_) (AllReadyH.cons rfl (fun K hK => ?_) AllReadyH.nil))
            · skip
              have cE := FE.out X2 BX2
              go_simp
              refine hK.out _ _ (FS.out X2 BX2) (fun _ => ?_)
              clear hK K cE
              try simp only [Act.put, List.setIfInBounds_toArray, List.set_cons_zero, List.set_cons_succ, List.getElem_toArray, List.getElem_cons_zero, List.getElem_cons_succ]
              refine wpAnyH_ready (rs := [11]) (by kernel_rfl) (by simp) ?_
              refine AllReadyH.cons rfl (fun K hK => ?_) AllReadyH.nil
              have BX3 : Below V.heap.size V (X2.alloc (.cells #[.string (U k), .string (N k), .int .i64 (R k)] 64)) := BX2.alloc BX2.size _
              go_simp
              refine hK.out _ _ (FS.out (X2.alloc (.cells #[.string (U k), .string (N k), .int .i64 (R k)] 64)) BX3) (fun _ => ?_)
              clear hK K
              try simp only [Act.put, List.setIfInBounds_toArray, List.set_cons_zero, List.set_cons_succ, List.getElem_toArray, List.getElem_cons_zero, List.getElem_cons_succ]
              refine wpAnyH_ready (rs := [12]) (by kernel_rfl) (by simp) ?_
              refine AllReadyH.cons rfl (fun K hK => ?_) AllReadyH.nil
              refine step_append_list (by rfl) _ _ _ (by rfl) (E + 1) 64 im _ 3 40 Tryz.underlying30 him hm0 hm1 hm2 rfl (by omega) a k (rowVs (memC U N R) k) (by rfl) (FO.out (X2.alloc (.cells #[.string (U k), .string (N k), .int .i64 (R k)] 64)) BX3) (.slice (some ⟨X2.heap.size, 0, none⟩) 1 1) 1 (fun _ => [.string (U k), .string (N k), .int .i64 (R k)]) (by rfl) (three_cells X2 (U k) (N k) (R k) _) (fun _ => rfl) (one_mem (U k) (N k) (R k)) (by unfold maxLen; omega) (by omega) (by have := BX2.size; simp; omega) (X2.heap.size + 1) (by simp) ?_
              intro o8 c8 w8 hown8 hgrow8 hat8
              have AL := OwnL.lt hA
              have z9 := BX3.size
              have z7 := HF.out
              have s8 : w8.cell? ⟨F, 0, none⟩ = some (.string (U k)) ∧ w8.cell? ⟨F, 1, none⟩ = some (.string (N k)) ∧ w8.cell? ⟨F, 2, none⟩ = some (.int .i64 (R k)) := by
                have h9 := (hgrow8.block F (by simp at z9; simp; omega) (fun e => by have := (AL F e.symm).2; omega)).trans ((BX3.block F hFl).trans HFV.out)
                simp only [World.cell?, h9]
                exact ⟨rfl, rfl, rfl⟩
              have e8 := (hgrow8.block E (by simp at z9; simp; omega) (fun e => by have := (AL E e.symm).1; omega)).trans ((BX3.block E (by omega)).trans ((bv.block E hEl).trans hEr))
              obtain ⟨y0, y1, y2, y3, y4⟩ := rm_cells e8
              have f8 : ∀ i, w8.frozen? ⟨E, i, none⟩ = false := fun i => by simp [World.frozen?, e8]
              have S8 : Hid (w8.cell? ⟨F, 0, none⟩ = some (.string (U k)) ∧ w8.cell? ⟨F, 1, none⟩ = some (.string (N k)) ∧ w8.cell? ⟨F, 2, none⟩ = some (.int .i64 (R k))) := s8
              have S9 : Hid ((w8.setCell ⟨E, 2, none⟩ (.slice o8 (k + 1) c8)).cell? ⟨F, 0, none⟩ = some (.string (U k)) ∧ (w8.setCell ⟨E, 2, none⟩ (.slice o8 (k + 1) c8)).cell? ⟨F, 1, none⟩ = some (.string (N k)) ∧ (w8.setCell ⟨E, 2, none⟩ (.slice o8 (k + 1) c8)).cell? ⟨F, 2, none⟩ = some (.int .i64 (R k))) := by
                have q : ∀ i, (w8.setCell ⟨E, 2, none⟩ (.slice o8 (k + 1) c8)).cell? ⟨F, i, none⟩ = w8.cell? ⟨F, i, none⟩ := fun i => World.cell?_setCell_other _ _ _ _ (fun e => by have e9 := congrArg Addr.block e; simp at e9; omega)
                rw [q, q, q]
                exact s8
              have B3 : Below W2.heap.size W2 (X2.alloc (.cells #[.string (U k), .string (N k), .int .i64 (R k)] 64)) := (bw.trans (bv.mono bw.size)).trans (BX3.mono (by omega))
              have B8 : Below W2.heap.size W2 w8 := B3.grown hgrow8 B3.size (fun q hq => by have := (AL q hq).1; omega)
              have B9 : Below W2.heap.size W2 (w8.setCell ⟨E, 2, none⟩ (.slice o8 (k + 1) c8)) := B8.setCell (p := ⟨E, 2, none⟩) (by show W2.heap.size ≤ E; omega) _
              have e9 := set_heap w8 E 2 _ _ _ (.slice o8 (k + 1) c8) e8
              simp only [List.setIfInBounds_toArray, List.set_cons_zero, List.set_cons_succ] at e9
              have O9 := OwnL.set (own_push (g := memC U N R) hown8 rfl) ⟨E, 2, none⟩ (.slice o8 (k + 1) c8) (by show E < (E + 1); omega)
              have H9 : Hid ((w8.setCell ⟨E, 2, none⟩ (.slice o8 (k + 1) c8)).heap[E]? = some (.cells #[.string nm, .int .i64 nx, (.slice o8 (k + 1) c8), (.slice none 0 0), .string sb] 33 (0, 0))) := e9
              have HO9 : Hid (OwnL (w8.setCell ⟨E, 2, none⟩ (.slice o8 (k + 1) c8)) (E + 1) 64 3 (.slice o8 (k + 1) c8) (k + 1) (memC U N R)) := O9
              clear e9 O9 e8 hown8 s8
              refine hK.out _ _ S8.out (fun _ => ?_)
              clear hK K
              try simp only [Act.put, List.setIfInBounds_toArray, List.set_cons_zero, List.set_cons_succ, List.getElem_toArray, List.getElem_cons_zero, List.getElem_cons_succ]
              refine wpAnyH_take (i := 13) (v := ?_) rfl (by kernel_rfl) (by kernel_rfl) (by kernel_rfl) (fun _ _ _ h => h) (Or.inl ⟨by rfl, ?takeYr13⟩) S8.out ?takeRr13
              case takeYr13 => (intro w hSw; (try dsimp only at hSw); go_simp; try (with_reducible rfl))
              simp only [Act.put, List.setIfInBounds_toArray, List.set_cons_zero, List.set_cons_succ, List.getElem_toArray, List.getElem_cons_zero, List.getElem_cons_succ]
              refine wpAnyH_ready (rs := [14]) (by kernel_rfl) (by simp) ?_
              refine AllReadyH.cons rfl (fun K hK => ?_) AllReadyH.nil
              go_simp
              refine hK.out _ _ S9.out (fun _ => ?_)
              clear hK K
              try simp only [Act.put, List.setIfInBounds_toArray, List.set_cons_zero, List.set_cons_succ, List.getElem_toArray, List.getElem_cons_zero, List.getElem_cons_succ]
              refine wpAnyH_done (by kernel_rfl) ?_ _
              go_wp2_with fail
              go_roundw
              case rel => exact ⟨k + 1, _, by omega, by go_num, B9, H9.out, HO9.out⟩
              case measure => simp [intOf]; omega
            · skip
              have BX3 : Below V.heap.size V (X2.alloc (.cells #[.string (U k), .string (N k), .int .i64 (R k)] 64)) := BX2.alloc BX2.size _
              go_simp
              refine hK.out _ _ (FS.out (X2.alloc (.cells #[.string (U k), .string (N k), .int .i64 (R k)] 64)) BX3) (fun _ => ?_)
              clear hK K
              try simp only [Act.put, List.setIfInBounds_toArray, List.set_cons_zero, List.set_cons_succ, List.getElem_toArray, List.getElem_cons_zero, List.getElem_cons_succ]
              refine wpAnyH_ready (rs := [1]) (by kernel_rfl) (by simp) ?_
              refine AllReadyH.cons rfl (fun K hK => ?_) AllReadyH.nil
              have cE := FE.out (X2.alloc (.cells #[.string (U k), .string (N k), .int .i64 (R k)] 64)) BX3
              go_simp
              refine hK.out _ _ (FS.out (X2.alloc (.cells #[.string (U k), .string (N k), .int .i64 (R k)] 64)) BX3) (fun _ => ?_)
              clear hK K cE
              try simp only [Act.put, List.setIfInBounds_toArray, List.set_cons_zero, List.set_cons_succ, List.getElem_toArray, List.getElem_cons_zero, List.getElem_cons_succ]
              refine wpAnyH_ready (rs := [12]) (by kernel_rfl) (by simp) ?_
              refine AllReadyH.cons rfl (fun K hK => ?_) AllReadyH.nil
              refine step_append_list (by rfl) _ _ _ (by rfl) (E + 1) 64 im _ 3 40 Tryz.underlying30 him hm0 hm1 hm2 rfl (by omega) a k (rowVs (memC U N R) k) (by rfl) (FO.out (X2.alloc (.cells #[.string (U k), .string (N k), .int .i64 (R k)] 64)) BX3) (.slice (some ⟨X2.heap.size, 0, none⟩) 1 1) 1 (fun _ => [.string (U k), .string (N k), .int .i64 (R k)]) (by rfl) (three_cells X2 (U k) (N k) (R k) _) (fun _ => rfl) (one_mem (U k) (N k) (R k)) (by unfold maxLen; omega) (by omega) (by have := BX2.size; simp; omega) (X2.heap.size + 1) (by simp) ?_
              intro o8 c8 w8 hown8 hgrow8 hat8
              have AL := OwnL.lt hA
              have z9 := BX3.size
              have z7 := HF.out
              have s8 : w8.cell? ⟨F, 0, none⟩ = some (.string (U k)) ∧ w8.cell? ⟨F, 1, none⟩ = some (.string (N k)) ∧ w8.cell? ⟨F, 2, none⟩ = some (.int .i64 (R k)) := by
                have h9 := (hgrow8.block F (by simp at z9; simp; omega) (fun e => by have := (AL F e.symm).2; omega)).trans ((BX3.block F hFl).trans HFV.out)
                simp only [World.cell?, h9]
                exact ⟨rfl, rfl, rfl⟩
              have e8 := (hgrow8.block E (by simp at z9; simp; omega) (fun e => by have := (AL E e.symm).1; omega)).trans ((BX3.block E (by omega)).trans ((bv.block E hEl).trans hEr))
              obtain ⟨y0, y1, y2, y3, y4⟩ := rm_cells e8
              have f8 : ∀ i, w8.frozen? ⟨E, i, none⟩ = false := fun i => by simp [World.frozen?, e8]
              have S8 : Hid (w8.cell? ⟨F, 0, none⟩ = some (.string (U k)) ∧ w8.cell? ⟨F, 1, none⟩ = some (.string (N k)) ∧ w8.cell? ⟨F, 2, none⟩ = some (.int .i64 (R k))) := s8
              have S9 : Hid ((w8.setCell ⟨E, 2, none⟩ (.slice o8 (k + 1) c8)).cell? ⟨F, 0, none⟩ = some (.string (U k)) ∧ (w8.setCell ⟨E, 2, none⟩ (.slice o8 (k + 1) c8)).cell? ⟨F, 1, none⟩ = some (.string (N k)) ∧ (w8.setCell ⟨E, 2, none⟩ (.slice o8 (k + 1) c8)).cell? ⟨F, 2, none⟩ = some (.int .i64 (R k))) := by
                have q : ∀ i, (w8.setCell ⟨E, 2, none⟩ (.slice o8 (k + 1) c8)).cell? ⟨F, i, none⟩ = w8.cell? ⟨F, i, none⟩ := fun i => World.cell?_setCell_other _ _ _ _ (fun e => by have e9 := congrArg Addr.block e; simp at e9; omega)
                rw [q, q, q]
                exact s8
              have B3 : Below W2.heap.size W2 (X2.alloc (.cells #[.string (U k), .string (N k), .int .i64 (R k)] 64)) := (bw.trans (bv.mono bw.size)).trans (BX3.mono (by omega))
              have B8 : Below W2.heap.size W2 w8 := B3.grown hgrow8 B3.size (fun q hq => by have := (AL q hq).1; omega)
              have B9 : Below W2.heap.size W2 (w8.setCell ⟨E, 2, none⟩ (.slice o8 (k + 1) c8)) := B8.setCell (p := ⟨E, 2, none⟩) (by show W2.heap.size ≤ E; omega) _
              have e9 := set_heap w8 E 2 _ _ _ (.slice o8 (k + 1) c8) e8
              simp only [List.setIfInBounds_toArray, List.set_cons_zero, List.set_cons_succ] at e9
              have O9 := OwnL.set (own_push (g := memC U N R) hown8 rfl) ⟨E, 2, none⟩ (.slice o8 (k + 1) c8) (by show E < (E + 1); omega)
              have H9 : Hid ((w8.setCell ⟨E, 2, none⟩ (.slice o8 (k + 1) c8)).heap[E]? = some (.cells #[.string nm, .int .i64 nx, (.slice o8 (k + 1) c8), (.slice none 0 0), .string sb] 33 (0, 0))) := e9
              have HO9 : Hid (OwnL (w8.setCell ⟨E, 2, none⟩ (.slice o8 (k + 1) c8)) (E + 1) 64 3 (.slice o8 (k + 1) c8) (k + 1) (memC U N R)) := O9
              clear e9 O9 e8 hown8 s8
              refine hK.out _ _ S8.out (fun _ => ?_)
              clear hK K
              try simp only [Act.put, List.setIfInBounds_toArray, List.set_cons_zero, List.set_cons_succ, List.getElem_toArray, List.getElem_cons_zero, List.getElem_cons_succ]
              refine wpAnyH_take (i := 13) (v := ?_) rfl (by kernel_rfl) (by kernel_rfl) (by kernel_rfl) (fun _ _ _ h => h) (Or.inl ⟨by rfl, ?takeYr14⟩) S8.out ?takeRr14
              case takeYr14 => (intro w hSw; (try dsimp only at hSw); go_simp; try (with_reducible rfl))
              simp only [Act.put, List.setIfInBounds_toArray, List.set_cons_zero, List.set_cons_succ, List.getElem_toArray, List.getElem_cons_zero, List.getElem_cons_succ]
              refine wpAnyH_ready (rs := [14]) (by kernel_rfl) (by simp) ?_
              refine AllReadyH.cons rfl (fun K hK => ?_) AllReadyH.nil
              go_simp
              refine hK.out _ _ S9.out (fun _ => ?_)
              clear hK K
              try simp only [Act.put, List.setIfInBounds_toArray, List.set_cons_zero, List.set_cons_succ, List.getElem_toArray, List.getElem_cons_zero, List.getElem_cons_succ]
              refine wpAnyH_done (by kernel_rfl) ?_ _
              go_wp2_with fail
              go_roundw
              case rel => exact ⟨k + 1, _, by omega, by go_num, B9, H9.out, HO9.out⟩
              case measure => simp [intOf]; omega
      · obtain rfl : n = k := by omega
        obtain ⟨oo, oc, rfl⟩ := OwnL.shape hA
        obtain ⟨a0, a1, a2, a3, a4⟩ := rm_cells (BA.out wr bw)
        obtain ⟨M0, hM0⟩ : ∃ M0, M0 = wr.heap.size := ⟨_, rfl⟩
        have HML : ∀ q, (Value.slice oo n oc).ownBlock = some q → q < M0 := fun q hq => by rw [hM0]; exact (OwnL.lt hA q hq).2
        have hEM : E < M0 := by rw [hM0]; exact (Array.getElem?_eq_some_iff.1 hEr).1
        have hM1 : M0 ≤ wr.heap.size := by rw [hM0]; exact Nat.le_refl _
        clear hM0
        go_wp2_with fail
        go_loopw [42] (fun i wr => ∃ (k : Nat) (a : Value), k ≤ z ∧ i = .int .i64 k ∧ Below W2.heap.size W2 wr ∧ wr.heap[E]? = some (.cells #[.string nm, .int .i64 nx, (.slice oo n oc), a, .string sb] 33 (0, 0)) ∧ (OwnM wr (E + 1) (.slice oo n oc) n U N R ∧ M0 ≤ wr.heap.size) ∧ OwnK wr M0 a k KU KR) (fun i _ => z - (intOf i).toNat)
        case atStart => exact ⟨0, _, Nat.zero_le _, rfl, bw, hEr, ⟨hA, hM1⟩, OwnL.nil _ _ _ _ _⟩
        case round =>
          clear hA hEr bw hM1 a0 a1 a2 a3 a4
          obtain ⟨k, a, hk, rfl, bw, hEr, hO, hA⟩ := hrel
          have bw0 : Below w.heap.size w wr := b2.trans (bw.mono b2.size)
          by_cases hlt : k < z
          · skip
            obtain ⟨o9, c9, e9, -, -, hc9⟩ := HKK.out wr bw0
            injection e9 with e91 e92 e93
            subst e91 e93
            obtain ⟨b, f, ho, hb, r0, r1⟩ := hc9 k hlt
            subst ho
            have i1 : (0 : Int) ≤ (k : Int) := by omega
            have i2 : (k : Int) < (z : Int) := by omega
            have hsk := HZ.out k hlt
            obtain ⟨F, hF⟩ : ∃ F, F = wr.heap.size := ⟨_, rfl⟩
            obtain ⟨V, hV⟩ : ∃ V, wr.alloc (.cells #[.string (KU k), .int .i64 (KR k)] 68) = V := ⟨_, rfl⟩
            have bv : Below wr.heap.size wr V := by rw [← hV]; exact (Below.refl _ wr).alloc (Nat.le_refl _) _
            have hFV : V.heap[F]? = some (.cells #[.string (KU k), .int .i64 (KR k)] 68 (0, 0)) := by rw [← hV, hF]; exact World.alloc_heap_new wr _
            have hFl : F < V.heap.size := (Array.getElem?_eq_some_iff.1 hFV).1
            have hEl : E < wr.heap.size := (Array.getElem?_eq_some_iff.1 hEr).1
            have FS : Hid (∀ W, Below V.heap.size V W → W.cell? ⟨F, 0, none⟩ = some (.string (KU k)) ∧ W.cell? ⟨F, 1, none⟩ = some (.int .i64 (KR k))) := fun W bb => by
              have h9 := (bb.block F hFl).trans hFV
              simp only [World.cell?, h9]
              exact ⟨rfl, rfl⟩
            have FE : Hid (∀ W, Below V.heap.size V W → W.cell? ⟨E, 3, none⟩ = some a) := fun W bb => by
              have h9 := (bb.block E (Nat.lt_of_lt_of_le hEl bv.size)).trans ((bv.block E hEl).trans hEr)
              simp only [World.cell?, h9]
              rfl
            have FO : Hid (∀ W, Below V.heap.size V W → OwnK W M0 a k KU KR) := fun W bb => OwnL.below (OwnL.below hA bv) (bb.mono (Nat.le_refl _))
            have BX0 : Below V.heap.size V V.drew := (Below.refl _ V).drew
            have HF : Hid (F = wr.heap.size) := hF
            have HFV : Hid (V.heap[F]? = some (.cells #[.string (KU k), .int .i64 (KR k)] 68 (0, 0))) := hFV
            have HV : Hid (wr.alloc (.cells #[.string (KU k), .int .i64 (KR k)] 68) = V) := hV
            have zV := bv.size
            have lwr : W2.heap.size ≤ wr.heap.size := bw.size
            clear hF hV hFV
            go_wp2_with fail
            rw [HV.out, ← HF.out]
            refine wp_region_held_drew (S := (fun W => W.cell? ⟨F, 0, none⟩ = some (.string (KU k)) ∧ W.cell? ⟨F, 1, none⟩ = some (.int .i64 (KR k)))) (by kernel_rfl) (FS.out _ BX0) (fun hHeld => ?_)
            refine wpAnyH_take (i := 0) (v := ?_) rfl (by kernel_rfl) (by kernel_rfl) (by kernel_rfl) (fun _ _ _ h => h) (Or.inl ⟨by rfl, ?takeYr15⟩) (FS.out _ BX0) ?takeRr15
            case takeYr15 => (intro w hSw; (try dsimp only at hSw); go_simp; try (with_reducible rfl))
            simp only [Act.put, List.setIfInBounds_toArray, List.set_cons_zero, List.set_cons_succ, List.getElem_toArray, List.getElem_cons_zero]
            refine wpAnyH_take (i := 2) (v := ?_) rfl (by kernel_rfl) (by kernel_rfl) (by kernel_rfl) (fun _ _ _ h => h) (Or.inl ⟨by rfl, ?takeYr16⟩) (FS.out _ BX0) ?takeRr16
            case takeYr16 => (intro w hSw; (try dsimp only at hSw); go_simp; try (with_reducible rfl))
            simp only [Act.put, List.setIfInBounds_toArray, List.set_cons_zero, List.set_cons_succ, List.getElem_toArray, List.getElem_cons_zero, List.getElem_cons_succ]
            refine wpAnyH_take (i := 3) (v := ?_) rfl (by kernel_rfl) (by kernel_rfl) (by kernel_rfl) (fun _ _ _ h => h) (Or.inl ⟨by rfl, ?takeYr17⟩) (FS.out _ BX0) ?takeRr17
            case takeYr17 => (intro w hSw; (try dsimp only at hSw); go_simp; try (with_reducible rfl))
            simp only [Act.put, List.setIfInBounds_toArray, List.set_cons_zero, List.set_cons_succ, List.getElem_toArray, List.getElem_cons_zero, List.getElem_cons_succ]
            refine wpAnyH_take (i := 5) (v := ?_) rfl (by kernel_rfl) (by kernel_rfl) (by kernel_rfl) (fun _ _ _ h => h) (Or.inl ⟨by rfl, ?takeYr18⟩) (FS.out _ BX0) ?takeRr18
            case takeYr18 => (intro w hSw; (try dsimp only at hSw); go_simp; try (with_reducible rfl))
            simp only [Act.put, List.setIfInBounds_toArray, List.set_cons_zero, List.set_cons_succ, List.getElem_toArray, List.getElem_cons_zero, List.getElem_cons_succ]
            refine wpAnyH_take (i := 6) (v := ?_) rfl (by kernel_rfl) (by kernel_rfl) (by kernel_rfl) (fun _ _ _ h => h) (Or.inl ⟨by rfl, ?takeYr19⟩) (FS.out _ BX0) ?takeRr19
            case takeYr19 => (intro w hSw; (try dsimp only at hSw); go_simp; try (with_reducible rfl))
            simp only [Act.put, List.setIfInBounds_toArray, List.set_cons_zero, List.set_cons_succ, List.getElem_toArray, List.getElem_cons_zero, List.getElem_cons_succ]
            refine wpAnyH_ready (rs := [1, 4]) (by kernel_rfl) (by simp) ?_
            refine (AllReadyH.cons rfl (fun K hK => ?_) (AllReadyH.cons rfl (fun K hK => ?_) AllReadyH.nil))
            · skip
              have cE := FE.out V.drew BX0
              go_simp
              refine hK.out _ _ (FS.out V.drew BX0) (fun _ => ?_)
              clear hK K cE
              try simp only [Act.put, List.setIfInBounds_toArray, List.set_cons_zero, List.set_cons_succ, List.getElem_toArray, List.getElem_cons_zero, List.getElem_cons_succ]
              refine wpAnyH_ready (rs := [4]) (by kernel_rfl) (by simp) ?_
              refine AllReadyH.cons rfl (fun K hK => ?_) AllReadyH.nil
              go_simp
              refine (clone_any (KU k) V.drew (by omega)).mono ?_
              rintro e X1 ⟨rfl, p1⟩
              have BX1 : Below V.heap.size V X1 := BX0.trans (p1.mono BX0.size)
              go_wp2_with fail
              refine hK.out _ _ (FS.out X1 BX1) (fun _ => ?_)
              clear hK K
              try simp only [Act.put, List.setIfInBounds_toArray, List.set_cons_zero, List.set_cons_succ, List.getElem_toArray, List.getElem_cons_zero, List.getElem_cons_succ]
              refine wpAnyH_take (i := 7) (v := ?_) rfl (by kernel_rfl) (by kernel_rfl) (by kernel_rfl) (fun _ _ _ h => h) (Or.inl ⟨by rfl, ?takeYr20⟩) (FS.out X1 BX1) ?takeRr20
              case takeYr20 => (intro w hSw; (try dsimp only at hSw); go_simp; try (with_reducible rfl))
              simp only [Act.put, List.setIfInBounds_toArray, List.set_cons_zero, List.set_cons_succ, List.getElem_toArray, List.getElem_cons_zero, List.getElem_cons_succ]
              refine wpAnyH_ready (rs := [8]) (by kernel_rfl) (by simp) ?_
              refine AllReadyH.cons rfl (fun K hK => ?_) AllReadyH.nil
              have BX2 : Below V.heap.size V (X1.alloc (.cells #[.string (KU k), .int .i64 (KR k)] 68)) := BX1.alloc BX1.size _
              go_simp
              refine hK.out _ _ (FS.out (X1.alloc (.cells #[.string (KU k), .int .i64 (KR k)] 68)) BX2) (fun _ => ?_)
              clear hK K
              try simp only [Act.put, List.setIfInBounds_toArray, List.set_cons_zero, List.set_cons_succ, List.getElem_toArray, List.getElem_cons_zero, List.getElem_cons_succ]
              refine wpAnyH_ready (rs := [9]) (by kernel_rfl) (by simp) ?_
              refine AllReadyH.cons rfl (fun K hK => ?_) AllReadyH.nil
              refine step_append_list (by rfl) _ _ _ (by rfl) M0 68 ir _ 2 24 Tryz.underlying31 hir hr0 hr1 hr2 rfl (by omega) a k (rowVs (rankC KU KR) k) (by rfl) (FO.out (X1.alloc (.cells #[.string (KU k), .int .i64 (KR k)] 68)) BX2) (.slice (some ⟨X1.heap.size, 0, none⟩) 1 1) 1 (fun _ => [.string (KU k), .int .i64 (KR k)]) (by rfl) (two_cells X1 (KU k) (KR k) _) (fun _ => rfl) (one_rank (KU k) (KR k)) (by unfold maxLen; omega) (by omega) (by have := BX1.size; simp; omega) (X1.heap.size + 1) (by simp) ?_
              intro o8 c8 w8 hown8 hgrow8 hat8
              have AL := OwnL.lt hA
              have z9 := BX2.size
              have z7 := HF.out
              have s8 : w8.cell? ⟨F, 0, none⟩ = some (.string (KU k)) ∧ w8.cell? ⟨F, 1, none⟩ = some (.int .i64 (KR k)) := by
                have h9 := (hgrow8.block F (by simp at z9; simp; omega) (fun e => by have := (AL F e.symm).2; omega)).trans ((BX2.block F hFl).trans HFV.out)
                simp only [World.cell?, h9]
                exact ⟨rfl, rfl⟩
              have e8 := (hgrow8.block E (by simp at z9; simp; omega) (fun e => by have := (AL E e.symm).1; omega)).trans ((BX2.block E (by omega)).trans ((bv.block E hEl).trans hEr))
              obtain ⟨y0, y1, y2, y3, y4⟩ := rm_cells e8
              have f8 : ∀ i, w8.frozen? ⟨E, i, none⟩ = false := fun i => by simp [World.frozen?, e8]
              have S8 : Hid (w8.cell? ⟨F, 0, none⟩ = some (.string (KU k)) ∧ w8.cell? ⟨F, 1, none⟩ = some (.int .i64 (KR k))) := s8
              have S9 : Hid ((w8.setCell ⟨E, 3, none⟩ (.slice o8 (k + 1) c8)).cell? ⟨F, 0, none⟩ = some (.string (KU k)) ∧ (w8.setCell ⟨E, 3, none⟩ (.slice o8 (k + 1) c8)).cell? ⟨F, 1, none⟩ = some (.int .i64 (KR k))) := by
                have q : ∀ i, (w8.setCell ⟨E, 3, none⟩ (.slice o8 (k + 1) c8)).cell? ⟨F, i, none⟩ = w8.cell? ⟨F, i, none⟩ := fun i => World.cell?_setCell_other _ _ _ _ (fun e => by have e9 := congrArg Addr.block e; simp at e9; omega)
                rw [q, q]
                exact s8
              have B3 : Below W2.heap.size W2 (X1.alloc (.cells #[.string (KU k), .int .i64 (KR k)] 68)) := (bw.trans (bv.mono bw.size)).trans (BX2.mono (by omega))
              have B8 : Below W2.heap.size W2 w8 := B3.grown hgrow8 B3.size (fun q hq => by have := (AL q hq).1; omega)
              have B9 : Below W2.heap.size W2 (w8.setCell ⟨E, 3, none⟩ (.slice o8 (k + 1) c8)) := B8.setCell (p := ⟨E, 3, none⟩) (by show W2.heap.size ≤ E; omega) _
              have e9 := set_heap w8 E 3 _ _ _ (.slice o8 (k + 1) c8) e8
              simp only [List.setIfInBounds_toArray, List.set_cons_zero, List.set_cons_succ] at e9
              have O9 := OwnL.set (own_push (g := rankC KU KR) hown8 rfl) ⟨E, 3, none⟩ (.slice o8 (k + 1) c8) (by show E < M0; omega)
              have h10 := hgrow8.size
              simp at h10
              have HO2 : Hid (OwnM (w8.setCell ⟨E, 3, none⟩ (.slice o8 (k + 1) c8)) (E + 1) (.slice oo n oc) n U N R ∧ M0 ≤ (w8.setCell ⟨E, 3, none⟩ (.slice o8 (k + 1) c8)).heap.size) := ⟨OwnL.set (OwnL.kept (OwnL.below (OwnL.below hO.1 bv) (BX2.mono (Nat.le_refl _))) hgrow8 (by
                  cases hc : (Value.slice oo n oc).ownBlock with
                  | none => exact .inl rfl
                  | some q => right; intro e; have h1 := HML q hc; have h2 := (AL q e.symm).1; omega)) ⟨E, 3, none⟩ _ (Nat.lt_succ_self E), by have h11 := hO.2; have h12 := BX1.size; simp; omega⟩
              have H9 : Hid ((w8.setCell ⟨E, 3, none⟩ (.slice o8 (k + 1) c8)).heap[E]? = some (.cells #[.string nm, .int .i64 nx, (.slice oo n oc), (.slice o8 (k + 1) c8), .string sb] 33 (0, 0))) := e9
              have HO9 : Hid (OwnL (w8.setCell ⟨E, 3, none⟩ (.slice o8 (k + 1) c8)) M0 68 2 (.slice o8 (k + 1) c8) (k + 1) (rankC KU KR)) := O9
              clear e9 O9 e8 hown8 s8
              refine hK.out _ _ S8.out (fun _ => ?_)
              clear hK K
              try simp only [Act.put, List.setIfInBounds_toArray, List.set_cons_zero, List.set_cons_succ, List.getElem_toArray, List.getElem_cons_zero, List.getElem_cons_succ]
              refine wpAnyH_take (i := 10) (v := ?_) rfl (by kernel_rfl) (by kernel_rfl) (by kernel_rfl) (fun _ _ _ h => h) (Or.inl ⟨by rfl, ?takeYr21⟩) S8.out ?takeRr21
              case takeYr21 => (intro w hSw; (try dsimp only at hSw); go_simp; try (with_reducible rfl))
              simp only [Act.put, List.setIfInBounds_toArray, List.set_cons_zero, List.set_cons_succ, List.getElem_toArray, List.getElem_cons_zero, List.getElem_cons_succ]
              refine wpAnyH_ready (rs := [11]) (by kernel_rfl) (by simp) ?_
              refine AllReadyH.cons rfl (fun K hK => ?_) AllReadyH.nil
              go_simp
              refine hK.out _ _ S9.out (fun _ => ?_)
              clear hK K
              try simp only [Act.put, List.setIfInBounds_toArray, List.set_cons_zero, List.set_cons_succ, List.getElem_toArray, List.getElem_cons_zero, List.getElem_cons_succ]
              refine wpAnyH_done (by kernel_rfl) ?_ _
              go_wp2_with fail
              go_roundw
              case rel => exact ⟨k + 1, _, by omega, by go_num, B9, H9.out, HO2.out, HO9.out⟩
              case measure => simp [intOf]; omega
            · skip
              go_simp
              refine (clone_any (KU k) V.drew (by omega)).mono ?_
              rintro e X1 ⟨rfl, p1⟩
              have BX1 : Below V.heap.size V X1 := BX0.trans (p1.mono BX0.size)
              go_wp2_with fail
              refine hK.out _ _ (FS.out X1 BX1) (fun _ => ?_)
              clear hK K
              try simp only [Act.put, List.setIfInBounds_toArray, List.set_cons_zero, List.set_cons_succ, List.getElem_toArray, List.getElem_cons_zero, List.getElem_cons_succ]
              refine wpAnyH_take (i := 7) (v := ?_) rfl (by kernel_rfl) (by kernel_rfl) (by kernel_rfl) (fun _ _ _ h => h) (Or.inl ⟨by rfl, ?takeYr22⟩) (FS.out X1 BX1) ?takeRr22
              case takeYr22 => (intro w hSw; (try dsimp only at hSw); go_simp; try (with_reducible rfl))
              simp only [Act.put, List.setIfInBounds_toArray, List.set_cons_zero, List.set_cons_succ, List.getElem_toArray, List.getElem_cons_zero, List.getElem_cons_succ]
              refine wpAnyH_ready (rs := [1, 8]) (by kernel_rfl) (by simp) ?_
              refine (AllReadyH.cons rfl (fun K hK => ?_) (AllReadyH.cons rfl (fun K hK => ?_) AllReadyH.nil))
              · skip
                have cE := FE.out X1 BX1
                go_simp
                refine hK.out _ _ (FS.out X1 BX1) (fun _ => ?_)
                clear hK K cE
                try simp only [Act.put, List.setIfInBounds_toArray, List.set_cons_zero, List.set_cons_succ, List.getElem_toArray, List.getElem_cons_zero, List.getElem_cons_succ]
                refine wpAnyH_ready (rs := [8]) (by kernel_rfl) (by simp) ?_
                refine AllReadyH.cons rfl (fun K hK => ?_) AllReadyH.nil
                have BX2 : Below V.heap.size V (X1.alloc (.cells #[.string (KU k), .int .i64 (KR k)] 68)) := BX1.alloc BX1.size _
                go_simp
                refine hK.out _ _ (FS.out (X1.alloc (.cells #[.string (KU k), .int .i64 (KR k)] 68)) BX2) (fun _ => ?_)
                clear hK K
                try simp only [Act.put, List.setIfInBounds_toArray, List.set_cons_zero, List.set_cons_succ, List.getElem_toArray, List.getElem_cons_zero, List.getElem_cons_succ]
                refine wpAnyH_ready (rs := [9]) (by kernel_rfl) (by simp) ?_
                refine AllReadyH.cons rfl (fun K hK => ?_) AllReadyH.nil
                refine step_append_list (by rfl) _ _ _ (by rfl) M0 68 ir _ 2 24 Tryz.underlying31 hir hr0 hr1 hr2 rfl (by omega) a k (rowVs (rankC KU KR) k) (by rfl) (FO.out (X1.alloc (.cells #[.string (KU k), .int .i64 (KR k)] 68)) BX2) (.slice (some ⟨X1.heap.size, 0, none⟩) 1 1) 1 (fun _ => [.string (KU k), .int .i64 (KR k)]) (by rfl) (two_cells X1 (KU k) (KR k) _) (fun _ => rfl) (one_rank (KU k) (KR k)) (by unfold maxLen; omega) (by omega) (by have := BX1.size; simp; omega) (X1.heap.size + 1) (by simp) ?_
                intro o8 c8 w8 hown8 hgrow8 hat8
                have AL := OwnL.lt hA
                have z9 := BX2.size
                have z7 := HF.out
                have s8 : w8.cell? ⟨F, 0, none⟩ = some (.string (KU k)) ∧ w8.cell? ⟨F, 1, none⟩ = some (.int .i64 (KR k)) := by
                  have h9 := (hgrow8.block F (by simp at z9; simp; omega) (fun e => by have := (AL F e.symm).2; omega)).trans ((BX2.block F hFl).trans HFV.out)
                  simp only [World.cell?, h9]
                  exact ⟨rfl, rfl⟩
                have e8 := (hgrow8.block E (by simp at z9; simp; omega) (fun e => by have := (AL E e.symm).1; omega)).trans ((BX2.block E (by omega)).trans ((bv.block E hEl).trans hEr))
                obtain ⟨y0, y1, y2, y3, y4⟩ := rm_cells e8
                have f8 : ∀ i, w8.frozen? ⟨E, i, none⟩ = false := fun i => by simp [World.frozen?, e8]
                have S8 : Hid (w8.cell? ⟨F, 0, none⟩ = some (.string (KU k)) ∧ w8.cell? ⟨F, 1, none⟩ = some (.int .i64 (KR k))) := s8
                have S9 : Hid ((w8.setCell ⟨E, 3, none⟩ (.slice o8 (k + 1) c8)).cell? ⟨F, 0, none⟩ = some (.string (KU k)) ∧ (w8.setCell ⟨E, 3, none⟩ (.slice o8 (k + 1) c8)).cell? ⟨F, 1, none⟩ = some (.int .i64 (KR k))) := by
                  have q : ∀ i, (w8.setCell ⟨E, 3, none⟩ (.slice o8 (k + 1) c8)).cell? ⟨F, i, none⟩ = w8.cell? ⟨F, i, none⟩ := fun i => World.cell?_setCell_other _ _ _ _ (fun e => by have e9 := congrArg Addr.block e; simp at e9; omega)
                  rw [q, q]
                  exact s8
                have B3 : Below W2.heap.size W2 (X1.alloc (.cells #[.string (KU k), .int .i64 (KR k)] 68)) := (bw.trans (bv.mono bw.size)).trans (BX2.mono (by omega))
                have B8 : Below W2.heap.size W2 w8 := B3.grown hgrow8 B3.size (fun q hq => by have := (AL q hq).1; omega)
                have B9 : Below W2.heap.size W2 (w8.setCell ⟨E, 3, none⟩ (.slice o8 (k + 1) c8)) := B8.setCell (p := ⟨E, 3, none⟩) (by show W2.heap.size ≤ E; omega) _
                have e9 := set_heap w8 E 3 _ _ _ (.slice o8 (k + 1) c8) e8
                simp only [List.setIfInBounds_toArray, List.set_cons_zero, List.set_cons_succ] at e9
                have O9 := OwnL.set (own_push (g := rankC KU KR) hown8 rfl) ⟨E, 3, none⟩ (.slice o8 (k + 1) c8) (by show E < M0; omega)
                have h10 := hgrow8.size
                simp at h10
                have HO2 : Hid (OwnM (w8.setCell ⟨E, 3, none⟩ (.slice o8 (k + 1) c8)) (E + 1) (.slice oo n oc) n U N R ∧ M0 ≤ (w8.setCell ⟨E, 3, none⟩ (.slice o8 (k + 1) c8)).heap.size) := ⟨OwnL.set (OwnL.kept (OwnL.below (OwnL.below hO.1 bv) (BX2.mono (Nat.le_refl _))) hgrow8 (by
                    cases hc : (Value.slice oo n oc).ownBlock with
                    | none => exact .inl rfl
                    | some q => right; intro e; have h1 := HML q hc; have h2 := (AL q e.symm).1; omega)) ⟨E, 3, none⟩ _ (Nat.lt_succ_self E), by have h11 := hO.2; have h12 := BX1.size; simp; omega⟩
                have H9 : Hid ((w8.setCell ⟨E, 3, none⟩ (.slice o8 (k + 1) c8)).heap[E]? = some (.cells #[.string nm, .int .i64 nx, (.slice oo n oc), (.slice o8 (k + 1) c8), .string sb] 33 (0, 0))) := e9
                have HO9 : Hid (OwnL (w8.setCell ⟨E, 3, none⟩ (.slice o8 (k + 1) c8)) M0 68 2 (.slice o8 (k + 1) c8) (k + 1) (rankC KU KR)) := O9
                clear e9 O9 e8 hown8 s8
                refine hK.out _ _ S8.out (fun _ => ?_)
                clear hK K
                try simp only [Act.put, List.setIfInBounds_toArray, List.set_cons_zero, List.set_cons_succ, List.getElem_toArray, List.getElem_cons_zero, List.getElem_cons_succ]
                refine wpAnyH_take (i := 10) (v := ?_) rfl (by kernel_rfl) (by kernel_rfl) (by kernel_rfl) (fun _ _ _ h => h) (Or.inl ⟨by rfl, ?takeYr23⟩) S8.out ?takeRr23
                case takeYr23 => (intro w hSw; (try dsimp only at hSw); go_simp; try (with_reducible rfl))
                simp only [Act.put, List.setIfInBounds_toArray, List.set_cons_zero, List.set_cons_succ, List.getElem_toArray, List.getElem_cons_zero, List.getElem_cons_succ]
                refine wpAnyH_ready (rs := [11]) (by kernel_rfl) (by simp) ?_
                refine AllReadyH.cons rfl (fun K hK => ?_) AllReadyH.nil
                go_simp
                refine hK.out _ _ S9.out (fun _ => ?_)
                clear hK K
                try simp only [Act.put, List.setIfInBounds_toArray, List.set_cons_zero, List.set_cons_succ, List.getElem_toArray, List.getElem_cons_zero, List.getElem_cons_succ]
                refine wpAnyH_done (by kernel_rfl) ?_ _
                go_wp2_with fail
                go_roundw
                case rel => exact ⟨k + 1, _, by omega, by go_num, B9, H9.out, HO2.out, HO9.out⟩
                case measure => simp [intOf]; omega
              · skip
                have BX2 : Below V.heap.size V (X1.alloc (.cells #[.string (KU k), .int .i64 (KR k)] 68)) := BX1.alloc BX1.size _
                go_simp
                refine hK.out _ _ (FS.out (X1.alloc (.cells #[.string (KU k), .int .i64 (KR k)] 68)) BX2) (fun _ => ?_)
                clear hK K
                try simp only [Act.put, List.setIfInBounds_toArray, List.set_cons_zero, List.set_cons_succ, List.getElem_toArray, List.getElem_cons_zero, List.getElem_cons_succ]
                refine wpAnyH_ready (rs := [1]) (by kernel_rfl) (by simp) ?_
                refine AllReadyH.cons rfl (fun K hK => ?_) AllReadyH.nil
                have cE := FE.out (X1.alloc (.cells #[.string (KU k), .int .i64 (KR k)] 68)) BX2
                go_simp
                refine hK.out _ _ (FS.out (X1.alloc (.cells #[.string (KU k), .int .i64 (KR k)] 68)) BX2) (fun _ => ?_)
                clear hK K cE
                try simp only [Act.put, List.setIfInBounds_toArray, List.set_cons_zero, List.set_cons_succ, List.getElem_toArray, List.getElem_cons_zero, List.getElem_cons_succ]
                refine wpAnyH_ready (rs := [9]) (by kernel_rfl) (by simp) ?_
                refine AllReadyH.cons rfl (fun K hK => ?_) AllReadyH.nil
                refine step_append_list (by rfl) _ _ _ (by rfl) M0 68 ir _ 2 24 Tryz.underlying31 hir hr0 hr1 hr2 rfl (by omega) a k (rowVs (rankC KU KR) k) (by rfl) (FO.out (X1.alloc (.cells #[.string (KU k), .int .i64 (KR k)] 68)) BX2) (.slice (some ⟨X1.heap.size, 0, none⟩) 1 1) 1 (fun _ => [.string (KU k), .int .i64 (KR k)]) (by rfl) (two_cells X1 (KU k) (KR k) _) (fun _ => rfl) (one_rank (KU k) (KR k)) (by unfold maxLen; omega) (by omega) (by have := BX1.size; simp; omega) (X1.heap.size + 1) (by simp) ?_
                intro o8 c8 w8 hown8 hgrow8 hat8
                have AL := OwnL.lt hA
                have z9 := BX2.size
                have z7 := HF.out
                have s8 : w8.cell? ⟨F, 0, none⟩ = some (.string (KU k)) ∧ w8.cell? ⟨F, 1, none⟩ = some (.int .i64 (KR k)) := by
                  have h9 := (hgrow8.block F (by simp at z9; simp; omega) (fun e => by have := (AL F e.symm).2; omega)).trans ((BX2.block F hFl).trans HFV.out)
                  simp only [World.cell?, h9]
                  exact ⟨rfl, rfl⟩
                have e8 := (hgrow8.block E (by simp at z9; simp; omega) (fun e => by have := (AL E e.symm).1; omega)).trans ((BX2.block E (by omega)).trans ((bv.block E hEl).trans hEr))
                obtain ⟨y0, y1, y2, y3, y4⟩ := rm_cells e8
                have f8 : ∀ i, w8.frozen? ⟨E, i, none⟩ = false := fun i => by simp [World.frozen?, e8]
                have S8 : Hid (w8.cell? ⟨F, 0, none⟩ = some (.string (KU k)) ∧ w8.cell? ⟨F, 1, none⟩ = some (.int .i64 (KR k))) := s8
                have S9 : Hid ((w8.setCell ⟨E, 3, none⟩ (.slice o8 (k + 1) c8)).cell? ⟨F, 0, none⟩ = some (.string (KU k)) ∧ (w8.setCell ⟨E, 3, none⟩ (.slice o8 (k + 1) c8)).cell? ⟨F, 1, none⟩ = some (.int .i64 (KR k))) := by
                  have q : ∀ i, (w8.setCell ⟨E, 3, none⟩ (.slice o8 (k + 1) c8)).cell? ⟨F, i, none⟩ = w8.cell? ⟨F, i, none⟩ := fun i => World.cell?_setCell_other _ _ _ _ (fun e => by have e9 := congrArg Addr.block e; simp at e9; omega)
                  rw [q, q]
                  exact s8
                have B3 : Below W2.heap.size W2 (X1.alloc (.cells #[.string (KU k), .int .i64 (KR k)] 68)) := (bw.trans (bv.mono bw.size)).trans (BX2.mono (by omega))
                have B8 : Below W2.heap.size W2 w8 := B3.grown hgrow8 B3.size (fun q hq => by have := (AL q hq).1; omega)
                have B9 : Below W2.heap.size W2 (w8.setCell ⟨E, 3, none⟩ (.slice o8 (k + 1) c8)) := B8.setCell (p := ⟨E, 3, none⟩) (by show W2.heap.size ≤ E; omega) _
                have e9 := set_heap w8 E 3 _ _ _ (.slice o8 (k + 1) c8) e8
                simp only [List.setIfInBounds_toArray, List.set_cons_zero, List.set_cons_succ] at e9
                have O9 := OwnL.set (own_push (g := rankC KU KR) hown8 rfl) ⟨E, 3, none⟩ (.slice o8 (k + 1) c8) (by show E < M0; omega)
                have h10 := hgrow8.size
                simp at h10
                have HO2 : Hid (OwnM (w8.setCell ⟨E, 3, none⟩ (.slice o8 (k + 1) c8)) (E + 1) (.slice oo n oc) n U N R ∧ M0 ≤ (w8.setCell ⟨E, 3, none⟩ (.slice o8 (k + 1) c8)).heap.size) := ⟨OwnL.set (OwnL.kept (OwnL.below (OwnL.below hO.1 bv) (BX2.mono (Nat.le_refl _))) hgrow8 (by
                    cases hc : (Value.slice oo n oc).ownBlock with
                    | none => exact .inl rfl
                    | some q => right; intro e; have h1 := HML q hc; have h2 := (AL q e.symm).1; omega)) ⟨E, 3, none⟩ _ (Nat.lt_succ_self E), by have h11 := hO.2; have h12 := BX1.size; simp; omega⟩
                have H9 : Hid ((w8.setCell ⟨E, 3, none⟩ (.slice o8 (k + 1) c8)).heap[E]? = some (.cells #[.string nm, .int .i64 nx, (.slice oo n oc), (.slice o8 (k + 1) c8), .string sb] 33 (0, 0))) := e9
                have HO9 : Hid (OwnL (w8.setCell ⟨E, 3, none⟩ (.slice o8 (k + 1) c8)) M0 68 2 (.slice o8 (k + 1) c8) (k + 1) (rankC KU KR)) := O9
                clear e9 O9 e8 hown8 s8
                refine hK.out _ _ S8.out (fun _ => ?_)
                clear hK K
                try simp only [Act.put, List.setIfInBounds_toArray, List.set_cons_zero, List.set_cons_succ, List.getElem_toArray, List.getElem_cons_zero, List.getElem_cons_succ]
                refine wpAnyH_take (i := 10) (v := ?_) rfl (by kernel_rfl) (by kernel_rfl) (by kernel_rfl) (fun _ _ _ h => h) (Or.inl ⟨by rfl, ?takeYr24⟩) S8.out ?takeRr24
                case takeYr24 => (intro w hSw; (try dsimp only at hSw); go_simp; try (with_reducible rfl))
                simp only [Act.put, List.setIfInBounds_toArray, List.set_cons_zero, List.set_cons_succ, List.getElem_toArray, List.getElem_cons_zero, List.getElem_cons_succ]
                refine wpAnyH_ready (rs := [11]) (by kernel_rfl) (by simp) ?_
                refine AllReadyH.cons rfl (fun K hK => ?_) AllReadyH.nil
                go_simp
                refine hK.out _ _ S9.out (fun _ => ?_)
                clear hK K
                try simp only [Act.put, List.setIfInBounds_toArray, List.set_cons_zero, List.set_cons_succ, List.getElem_toArray, List.getElem_cons_zero, List.getElem_cons_succ]
                refine wpAnyH_done (by kernel_rfl) ?_ _
                go_wp2_with fail
                go_roundw
                case rel => exact ⟨k + 1, _, by omega, by go_num, B9, H9.out, HO2.out, HO9.out⟩
                case measure => simp [intOf]; omega
          · obtain rfl : z = k := by omega
            obtain ⟨po, pc, rfl⟩ := OwnL.shape hA
            obtain ⟨x0, x1, x2, x3, x4⟩ := rm_cells hEr
            have eZ9 := BZ.out wr bw
            have HZ9 : Hid (wr.heap[w.heap.size + 1]? = _) := eZ9
            obtain ⟨z0, z1, z2, z3, z4⟩ := rm_cells eZ9
            have zf : ∀ j, wr.frozen? ⟨w.heap.size + 1, j, none⟩ = false := fun j => by simp [World.frozen?, eZ9]
            clear eZ9
            go_wp2_with fail
            have hz2 := HS2.out
            obtain ⟨NR, bl, k0, k1, k2, k3, k4⟩ := fin_room (w := w) (nm := nm) (nx := nx) (sb := sb) HZ9.out (by omega) (show w.heap.size + 1 < E + 1 by omega) bw0 hO.1 (OwnL.mono hA (show E + 1 ≤ M0 by omega)) (fun q h1 h2 => by have g1 := HML q h1; have g2 := (OwnL.lt hA q h2).1; omega)
            obtain ⟨W9, hW9⟩ : ∃ W9, roomW wr (w.heap.size + 1) nm nx (.slice oo n oc) (.slice po z pc) sb = W9 := ⟨_, rfl⟩
            rw [hW9] at NR bl k0 k1 k2 k3 k4
            unfold roomW at hW9
            rw [hW9]
            exact bodyPost_ret (v := roomV nm nx (.slice oo n oc) (.slice po z pc) sb) (by simp [results, Tryz.results23, go_sem, k0, k1, k2, k3, k4]) rfl ⟨⟨_, rfl, NR⟩, bl⟩
  clear hK1
  refine wp_region_held_drew (S := (fun W => W.heap[w.heap.size]? = some (.cells #[.string nm, .int .i64 nx, .slice mo n mc, .slice ko z kc, .string sb] 33 (0, 0)))) (by kernel_rfl) eA (fun hHeld => ?_)
  refine wpAnyH_take (i := 0) (v := ?_) rfl (by kernel_rfl) (by kernel_rfl) (by kernel_rfl) (fun _ _ _ h => h) (Or.inl ⟨by rfl, ?takeYq25⟩) eA ?takeRq25
  case takeYq25 => (intro w9 hSw; (try dsimp only at hSw); obtain ⟨x0, x1, x2, x3, x4⟩ := rm_cells hSw; go_simp; try (with_reducible rfl))
  simp only [Act.put, List.setIfInBounds_toArray, List.set_cons_zero, List.set_cons_succ, List.getElem_toArray, List.getElem_cons_zero]
  refine wpAnyH_take (i := 1) (v := ?_) rfl (by kernel_rfl) (by kernel_rfl) (by kernel_rfl) (fun _ _ _ h => h) (Or.inl ⟨by rfl, ?takeYq26⟩) eA ?takeRq26
  case takeYq26 => (intro w9 hSw; (try dsimp only at hSw); obtain ⟨x0, x1, x2, x3, x4⟩ := rm_cells hSw; go_simp; try (with_reducible rfl))
  simp only [Act.put, List.setIfInBounds_toArray, List.set_cons_zero, List.set_cons_succ, List.getElem_toArray, List.getElem_cons_zero, List.getElem_cons_succ]
  refine wpAnyH_take (i := 3) (v := ?_) rfl (by kernel_rfl) (by kernel_rfl) (by kernel_rfl) (fun _ _ _ h => h) (Or.inl ⟨by rfl, ?takeYq27⟩) eA ?takeRq27
  case takeYq27 => (intro w9 hSw; (try dsimp only at hSw); obtain ⟨x0, x1, x2, x3, x4⟩ := rm_cells hSw; go_simp; try (with_reducible rfl))
  simp only [Act.put, List.setIfInBounds_toArray, List.set_cons_zero, List.set_cons_succ, List.getElem_toArray, List.getElem_cons_zero, List.getElem_cons_succ]
  refine wpAnyH_take (i := 4) (v := ?_) rfl (by kernel_rfl) (by kernel_rfl) (by kernel_rfl) (fun _ _ _ h => h) (Or.inl ⟨by rfl, ?takeYq28⟩) eA ?takeRq28
  case takeYq28 => (intro w9 hSw; (try dsimp only at hSw); obtain ⟨x0, x1, x2, x3, x4⟩ := rm_cells hSw; go_simp; try (with_reducible rfl))
  simp only [Act.put, List.setIfInBounds_toArray, List.set_cons_zero, List.set_cons_succ, List.getElem_toArray, List.getElem_cons_zero, List.getElem_cons_succ]
  refine wpAnyH_take (i := 5) (v := ?_) rfl (by kernel_rfl) (by kernel_rfl) (by kernel_rfl) (fun _ _ _ h => h) (Or.inl ⟨by rfl, ?takeYq29⟩) eA ?takeRq29
  case takeYq29 => (intro w9 hSw; (try dsimp only at hSw); obtain ⟨x0, x1, x2, x3, x4⟩ := rm_cells hSw; go_simp; try (with_reducible rfl))
  simp only [Act.put, List.setIfInBounds_toArray, List.set_cons_zero, List.set_cons_succ, List.getElem_toArray, List.getElem_cons_zero, List.getElem_cons_succ]
  refine wpAnyH_take (i := 6) (v := ?_) rfl (by kernel_rfl) (by kernel_rfl) (by kernel_rfl) (fun _ _ _ h => h) (Or.inl ⟨by rfl, ?takeYq30⟩) eA ?takeRq30
  case takeYq30 => (intro w9 hSw; (try dsimp only at hSw); obtain ⟨x0, x1, x2, x3, x4⟩ := rm_cells hSw; go_simp; try (with_reducible rfl))
  simp only [Act.put, List.setIfInBounds_toArray, List.set_cons_zero, List.set_cons_succ, List.getElem_toArray, List.getElem_cons_zero, List.getElem_cons_succ]
  have B0 : Below W2.heap.size W2 W2.drew := (Below.refl _ W2).drew
  refine wpAnyH_ready (rs := [2, 9]) (by kernel_rfl) (by simp) ?_
  refine (AllReadyH.cons rfl (fun K hK => ?_) (AllReadyH.cons rfl (fun K hK => ?_) AllReadyH.nil))
  · skip
    go_simp
    refine (clone_any nm W2.drew (by omega)).mono ?_
    rintro e X0b ⟨rfl, p9⟩
    have bX0b : Below W2.heap.size W2 X0b := B0.trans (p9.mono B0.size)
    go_wp2_with fail
    refine hK.out _ _ (BA.out X0b bX0b) (fun _ => ?_)
    clear hK K p9
    try simp only [Act.put, List.setIfInBounds_toArray, List.set_cons_zero, List.set_cons_succ, List.getElem_toArray, List.getElem_cons_zero, List.getElem_cons_succ]
    refine wpAnyH_ready (rs := [7, 9]) (by kernel_rfl) (by simp) ?_
    refine (AllReadyH.cons rfl (fun K hK => ?_) (AllReadyH.cons rfl (fun K hK => ?_) AllReadyH.nil))
    · skip
      go_simp
      refine (clone_any sb X0b (by omega)).mono ?_
      rintro e X1b ⟨rfl, p9⟩
      have bX1b : Below W2.heap.size W2 X1b := bX0b.trans (p9.mono bX0b.size)
      go_wp2_with fail
      refine hK.out _ _ (BA.out X1b bX1b) (fun _ => ?_)
      clear hK K p9
      try simp only [Act.put, List.setIfInBounds_toArray, List.set_cons_zero, List.set_cons_succ, List.getElem_toArray, List.getElem_cons_zero, List.getElem_cons_succ]
      refine wpAnyH_take (i := 8) (v := ?_) rfl (by kernel_rfl) (by kernel_rfl) (by kernel_rfl) (fun _ _ _ h => h) (Or.inl ⟨by rfl, ?takeYq31⟩) (BA.out X1b bX1b) ?takeRq31
      case takeYq31 => (intro w9 hSw; (try dsimp only at hSw); obtain ⟨x0, x1, x2, x3, x4⟩ := rm_cells hSw; go_simp; try (with_reducible rfl))
      simp only [Act.put, List.setIfInBounds_toArray, List.set_cons_zero, List.set_cons_succ, List.getElem_toArray, List.getElem_cons_zero, List.getElem_cons_succ]
      refine wpAnyH_ready (rs := [9]) (by kernel_rfl) (by simp) ?_
      refine AllReadyH.cons rfl (fun K hK => ?_) AllReadyH.nil
      go_simp
      obtain ⟨V2, hV2⟩ : ∃ V, X1b.alloc (.cells #[.string ⟨#[]⟩, .int .i64 0, .slice none 0 0, .slice none 0 0, .string ⟨#[]⟩] 33) = V := ⟨_, rfl⟩
      have v2 : Below W2.heap.size W2 V2 := by rw [← hV2]; exact bX1b.alloc bX1b.size (.cells #[.string ⟨#[]⟩, .int .i64 0, .slice none 0 0, .slice none 0 0, .string ⟨#[]⟩] 33)
      have eV2 : V2.heap[X1b.heap.size]? = some (.cells #[.string ⟨#[]⟩, .int .i64 0, .slice none 0 0, .slice none 0 0, .string ⟨#[]⟩] 33 (0, 0)) := by rw [← hV2]; exact World.alloc_heap_new X1b _
      have lV2 : X1b.heap.size < V2.heap.size := by rw [← hV2]; simp
      have mV2 := bX1b.size
      rw [hV2]
      refine hK.out _ _ (BA.out V2 v2) (fun _ => ?_)
      clear hK K hV2
      try simp only [Act.put, List.setIfInBounds_toArray, List.set_cons_zero, List.set_cons_succ, List.getElem_toArray, List.getElem_cons_zero, List.getElem_cons_succ]
      refine wpAnyH_ready (rs := [10]) (by kernel_rfl) (by simp) ?_
      refine AllReadyH.cons rfl (fun K hK => ?_) AllReadyH.nil
      obtain ⟨x0, x1, x2, x3, x4⟩ := rm_cells eV2
      have fz9 : ∀ j, V2.frozen? ⟨X1b.heap.size, j, none⟩ = false := fun j => by simp [World.frozen?, eV2]
      go_simp
      obtain ⟨W9, hW9⟩ : ∃ W9, roomW V2 (X1b.heap.size) nm nx (.slice none 0 0) (.slice none 0 0) sb = W9 := ⟨_, rfl⟩
      have e9 : W9.heap[X1b.heap.size]? = some (.cells #[.string nm, .int .i64 nx, .slice none 0 0, .slice none 0 0, .string sb] 33 (0, 0)) := by rw [← hW9]; exact roomW_heap eV2 _ _ _ _ _
      have b9 : Below W2.heap.size W2 W9 := by rw [← hW9]; exact roomW_below v2 (show W2.heap.size ≤ X1b.heap.size by omega) _ _ _ _ _
      unfold roomW at hW9
      rw [hW9]
      refine hK.out _ _ (BA.out W9 b9) (fun _ => ?_)
      clear hK K
      try simp only [Act.put, List.setIfInBounds_toArray, List.set_cons_zero, List.set_cons_succ, List.getElem_toArray, List.getElem_cons_zero, List.getElem_cons_succ]
      refine wpAnyH_done (by kernel_rfl) ?_ _
      exact TAIL (X1b.heap.size) W9 _ _ _ _ _ _ _ _ _ (by omega) b9 e9
    · skip
      go_simp
      obtain ⟨V1, hV1⟩ : ∃ V, X0b.alloc (.cells #[.string ⟨#[]⟩, .int .i64 0, .slice none 0 0, .slice none 0 0, .string ⟨#[]⟩] 33) = V := ⟨_, rfl⟩
      have v1 : Below W2.heap.size W2 V1 := by rw [← hV1]; exact bX0b.alloc bX0b.size (.cells #[.string ⟨#[]⟩, .int .i64 0, .slice none 0 0, .slice none 0 0, .string ⟨#[]⟩] 33)
      have eV1 : V1.heap[X0b.heap.size]? = some (.cells #[.string ⟨#[]⟩, .int .i64 0, .slice none 0 0, .slice none 0 0, .string ⟨#[]⟩] 33 (0, 0)) := by rw [← hV1]; exact World.alloc_heap_new X0b _
      have lV1 : X0b.heap.size < V1.heap.size := by rw [← hV1]; simp
      have mV1 := bX0b.size
      rw [hV1]
      refine hK.out _ _ (BA.out V1 v1) (fun _ => ?_)
      clear hK K hV1
      try simp only [Act.put, List.setIfInBounds_toArray, List.set_cons_zero, List.set_cons_succ, List.getElem_toArray, List.getElem_cons_zero, List.getElem_cons_succ]
      refine wpAnyH_ready (rs := [7]) (by kernel_rfl) (by simp) ?_
      refine AllReadyH.cons rfl (fun K hK => ?_) AllReadyH.nil
      go_simp
      refine (clone_any sb V1 (by omega)).mono ?_
      rintro e X1a ⟨rfl, p9⟩
      have bX1a : Below W2.heap.size W2 X1a := v1.trans (p9.mono v1.size)
      have eX1a := (p9.block _ (Array.getElem?_eq_some_iff.1 eV1).1).trans eV1
      go_wp2_with fail
      refine hK.out _ _ (BA.out X1a bX1a) (fun _ => ?_)
      clear hK K p9
      try simp only [Act.put, List.setIfInBounds_toArray, List.set_cons_zero, List.set_cons_succ, List.getElem_toArray, List.getElem_cons_zero, List.getElem_cons_succ]
      refine wpAnyH_take (i := 8) (v := ?_) rfl (by kernel_rfl) (by kernel_rfl) (by kernel_rfl) (fun _ _ _ h => h) (Or.inl ⟨by rfl, ?takeYq32⟩) (BA.out X1a bX1a) ?takeRq32
      case takeYq32 => (intro w9 hSw; (try dsimp only at hSw); obtain ⟨x0, x1, x2, x3, x4⟩ := rm_cells hSw; go_simp; try (with_reducible rfl))
      simp only [Act.put, List.setIfInBounds_toArray, List.set_cons_zero, List.set_cons_succ, List.getElem_toArray, List.getElem_cons_zero, List.getElem_cons_succ]
      refine wpAnyH_ready (rs := [10]) (by kernel_rfl) (by simp) ?_
      refine AllReadyH.cons rfl (fun K hK => ?_) AllReadyH.nil
      obtain ⟨x0, x1, x2, x3, x4⟩ := rm_cells eX1a
      have fz9 : ∀ j, X1a.frozen? ⟨X0b.heap.size, j, none⟩ = false := fun j => by simp [World.frozen?, eX1a]
      go_simp
      obtain ⟨W9, hW9⟩ : ∃ W9, roomW X1a (X0b.heap.size) nm nx (.slice none 0 0) (.slice none 0 0) sb = W9 := ⟨_, rfl⟩
      have e9 : W9.heap[X0b.heap.size]? = some (.cells #[.string nm, .int .i64 nx, .slice none 0 0, .slice none 0 0, .string sb] 33 (0, 0)) := by rw [← hW9]; exact roomW_heap eX1a _ _ _ _ _
      have b9 : Below W2.heap.size W2 W9 := by rw [← hW9]; exact roomW_below bX1a (show W2.heap.size ≤ X0b.heap.size by omega) _ _ _ _ _
      unfold roomW at hW9
      rw [hW9]
      refine hK.out _ _ (BA.out W9 b9) (fun _ => ?_)
      clear hK K
      try simp only [Act.put, List.setIfInBounds_toArray, List.set_cons_zero, List.set_cons_succ, List.getElem_toArray, List.getElem_cons_zero, List.getElem_cons_succ]
      refine wpAnyH_done (by kernel_rfl) ?_ _
      exact TAIL (X0b.heap.size) W9 _ _ _ _ _ _ _ _ _ (by omega) b9 e9
  · skip
    go_simp
    obtain ⟨V0, hV0⟩ : ∃ V, (W2.alloc (.cells #[.string ⟨#[]⟩, .int .i64 0, .slice none 0 0, .slice none 0 0, .string ⟨#[]⟩] 33)).drew = V := ⟨_, rfl⟩
    have v0 : Below W2.heap.size W2 V0 := by rw [← hV0]; exact B0.alloc B0.size (.cells #[.string ⟨#[]⟩, .int .i64 0, .slice none 0 0, .slice none 0 0, .string ⟨#[]⟩] 33)
    have eV0 : V0.heap[W2.heap.size]? = some (.cells #[.string ⟨#[]⟩, .int .i64 0, .slice none 0 0, .slice none 0 0, .string ⟨#[]⟩] 33 (0, 0)) := by rw [← hV0]; exact World.alloc_heap_new W2.drew _
    have lV0 : W2.heap.size < V0.heap.size := by rw [← hV0]; simp
    have mV0 := B0.size
    rw [hV0]
    refine hK.out _ _ (BA.out V0 v0) (fun _ => ?_)
    clear hK K hV0
    try simp only [Act.put, List.setIfInBounds_toArray, List.set_cons_zero, List.set_cons_succ, List.getElem_toArray, List.getElem_cons_zero, List.getElem_cons_succ]
    refine wpAnyH_ready (rs := [2]) (by kernel_rfl) (by simp) ?_
    refine AllReadyH.cons rfl (fun K hK => ?_) AllReadyH.nil
    go_simp
    refine (clone_any nm V0 (by omega)).mono ?_
    rintro e X0a ⟨rfl, p9⟩
    have bX0a : Below W2.heap.size W2 X0a := v0.trans (p9.mono v0.size)
    have eX0a := (p9.block _ (Array.getElem?_eq_some_iff.1 eV0).1).trans eV0
    go_wp2_with fail
    refine hK.out _ _ (BA.out X0a bX0a) (fun _ => ?_)
    clear hK K p9
    try simp only [Act.put, List.setIfInBounds_toArray, List.set_cons_zero, List.set_cons_succ, List.getElem_toArray, List.getElem_cons_zero, List.getElem_cons_succ]
    refine wpAnyH_ready (rs := [7]) (by kernel_rfl) (by simp) ?_
    refine AllReadyH.cons rfl (fun K hK => ?_) AllReadyH.nil
    go_simp
    refine (clone_any sb X0a (by omega)).mono ?_
    rintro e X1a ⟨rfl, p9⟩
    have bX1a : Below W2.heap.size W2 X1a := bX0a.trans (p9.mono bX0a.size)
    have eX1a := (p9.block _ (Array.getElem?_eq_some_iff.1 eX0a).1).trans eX0a
    go_wp2_with fail
    refine hK.out _ _ (BA.out X1a bX1a) (fun _ => ?_)
    clear hK K p9
    try simp only [Act.put, List.setIfInBounds_toArray, List.set_cons_zero, List.set_cons_succ, List.getElem_toArray, List.getElem_cons_zero, List.getElem_cons_succ]
    refine wpAnyH_take (i := 8) (v := ?_) rfl (by kernel_rfl) (by kernel_rfl) (by kernel_rfl) (fun _ _ _ h => h) (Or.inl ⟨by rfl, ?takeYq33⟩) (BA.out X1a bX1a) ?takeRq33
    case takeYq33 => (intro w9 hSw; (try dsimp only at hSw); obtain ⟨x0, x1, x2, x3, x4⟩ := rm_cells hSw; go_simp; try (with_reducible rfl))
    simp only [Act.put, List.setIfInBounds_toArray, List.set_cons_zero, List.set_cons_succ, List.getElem_toArray, List.getElem_cons_zero, List.getElem_cons_succ]
    refine wpAnyH_ready (rs := [10]) (by kernel_rfl) (by simp) ?_
    refine AllReadyH.cons rfl (fun K hK => ?_) AllReadyH.nil
    obtain ⟨x0, x1, x2, x3, x4⟩ := rm_cells eX1a
    have fz9 : ∀ j, X1a.frozen? ⟨W2.heap.size, j, none⟩ = false := fun j => by simp [World.frozen?, eX1a]
    go_simp
    obtain ⟨W9, hW9⟩ : ∃ W9, roomW X1a (W2.heap.size) nm nx (.slice none 0 0) (.slice none 0 0) sb = W9 := ⟨_, rfl⟩
    have e9 : W9.heap[W2.heap.size]? = some (.cells #[.string nm, .int .i64 nx, .slice none 0 0, .slice none 0 0, .string sb] 33 (0, 0)) := by rw [← hW9]; exact roomW_heap eX1a _ _ _ _ _
    have b9 : Below W2.heap.size W2 W9 := by rw [← hW9]; exact roomW_below bX1a (show W2.heap.size ≤ W2.heap.size by omega) _ _ _ _ _
    unfold roomW at hW9
    rw [hW9]
    refine hK.out _ _ (BA.out W9 b9) (fun _ => ?_)
    clear hK K
    try simp only [Act.put, List.setIfInBounds_toArray, List.set_cons_zero, List.set_cons_succ, List.getElem_toArray, List.getElem_cons_zero, List.getElem_cons_succ]
    refine wpAnyH_done (by kernel_rfl) ?_ _
    exact TAIL (W2.heap.size) W9 _ _ _ _ _ _ _ _ _ (by omega) b9 e9
end Go.Proofs.YtgjlgddglgffmaaGreatDoor.Hub
