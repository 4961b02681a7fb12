/-
  How the model writes a room.
-/
import Derived.Test.YtglbjibilllopaaDoorRoomPutD
import Derived.Deep.RegionHeld3
namespace Go.Proofs.YtglbjibilllopaaDoor.Hub
open Go.RowKit
set_option linter.unusedVariables false

set_option maxRecDepth 100000 in
set_option maxHeartbeats 40000000 in
theorem l13Put_any (nm sb : ByteArray) (nx : Nat) (vm vk : Value) (n : Nat) (U N : Nat → ByteArray) (R : Nat → Int) (z : Nat) (KU : Nat → ByteArray) (KR : Nat → Int) (w : World) (hm : MemAt w vm n U N R) (hk : RankAt w vk z KU KR) (hnx : nx < 10000) (h1 : nm.size ≤ 100) (h2 : sb.size ≤ 100) (hn : n ≤ 5) (hz : z ≤ 6) (hM : ∀ j, j < n → userT (U j) = true ∧ (U j).size ≤ 100 ∧ (N j).size ≤ 100 ∧ 0 ≤ R j ∧ R j < 10) (hK : ∀ j, j < z → userT (KU j) = true ∧ (KU j).size ≤ 100 ∧ 0 ≤ KR j ∧ KR j < 10) :
    Calls Tryd.prog 18 #[roomV nm (nx : Int) vm vk sb] w fun e w' => e = .returned (.string (roomS nm nx sb n U N R z KU KR)) ∧ Below w.heap.size w w' := by
  obtain ⟨o, cp, rfl, g1, g2', hcm⟩ := hm
  obtain ⟨o2, cp2, rfl, g3, g4', hck⟩ := hk
  have g2 : cp ≤ 9223372036854775807 := Nat.le_trans g2' (by decide)
  have g4 : cp2 ≤ 9223372036854775807 := Nat.le_trans g4' (by decide)
  clear g2' g4'
  have HC : Hid (∀ j, j < n → ∃ b f : Nat, o = some ⟨b, f, none⟩ ∧ b < w.heap.size ∧ w.cell? ⟨b, f + j * 3, none⟩ = some (.string (U j)) ∧ w.cell? ⟨b, f + j * 3 + 1, none⟩ = some (.string (N j)) ∧ w.cell? ⟨b, f + j * 3 + 2, none⟩ = some (.int .i64 (R j))) := hcm
  have HD : Hid (∀ j, j < z → ∃ b f : Nat, o2 = some ⟨b, f, none⟩ ∧ b < w.heap.size ∧ w.cell? ⟨b, f + j * 2, none⟩ = some (.string (KU j)) ∧ w.cell? ⟨b, f + j * 2 + 1, none⟩ = some (.int .i64 (KR j))) := hck
  have zM : Hid (∀ k, k ≤ n → (memS (headS nm nx sb n) U N R k).size ≤ 400 + 400 * k) := fun k hk => Nat.le_trans (memS_size (n := n) (fun j hj => ⟨(hM j hj).2.1, (hM j hj).2.2.1⟩) k hk) (by have := headS_size (nx := nx) (n := n) h1 h2; omega)
  have zK : Hid (∀ k, k ≤ z → (rnkS (memS (headS nm nx sb n) U N R n) KU KR k).size ≤ 2400 + 200 * k) := fun k hk => Nat.le_trans (rnkS_size (n := z) (fun j hj => (hK j hj).2.1) k hk) (by have := zM.out n (Nat.le_refl _); omega)
  have HM : Hid (∀ j, j < n → (U j).size ≤ 100 ∧ (N j).size ≤ 100 ∧ 0 ≤ R j ∧ R j < 10) := fun j hj => (hM j hj).2
  have HK : Hid (∀ j, j < z → (KU j).size ≤ 100 ∧ 0 ≤ KR j ∧ KR j < 10) := fun j hj => (hK j hj).2
  clear hcm hck hM hK
  have cq := fun W => l1Dec_any 3 nx (by omega) (by omega) W
  have cn := fun W => l1Dec_any 0 n (by omega) (by omega) W
  have cf := fun W => l8Field_any sb (by omega) W
  have zq : (decB 3 nx).size ≤ 4 := decB_size 3 nx
  have zn : (decB 0 n).size ≤ 1 := decB_size 0 n
  have zf : (fieldT sb).size ≤ 200 := Nat.le_trans (fieldT_size sb) (by omega)
  have HH : Hid (headS nm nx sb n = nm ++ ByteArray.mk #[124] ++ decB 3 nx ++ ByteArray.mk #[124] ++ fieldT sb ++ ByteArray.mk #[124] ++ decB 0 n) := rfl
  unfold roomS
  obtain ⟨H, hH⟩ : ∃ H, headS nm nx sb n = H := ⟨_, rfl⟩
  rw [hH] at zM zK HH ⊢
  clear hH
  generalize decB 3 nx = Dq at *
  generalize decB 0 n = Dn at *
  generalize fieldT sb = Fs at *
  obtain ⟨W1, hW1⟩ : ∃ W1, W1 = w.alloc (.cells #[.string nm, .int .i64 nx, .slice o n cp, .slice o2 z cp2, .string sb] 31) := ⟨_, rfl⟩
  obtain ⟨B, hB⟩ : ∃ B, B = w.heap.size := ⟨_, rfl⟩
  have b0 : Below w.heap.size w W1 := by rw [hW1]; exact (Below.refl _ w).alloc (Nat.le_refl _) _
  have hlt : B < W1.heap.size := by rw [hW1, hB]; simp
  have NEW : Hid (∀ W : World, Below W1.heap.size W1 W → W.cell? ⟨B, 0, none⟩ = some (.string nm) ∧ W.cell? ⟨B, 1, none⟩ = some (.int .i64 nx) ∧ W.cell? ⟨B, 2, none⟩ = some (.slice o n cp) ∧ W.cell? ⟨B, 3, none⟩ = some (.slice o2 z cp2) ∧ W.cell? ⟨B, 4, none⟩ = some (.string sb)) := fun W bb => by
    have q : ∀ j, W.cell? ⟨B, j, none⟩ = (#[.string nm, .int .i64 nx, .slice o n cp, .slice o2 z cp2, .string sb] : Array Value)[j]? := fun j => (bb.cell (p := ⟨B, j, none⟩) hlt).trans (by rw [hW1, hB]; exact new_cell w _ _ j)
    exact ⟨q 0, q 1, q 2, q 3, q 4⟩
  have BD : Below W1.heap.size W1 W1.drew := (Below.refl W1.heap.size W1).drew
  go_enter Tryd.func18, Tryd.ntmps18
  go_wp2_with fail
  rw [← hW1, ← hB]
  clear hW1 hB
  refine wp_region_held_drew (S := (fun W => W.cell? ⟨B, 0, none⟩ = some (.string nm) ∧ W.cell? ⟨B, 1, none⟩ = some (.int .i64 nx) ∧ W.cell? ⟨B, 2, none⟩ = some (.slice o n cp) ∧ W.cell? ⟨B, 3, none⟩ = some (.slice o2 z cp2) ∧ W.cell? ⟨B, 4, none⟩ = some (.string sb))) (by kernel_rfl) ?_ (fun hHeld => ?_)
  · exact NEW.out _ BD
  refine wpAnyH_take (i := 0) (v := ?_) rfl (by kernel_rfl) (by kernel_rfl) (by kernel_rfl) (fun _ _ _ h => h) (Or.inl ⟨by rfl, ?takeYrp0⟩) (by assumption) ?takeRrp0
  case takeYrp0 => (intro w hSw; (try dsimp only at hSw); go_simp; try (with_reducible rfl))
  simp only [Act.put, List.setIfInBounds_toArray, List.set_cons_zero, List.set_cons_succ, List.getElem_toArray, List.getElem_cons_zero]
  refine wpAnyH_take (i := 1) (v := ?_) rfl (by kernel_rfl) (by kernel_rfl) (by kernel_rfl) (fun _ _ _ h => h) (Or.inl ⟨by rfl, ?takeYrp1⟩) (by assumption) ?takeRrp1
  case takeYrp1 => (intro w hSw; (try dsimp only at hSw); go_simp; try (with_reducible rfl))
  simp only [Act.put, List.setIfInBounds_toArray, List.set_cons_zero, List.set_cons_succ, List.getElem_toArray, List.getElem_cons_zero, List.getElem_cons_succ]
  refine wpAnyH_take (i := 3) (v := ?_) rfl (by kernel_rfl) (by kernel_rfl) (by kernel_rfl) (fun _ _ _ h => h) (Or.inl ⟨by rfl, ?takeYrp3⟩) (by assumption) ?takeRrp3
  case takeYrp3 => (intro w hSw; (try dsimp only at hSw); go_simp; try (with_reducible rfl))
  simp only [Act.put, List.setIfInBounds_toArray, List.set_cons_zero, List.set_cons_succ, List.getElem_toArray, List.getElem_cons_zero, List.getElem_cons_succ]
  refine wpAnyH_take (i := 4) (v := ?_) rfl (by kernel_rfl) (by kernel_rfl) (by kernel_rfl) (fun _ _ _ h => h) (Or.inl ⟨by rfl, ?takeYrp4⟩) (by assumption) ?takeRrp4
  case takeYrp4 => (intro w hSw; (try dsimp only at hSw); go_simp; try (with_reducible rfl))
  simp only [Act.put, List.setIfInBounds_toArray, List.set_cons_zero, List.set_cons_succ, List.getElem_toArray, List.getElem_cons_zero, List.getElem_cons_succ]
  refine wpAnyH_take (i := 8) (v := ?_) rfl (by kernel_rfl) (by kernel_rfl) (by kernel_rfl) (fun _ _ _ h => h) (Or.inl ⟨by rfl, ?takeYrp8⟩) (by assumption) ?takeRrp8
  case takeYrp8 => (intro w hSw; (try dsimp only at hSw); go_simp; try (with_reducible rfl))
  simp only [Act.put, List.setIfInBounds_toArray, List.set_cons_zero, List.set_cons_succ, List.getElem_toArray, List.getElem_cons_zero, List.getElem_cons_succ]
  refine wpAnyH_take (i := 9) (v := ?_) rfl (by kernel_rfl) (by kernel_rfl) (by kernel_rfl) (fun _ _ _ h => h) (Or.inl ⟨by rfl, ?takeYrp9⟩) (by assumption) ?takeRrp9
  case takeYrp9 => (intro w hSw; (try dsimp only at hSw); go_simp; try (with_reducible rfl))
  simp only [Act.put, List.setIfInBounds_toArray, List.set_cons_zero, List.set_cons_succ, List.getElem_toArray, List.getElem_cons_zero, List.getElem_cons_succ]
  refine wpAnyH_take (i := 2) (v := ?_) rfl (by kernel_rfl) (by kernel_rfl) (by kernel_rfl) (fun _ _ _ h => h) (Or.inl ⟨by rfl, ?takeYrp2⟩) (by assumption) ?takeRrp2
  case takeYrp2 => (intro w hSw; (try dsimp only at hSw); go_simp; rw [if_neg (by omega)])
  simp only [Act.put, List.setIfInBounds_toArray, List.set_cons_zero, List.set_cons_succ, List.getElem_toArray, List.getElem_cons_zero, List.getElem_cons_succ]
  refine wpAnyH_ready (rs := [5]) (by kernel_rfl) (by simp) ?_
  refine AllReadyH.cons rfl (fun K hK => ?_) AllReadyH.nil
  go_simp
  refine (cq _).mono ?_
  rintro e w1 ⟨rfl, q1⟩
  have b1 : Below W1.heap.size W1 w1 := BD.trans (q1.mono BD.size)
  clear q1
  go_wp2_with fail
  refine hK.out _ _ (NEW.out w1 b1) (fun hHeldrp5 => ?_)
  clear hK K
  try simp only [Act.put, List.setIfInBounds_toArray, List.set_cons_zero, List.set_cons_succ, List.getElem_toArray, List.getElem_cons_zero, List.getElem_cons_succ]
  refine wpAnyH_take (i := 6) (v := ?_) rfl (by kernel_rfl) (by kernel_rfl) (by kernel_rfl) (fun _ _ _ h => h) (Or.inl ⟨by rfl, ?takeYrp6⟩) (by assumption) ?takeRrp6
  case takeYrp6 => (intro w hSw; (try dsimp only at hSw); go_simp; rw [if_neg (by omega)])
  simp only [Act.put, List.setIfInBounds_toArray, List.set_cons_zero, List.set_cons_succ, List.getElem_toArray, List.getElem_cons_zero, List.getElem_cons_succ]
  refine wpAnyH_take (i := 7) (v := ?_) rfl (by kernel_rfl) (by kernel_rfl) (by kernel_rfl) (fun _ _ _ h => h) (Or.inl ⟨by rfl, ?takeYrp7⟩) (by assumption) ?takeRrp7
  case takeYrp7 => (intro w hSw; (try dsimp only at hSw); go_simp; rw [if_neg (by omega)])
  simp only [Act.put, List.setIfInBounds_toArray, List.set_cons_zero, List.set_cons_succ, List.getElem_toArray, List.getElem_cons_zero, List.getElem_cons_succ]
  refine wpAnyH_ready (rs := [10]) (by kernel_rfl) (by simp) ?_
  refine AllReadyH.cons rfl (fun K hK => ?_) AllReadyH.nil
  go_simp
  refine (cf _).mono ?_
  rintro e w3 ⟨rfl, rfl⟩
  go_wp2_with fail
  refine hK.out _ _ (NEW.out _ b1) (fun hHeldrp10 => ?_)
  clear hK K
  try simp only [Act.put, List.setIfInBounds_toArray, List.set_cons_zero, List.set_cons_succ, List.getElem_toArray, List.getElem_cons_zero, List.getElem_cons_succ]
  refine wpAnyH_take (i := 11) (v := ?_) rfl (by kernel_rfl) (by kernel_rfl) (by kernel_rfl) (fun _ _ _ h => h) (Or.inl ⟨by rfl, ?takeYrp11⟩) (by assumption) ?takeRrp11
  case takeYrp11 => (intro w hSw; (try dsimp only at hSw); go_simp; rw [if_neg (by omega)])
  simp only [Act.put, List.setIfInBounds_toArray, List.set_cons_zero, List.set_cons_succ, List.getElem_toArray, List.getElem_cons_zero, List.getElem_cons_succ]
  refine wpAnyH_take (i := 12) (v := ?_) rfl (by kernel_rfl) (by kernel_rfl) (by kernel_rfl) (fun _ _ _ h => h) (Or.inl ⟨by rfl, ?takeYrp12⟩) (by assumption) ?takeRrp12
  case takeYrp12 => (intro w hSw; (try dsimp only at hSw); go_simp; try (with_reducible rfl))
  simp only [Act.put, List.setIfInBounds_toArray, List.set_cons_zero, List.set_cons_succ, List.getElem_toArray, List.getElem_cons_zero, List.getElem_cons_succ]
  refine wpAnyH_done (by kernel_rfl) ?_ _
  go_wp2_with fail
  go_fit (cn _)
  rintro e w4 ⟨rfl, q4⟩
  have b4 : Below W1.heap.size W1 w4 := b1.trans (q4.mono b1.size)
  clear q4
  obtain ⟨x0, x1, x2, x3, x4⟩ := NEW.out _ b4
  go_wp2_with fail
  rw [← HH.out]
  clear HH cq cn cf zq zn zf x0 x1 x2 x3 x4
  go_loopw [3, 4] (fun s i wr => ∃ k : Nat, k ≤ n ∧ s = .string (memS H U N R k) ∧ i = .int .i64 k ∧ Below W1.heap.size W1 wr) (fun _ i _ => n - (intOf i).toNat)
  case atStart => exact ⟨0, Nat.zero_le _, rfl, rfl, b4⟩
  case round =>
    obtain ⟨k, hk, rfl, rfl, bw⟩ := hrel
    obtain ⟨x0, x1, x2, x3, x4⟩ := NEW.out _ bw
    by_cases hlt : k < n
    · obtain ⟨b, f, ho, hb, c0, c1, c2⟩ := HC.out k hlt
      subst ho
      have i1 : (0 : Int) ≤ (k : Int) := by omega
      have i2 : (k : Int) < (n : Int) := by omega
      obtain ⟨z0, z1, z2, z3⟩ := HM.out k hlt
      obtain ⟨r, hr⟩ := Int.eq_ofNat_of_zero_le z2
      have zO := zM.out k hk
      have HP : Hid (memS H U N R (k + 1) = memS H U N R k ++ ByteArray.mk #[124] ++ U k ++ ByteArray.mk #[124] ++ fieldT (N k) ++ ByteArray.mk #[124] ++ decB 0 r) := by show _ = _; rw [memS, hr, Int.toNat_natCast]
      rw [hr] at c2
      have cd := fun W => l1Dec_any 0 r (by omega) (by omega) W
      have cf := fun W => l8Field_any (N k) (by omega) W
      have zd : (decB 0 r).size ≤ 1 := decB_size 0 r
      have zf : (fieldT (N k)).size ≤ 200 := Nat.le_trans (fieldT_size _) (by omega)
      have ALL : Hid (∀ W : World, Below W1.heap.size W1 W → (W.cell? ⟨B, 0, none⟩ = some (.string nm) ∧ W.cell? ⟨B, 1, none⟩ = some (.int .i64 nx) ∧ W.cell? ⟨B, 2, none⟩ = some (.slice (some ⟨b, f, none⟩) n cp) ∧ W.cell? ⟨B, 3, none⟩ = some (.slice o2 z cp2) ∧ W.cell? ⟨B, 4, none⟩ = some (.string sb)) ∧ W.cell? ⟨b, f + k * 3, none⟩ = some (.string (U k)) ∧ W.cell? ⟨b, f + k * 3 + 1, none⟩ = some (.string (N k)) ∧ W.cell? ⟨b, f + k * 3 + 2, none⟩ = some (.int .i64 r)) := fun W bb => by
        have q := b0.trans (bb.mono b0.size)
        exact ⟨NEW.out W bb, (q.cell (p := ⟨b, f + k * 3, none⟩) hb).trans c0, (q.cell (p := ⟨b, f + k * 3 + 1, none⟩) hb).trans c1, (q.cell (p := ⟨b, f + k * 3 + 2, none⟩) hb).trans c2⟩
      clear c0 c1 c2 z2 z3 hr
      obtain ⟨u9, hu9⟩ : ∃ x, U k = x := ⟨_, rfl⟩
      obtain ⟨v9, hv9⟩ : ∃ x, N k = x := ⟨_, rfl⟩
      obtain ⟨O, hO⟩ : ∃ x, memS H U N R k = x := ⟨_, rfl⟩
      rw [hu9] at HP ALL z0
      rw [hv9] at HP ALL z1 zf cf
      rw [hO] at HP zO
      rw [hO]
      clear hu9 hv9 hO
      generalize decB 0 r = D9 at *
      generalize fieldT v9 = F9 at *
      have BF := bw.drew
      go_wp2_with fail
      clear x0 x1 x2 x3 x4
      refine wp_region_held_drew (S := (fun W => (W.cell? ⟨B, 0, none⟩ = some (.string nm) ∧ W.cell? ⟨B, 1, none⟩ = some (.int .i64 nx) ∧ W.cell? ⟨B, 2, none⟩ = some (.slice (some ⟨b, f, none⟩) n cp) ∧ W.cell? ⟨B, 3, none⟩ = some (.slice o2 z cp2) ∧ W.cell? ⟨B, 4, none⟩ = some (.string sb)) ∧ W.cell? ⟨b, f + k * 3, none⟩ = some (.string u9) ∧ W.cell? ⟨b, f + k * 3 + 1, none⟩ = some (.string v9) ∧ W.cell? ⟨b, f + k * 3 + 2, none⟩ = some (.int .i64 r))) (by kernel_rfl) ?_ (fun hHeld => ?_)
      · exact ALL.out _ BF
      refine wpAnyH_take (i := 0) (v := ?_) rfl (by kernel_rfl) (by kernel_rfl) (by kernel_rfl) (fun _ _ _ h => h) (Or.inl ⟨by rfl, ?takeYrm0⟩) (by assumption) ?takeRrm0
      case takeYrm0 => (intro w hSw; (try dsimp only at hSw); go_simp; try (with_reducible rfl))
      simp only [Act.put, List.setIfInBounds_toArray, List.set_cons_zero, List.set_cons_succ, List.getElem_toArray, List.getElem_cons_zero]
      refine wpAnyH_take (i := 2) (v := ?_) rfl (by kernel_rfl) (by kernel_rfl) (by kernel_rfl) (fun _ _ _ h => h) (Or.inl ⟨by rfl, ?takeYrm2⟩) (by assumption) ?takeRrm2
      case takeYrm2 => (intro w hSw; (try dsimp only at hSw); go_simp; try (with_reducible rfl))
      simp only [Act.put, List.setIfInBounds_toArray, List.set_cons_zero, List.set_cons_succ, List.getElem_toArray, List.getElem_cons_zero, List.getElem_cons_succ]
      refine wpAnyH_take (i := 3) (v := ?_) rfl (by kernel_rfl) (by kernel_rfl) (by kernel_rfl) (fun _ _ _ h => h) (Or.inl ⟨by rfl, ?takeYrm3⟩) (by assumption) ?takeRrm3
      case takeYrm3 => (intro w hSw; (try dsimp only at hSw); go_simp; try (with_reducible rfl))
      simp only [Act.put, List.setIfInBounds_toArray, List.set_cons_zero, List.set_cons_succ, List.getElem_toArray, List.getElem_cons_zero, List.getElem_cons_succ]
      refine wpAnyH_take (i := 4) (v := ?_) rfl (by kernel_rfl) (by kernel_rfl) (by kernel_rfl) (fun _ _ _ h => h) (Or.inl ⟨by rfl, ?takeYrm4⟩) (by assumption) ?takeRrm4
      case takeYrm4 => (intro w hSw; (try dsimp only at hSw); go_simp; try (with_reducible rfl))
      simp only [Act.put, List.setIfInBounds_toArray, List.set_cons_zero, List.set_cons_succ, List.getElem_toArray, List.getElem_cons_zero, List.getElem_cons_succ]
      refine wpAnyH_take (i := 5) (v := ?_) rfl (by kernel_rfl) (by kernel_rfl) (by kernel_rfl) (fun _ _ _ h => h) (Or.inl ⟨by rfl, ?takeYrm5⟩) (by assumption) ?takeRrm5
      case takeYrm5 => (intro w hSw; (try dsimp only at hSw); go_simp; try (with_reducible rfl))
      simp only [Act.put, List.setIfInBounds_toArray, List.set_cons_zero, List.set_cons_succ, List.getElem_toArray, List.getElem_cons_zero, List.getElem_cons_succ]
      refine wpAnyH_take (i := 6) (v := ?_) rfl (by kernel_rfl) (by kernel_rfl) (by kernel_rfl) (fun _ _ _ h => h) (Or.inl ⟨by rfl, ?takeYrm6⟩) (by assumption) ?takeRrm6
      case takeYrm6 => (intro w hSw; (try dsimp only at hSw); go_simp; try (with_reducible rfl))
      simp only [Act.put, List.setIfInBounds_toArray, List.set_cons_zero, List.set_cons_succ, List.getElem_toArray, List.getElem_cons_zero, List.getElem_cons_succ]
      refine wpAnyH_take (i := 7) (v := ?_) rfl (by kernel_rfl) (by kernel_rfl) (by kernel_rfl) (fun _ _ _ h => h) (Or.inl ⟨by rfl, ?takeYrm7⟩) (by assumption) ?takeRrm7
      case takeYrm7 => (intro w hSw; (try dsimp only at hSw); go_simp; try (with_reducible rfl))
      simp only [Act.put, List.setIfInBounds_toArray, List.set_cons_zero, List.set_cons_succ, List.getElem_toArray, List.getElem_cons_zero, List.getElem_cons_succ]
      refine wpAnyH_take (i := 10) (v := ?_) rfl (by kernel_rfl) (by kernel_rfl) (by kernel_rfl) (fun _ _ _ h => h) (Or.inl ⟨by rfl, ?takeYrm10⟩) (by assumption) ?takeRrm10
      case takeYrm10 => (intro w hSw; (try dsimp only at hSw); go_simp; try (with_reducible rfl))
      simp only [Act.put, List.setIfInBounds_toArray, List.set_cons_zero, List.set_cons_succ, List.getElem_toArray, List.getElem_cons_zero, List.getElem_cons_succ]
      refine wpAnyH_take (i := 11) (v := ?_) rfl (by kernel_rfl) (by kernel_rfl) (by kernel_rfl) (fun _ _ _ h => h) (Or.inl ⟨by rfl, ?takeYrm11⟩) (by assumption) ?takeRrm11
      case takeYrm11 => (intro w hSw; (try dsimp only at hSw); go_simp; try (with_reducible rfl))
      simp only [Act.put, List.setIfInBounds_toArray, List.set_cons_zero, List.set_cons_succ, List.getElem_toArray, List.getElem_cons_zero, List.getElem_cons_succ]
      refine wpAnyH_take (i := 12) (v := ?_) rfl (by kernel_rfl) (by kernel_rfl) (by kernel_rfl) (fun _ _ _ h => h) (Or.inl ⟨by rfl, ?takeYrm12⟩) (by assumption) ?takeRrm12
      case takeYrm12 => (intro w hSw; (try dsimp only at hSw); go_simp; try (with_reducible rfl))
      simp only [Act.put, List.setIfInBounds_toArray, List.set_cons_zero, List.set_cons_succ, List.getElem_toArray, List.getElem_cons_zero, List.getElem_cons_succ]
      refine wpAnyH_take (i := 13) (v := ?_) rfl (by kernel_rfl) (by kernel_rfl) (by kernel_rfl) (fun _ _ _ h => h) (Or.inl ⟨by rfl, ?takeYrm13⟩) (by assumption) ?takeRrm13
      case takeYrm13 => (intro w hSw; (try dsimp only at hSw); go_simp; try (with_reducible rfl))
      simp only [Act.put, List.setIfInBounds_toArray, List.set_cons_zero, List.set_cons_succ, List.getElem_toArray, List.getElem_cons_zero, List.getElem_cons_succ]
      refine wpAnyH_take (i := 14) (v := ?_) rfl (by kernel_rfl) (by kernel_rfl) (by kernel_rfl) (fun _ _ _ h => h) (Or.inl ⟨by rfl, ?takeYrm14⟩) (by assumption) ?takeRrm14
      case takeYrm14 => (intro w hSw; (try dsimp only at hSw); go_simp; try (with_reducible rfl))
      simp only [Act.put, List.setIfInBounds_toArray, List.set_cons_zero, List.set_cons_succ, List.getElem_toArray, List.getElem_cons_zero, List.getElem_cons_succ]
      refine wpAnyH_take (i := 15) (v := ?_) rfl (by kernel_rfl) (by kernel_rfl) (by kernel_rfl) (fun _ _ _ h => h) (Or.inl ⟨by rfl, ?takeYrm15⟩) (by assumption) ?takeRrm15
      case takeYrm15 => (intro w hSw; (try dsimp only at hSw); go_simp; try (with_reducible rfl))
      simp only [Act.put, List.setIfInBounds_toArray, List.set_cons_zero, List.set_cons_succ, List.getElem_toArray, List.getElem_cons_zero, List.getElem_cons_succ]
      refine wpAnyH_take (i := 19) (v := ?_) rfl (by kernel_rfl) (by kernel_rfl) (by kernel_rfl) (fun _ _ _ h => h) (Or.inl ⟨by rfl, ?takeYrm19⟩) (by assumption) ?takeRrm19
      case takeYrm19 => (intro w hSw; (try dsimp only at hSw); go_simp; try (with_reducible rfl))
      simp only [Act.put, List.setIfInBounds_toArray, List.set_cons_zero, List.set_cons_succ, List.getElem_toArray, List.getElem_cons_zero, List.getElem_cons_succ]
      refine wpAnyH_take (i := 20) (v := ?_) rfl (by kernel_rfl) (by kernel_rfl) (by kernel_rfl) (fun _ _ _ h => h) (Or.inl ⟨by rfl, ?takeYrm20⟩) (by assumption) ?takeRrm20
      case takeYrm20 => (intro w hSw; (try dsimp only at hSw); go_simp; try (with_reducible rfl))
      simp only [Act.put, List.setIfInBounds_toArray, List.set_cons_zero, List.set_cons_succ, List.getElem_toArray, List.getElem_cons_zero, List.getElem_cons_succ]
      refine wpAnyH_take (i := 21) (v := ?_) rfl (by kernel_rfl) (by kernel_rfl) (by kernel_rfl) (fun _ _ _ h => h) (Or.inl ⟨by rfl, ?takeYrm21⟩) (by assumption) ?takeRrm21
      case takeYrm21 => (intro w hSw; (try dsimp only at hSw); go_simp; try (with_reducible rfl))
      simp only [Act.put, List.setIfInBounds_toArray, List.set_cons_zero, List.set_cons_succ, List.getElem_toArray, List.getElem_cons_zero, List.getElem_cons_succ]
      refine wpAnyH_take (i := 22) (v := ?_) rfl (by kernel_rfl) (by kernel_rfl) (by kernel_rfl) (fun _ _ _ h => h) (Or.inl ⟨by rfl, ?takeYrm22⟩) (by assumption) ?takeRrm22
      case takeYrm22 => (intro w hSw; (try dsimp only at hSw); go_simp; try (with_reducible rfl))
      simp only [Act.put, List.setIfInBounds_toArray, List.set_cons_zero, List.set_cons_succ, List.getElem_toArray, List.getElem_cons_zero, List.getElem_cons_succ]
      refine wpAnyH_take (i := 23) (v := ?_) rfl (by kernel_rfl) (by kernel_rfl) (by kernel_rfl) (fun _ _ _ h => h) (Or.inl ⟨by rfl, ?takeYrm23⟩) (by assumption) ?takeRrm23
      case takeYrm23 => (intro w hSw; (try dsimp only at hSw); go_simp; try (with_reducible rfl))
      simp only [Act.put, List.setIfInBounds_toArray, List.set_cons_zero, List.set_cons_succ, List.getElem_toArray, List.getElem_cons_zero, List.getElem_cons_succ]
      refine wpAnyH_take (i := 24) (v := ?_) rfl (by kernel_rfl) (by kernel_rfl) (by kernel_rfl) (fun _ _ _ h => h) (Or.inl ⟨by rfl, ?takeYrm24⟩) (by assumption) ?takeRrm24
      case takeYrm24 => (intro w hSw; (try dsimp only at hSw); go_simp; try (with_reducible rfl))
      simp only [Act.put, List.setIfInBounds_toArray, List.set_cons_zero, List.set_cons_succ, List.getElem_toArray, List.getElem_cons_zero, List.getElem_cons_succ]
      refine wpAnyH_take (i := 1) (v := ?_) rfl (by kernel_rfl) (by kernel_rfl) (by kernel_rfl) (fun _ _ _ h => h) (Or.inl ⟨by rfl, ?takeYrm1⟩) (by assumption) ?takeRrm1
      case takeYrm1 => (intro w hSw; (try dsimp only at hSw); go_simp; rw [if_neg (by omega)])
      simp only [Act.put, List.setIfInBounds_toArray, List.set_cons_zero, List.set_cons_succ, List.getElem_toArray, List.getElem_cons_zero, List.getElem_cons_succ]
      refine wpAnyH_take (i := 8) (v := ?_) rfl (by kernel_rfl) (by kernel_rfl) (by kernel_rfl) (fun _ _ _ h => h) (Or.inl ⟨by rfl, ?takeYrm8⟩) (by assumption) ?takeRrm8
      case takeYrm8 => (intro w hSw; (try dsimp only at hSw); go_simp; rw [if_neg (by omega)])
      simp only [Act.put, List.setIfInBounds_toArray, List.set_cons_zero, List.set_cons_succ, List.getElem_toArray, List.getElem_cons_zero, List.getElem_cons_succ]
      refine wpAnyH_take (i := 9) (v := ?_) rfl (by kernel_rfl) (by kernel_rfl) (by kernel_rfl) (fun _ _ _ h => h) (Or.inl ⟨by rfl, ?takeYrm9⟩) (by assumption) ?takeRrm9
      case takeYrm9 => (intro w hSw; (try dsimp only at hSw); go_simp; rw [if_neg (by omega)])
      simp only [Act.put, List.setIfInBounds_toArray, List.set_cons_zero, List.set_cons_succ, List.getElem_toArray, List.getElem_cons_zero, List.getElem_cons_succ]
      refine wpAnyH_ready (rs := [16]) (by kernel_rfl) (by simp) ?_
      refine AllReadyH.cons rfl (fun K hK => ?_) AllReadyH.nil
      go_simp
      refine (cf _).mono ?_
      rintro e w3 ⟨rfl, rfl⟩
      go_wp2_with fail
      refine hK.out _ _ (ALL.out _ BF) (fun hHeldrm16 => ?_)
      clear hK K
      try simp only [Act.put, List.setIfInBounds_toArray, List.set_cons_zero, List.set_cons_succ, List.getElem_toArray, List.getElem_cons_zero, List.getElem_cons_succ]
      refine wpAnyH_take (i := 17) (v := ?_) rfl (by kernel_rfl) (by kernel_rfl) (by kernel_rfl) (fun _ _ _ h => h) (Or.inl ⟨by rfl, ?takeYrm17⟩) (by assumption) ?takeRrm17
      case takeYrm17 => (intro w hSw; (try dsimp only at hSw); go_simp; rw [if_neg (by omega)])
      simp only [Act.put, List.setIfInBounds_toArray, List.set_cons_zero, List.set_cons_succ, List.getElem_toArray, List.getElem_cons_zero, List.getElem_cons_succ]
      refine wpAnyH_take (i := 18) (v := ?_) rfl (by kernel_rfl) (by kernel_rfl) (by kernel_rfl) (fun _ _ _ h => h) (Or.inl ⟨by rfl, ?takeYrm18⟩) (by assumption) ?takeRrm18
      case takeYrm18 => (intro w hSw; (try dsimp only at hSw); go_simp; rw [if_neg (by omega)])
      simp only [Act.put, List.setIfInBounds_toArray, List.set_cons_zero, List.set_cons_succ, List.getElem_toArray, List.getElem_cons_zero, List.getElem_cons_succ]
      refine wpAnyH_ready (rs := [25]) (by kernel_rfl) (by simp) ?_
      refine AllReadyH.cons rfl (fun K hK => ?_) AllReadyH.nil
      go_simp
      refine (cd _).mono ?_
      rintro e w5 ⟨rfl, q5⟩
      have b5 : Below W1.heap.size W1 w5 := BF.trans (q5.mono BF.size)
      clear q5
      go_wp2_with fail
      refine hK.out _ _ (ALL.out w5 b5) (fun hHeldrm25 => ?_)
      clear hK K
      try simp only [Act.put, List.setIfInBounds_toArray, List.set_cons_zero, List.set_cons_succ, List.getElem_toArray, List.getElem_cons_zero, List.getElem_cons_succ]
      refine wpAnyH_take (i := 26) (v := ?_) rfl (by kernel_rfl) (by kernel_rfl) (by kernel_rfl) (fun _ _ _ h => h) (Or.inl ⟨by rfl, ?takeYrm26⟩) (by assumption) ?takeRrm26
      case takeYrm26 => (intro w hSw; (try dsimp only at hSw); go_simp; rw [if_neg (by omega)])
      simp only [Act.put, List.setIfInBounds_toArray, List.set_cons_zero, List.set_cons_succ, List.getElem_toArray, List.getElem_cons_zero, List.getElem_cons_succ]
      refine wpAnyH_take (i := 27) (v := ?_) rfl (by kernel_rfl) (by kernel_rfl) (by kernel_rfl) (fun _ _ _ h => h) (Or.inl ⟨by rfl, ?takeYrm27⟩) (by assumption) ?takeRrm27
      case takeYrm27 => (intro w hSw; (try dsimp only at hSw); go_simp; try (with_reducible rfl))
      simp only [Act.put, List.setIfInBounds_toArray, List.set_cons_zero, List.set_cons_succ, List.getElem_toArray, List.getElem_cons_zero, List.getElem_cons_succ]
      refine wpAnyH_done (by kernel_rfl) ?_ _
      go_wp2_with fail
      go_roundw
      case rel => exact ⟨k + 1, by omega, by rw [HP.out], by go_num, b5⟩
      case measure => simp [intOf]; omega
    · obtain rfl : k = n := by omega
      go_wp2_with fail
      clear x0 x1 x2 x3 x4
      go_loopw [3, 5] (fun s i wr => ∃ q : Nat, q ≤ z ∧ s = .string (rnkS (memS H U N R k) KU KR q) ∧ i = .int .i64 q ∧ Below W1.heap.size W1 wr) (fun _ i _ => z - (intOf i).toNat)
      case atStart => exact ⟨0, Nat.zero_le _, rfl, rfl, bw⟩
      case round =>
        obtain ⟨q, hq, rfl, rfl, bq⟩ := hrel
        obtain ⟨x0, x1, x2, x3, x4⟩ := NEW.out _ bq
        by_cases hlq : q < z
        · obtain ⟨b, f, ho, hb, c0, c1⟩ := HD.out q hlq
          subst ho
          have i1 : (0 : Int) ≤ (q : Int) := by omega
          have i2 : (q : Int) < (z : Int) := by omega
          obtain ⟨z0, z2, z3⟩ := HK.out q hlq
          obtain ⟨r, hr⟩ := Int.eq_ofNat_of_zero_le z2
          have zO := zK.out q hq
          have HP : Hid (rnkS (memS H U N R k) KU KR (q + 1) = rnkS (memS H U N R k) KU KR q ++ ByteArray.mk #[124] ++ KU q ++ ByteArray.mk #[124] ++ decB 0 r) := by show _ = _; rw [rnkS, hr, Int.toNat_natCast]
          rw [hr] at c1
          have cd := fun W => l1Dec_any 0 r (by omega) (by omega) W
          have zd : (decB 0 r).size ≤ 1 := decB_size 0 r
          have ALL : Hid (∀ W : World, Below W1.heap.size W1 W → (W.cell? ⟨B, 0, none⟩ = some (.string nm) ∧ W.cell? ⟨B, 1, none⟩ = some (.int .i64 nx) ∧ W.cell? ⟨B, 2, none⟩ = some (.slice o k cp) ∧ W.cell? ⟨B, 3, none⟩ = some (.slice (some ⟨b, f, none⟩) z cp2) ∧ W.cell? ⟨B, 4, none⟩ = some (.string sb)) ∧ W.cell? ⟨b, f + q * 2, none⟩ = some (.string (KU q)) ∧ W.cell? ⟨b, f + q * 2 + 1, none⟩ = some (.int .i64 r)) := fun W bb => by
            have q9 := b0.trans (bb.mono b0.size)
            exact ⟨NEW.out W bb, (q9.cell (p := ⟨b, f + q * 2, none⟩) hb).trans c0, (q9.cell (p := ⟨b, f + q * 2 + 1, none⟩) hb).trans c1⟩
          clear c0 c1 z2 z3 hr
          obtain ⟨u9, hu9⟩ : ∃ x, KU q = x := ⟨_, rfl⟩
          obtain ⟨O, hO⟩ : ∃ x, rnkS (memS H U N R k) KU KR q = x := ⟨_, rfl⟩
          rw [hu9] at HP ALL z0
          rw [hO] at HP zO
          rw [hO]
          clear hu9 hO
          generalize decB 0 r = D9 at *
          have BF := bq.drew
          go_wp2_with fail
          clear x0 x1 x2 x3 x4
          refine wp_region_held_drew (S := (fun W => (W.cell? ⟨B, 0, none⟩ = some (.string nm) ∧ W.cell? ⟨B, 1, none⟩ = some (.int .i64 nx) ∧ W.cell? ⟨B, 2, none⟩ = some (.slice o k cp) ∧ W.cell? ⟨B, 3, none⟩ = some (.slice (some ⟨b, f, none⟩) z cp2) ∧ W.cell? ⟨B, 4, none⟩ = some (.string sb)) ∧ W.cell? ⟨b, f + q * 2, none⟩ = some (.string u9) ∧ W.cell? ⟨b, f + q * 2 + 1, none⟩ = some (.int .i64 r))) (by kernel_rfl) ?_ (fun hHeld => ?_)
          · exact ALL.out _ BF
          refine wpAnyH_take (i := 0) (v := ?_) rfl (by kernel_rfl) (by kernel_rfl) (by kernel_rfl) (fun _ _ _ h => h) (Or.inl ⟨by rfl, ?takeYrk0⟩) (by assumption) ?takeRrk0
          case takeYrk0 => (intro w hSw; (try dsimp only at hSw); go_simp; try (with_reducible rfl))
          simp only [Act.put, List.setIfInBounds_toArray, List.set_cons_zero, List.set_cons_succ, List.getElem_toArray, List.getElem_cons_zero]
          refine wpAnyH_take (i := 2) (v := ?_) rfl (by kernel_rfl) (by kernel_rfl) (by kernel_rfl) (fun _ _ _ h => h) (Or.inl ⟨by rfl, ?takeYrk2⟩) (by assumption) ?takeRrk2
          case takeYrk2 => (intro w hSw; (try dsimp only at hSw); go_simp; try (with_reducible rfl))
          simp only [Act.put, List.setIfInBounds_toArray, List.set_cons_zero, List.set_cons_succ, List.getElem_toArray, List.getElem_cons_zero, List.getElem_cons_succ]
          refine wpAnyH_take (i := 3) (v := ?_) rfl (by kernel_rfl) (by kernel_rfl) (by kernel_rfl) (fun _ _ _ h => h) (Or.inl ⟨by rfl, ?takeYrk3⟩) (by assumption) ?takeRrk3
          case takeYrk3 => (intro w hSw; (try dsimp only at hSw); go_simp; try (with_reducible rfl))
          simp only [Act.put, List.setIfInBounds_toArray, List.set_cons_zero, List.set_cons_succ, List.getElem_toArray, List.getElem_cons_zero, List.getElem_cons_succ]
          refine wpAnyH_take (i := 4) (v := ?_) rfl (by kernel_rfl) (by kernel_rfl) (by kernel_rfl) (fun _ _ _ h => h) (Or.inl ⟨by rfl, ?takeYrk4⟩) (by assumption) ?takeRrk4
          case takeYrk4 => (intro w hSw; (try dsimp only at hSw); go_simp; try (with_reducible rfl))
          simp only [Act.put, List.setIfInBounds_toArray, List.set_cons_zero, List.set_cons_succ, List.getElem_toArray, List.getElem_cons_zero, List.getElem_cons_succ]
          refine wpAnyH_take (i := 5) (v := ?_) rfl (by kernel_rfl) (by kernel_rfl) (by kernel_rfl) (fun _ _ _ h => h) (Or.inl ⟨by rfl, ?takeYrk5⟩) (by assumption) ?takeRrk5
          case takeYrk5 => (intro w hSw; (try dsimp only at hSw); go_simp; try (with_reducible rfl))
          simp only [Act.put, List.setIfInBounds_toArray, List.set_cons_zero, List.set_cons_succ, List.getElem_toArray, List.getElem_cons_zero, List.getElem_cons_succ]
          refine wpAnyH_take (i := 6) (v := ?_) rfl (by kernel_rfl) (by kernel_rfl) (by kernel_rfl) (fun _ _ _ h => h) (Or.inl ⟨by rfl, ?takeYrk6⟩) (by assumption) ?takeRrk6
          case takeYrk6 => (intro w hSw; (try dsimp only at hSw); go_simp; try (with_reducible rfl))
          simp only [Act.put, List.setIfInBounds_toArray, List.set_cons_zero, List.set_cons_succ, List.getElem_toArray, List.getElem_cons_zero, List.getElem_cons_succ]
          refine wpAnyH_take (i := 7) (v := ?_) rfl (by kernel_rfl) (by kernel_rfl) (by kernel_rfl) (fun _ _ _ h => h) (Or.inl ⟨by rfl, ?takeYrk7⟩) (by assumption) ?takeRrk7
          case takeYrk7 => (intro w hSw; (try dsimp only at hSw); go_simp; try (with_reducible rfl))
          simp only [Act.put, List.setIfInBounds_toArray, List.set_cons_zero, List.set_cons_succ, List.getElem_toArray, List.getElem_cons_zero, List.getElem_cons_succ]
          refine wpAnyH_take (i := 10) (v := ?_) rfl (by kernel_rfl) (by kernel_rfl) (by kernel_rfl) (fun _ _ _ h => h) (Or.inl ⟨by rfl, ?takeYrk10⟩) (by assumption) ?takeRrk10
          case takeYrk10 => (intro w hSw; (try dsimp only at hSw); go_simp; try (with_reducible rfl))
          simp only [Act.put, List.setIfInBounds_toArray, List.set_cons_zero, List.set_cons_succ, List.getElem_toArray, List.getElem_cons_zero, List.getElem_cons_succ]
          refine wpAnyH_take (i := 11) (v := ?_) rfl (by kernel_rfl) (by kernel_rfl) (by kernel_rfl) (fun _ _ _ h => h) (Or.inl ⟨by rfl, ?takeYrk11⟩) (by assumption) ?takeRrk11
          case takeYrk11 => (intro w hSw; (try dsimp only at hSw); go_simp; try (with_reducible rfl))
          simp only [Act.put, List.setIfInBounds_toArray, List.set_cons_zero, List.set_cons_succ, List.getElem_toArray, List.getElem_cons_zero, List.getElem_cons_succ]
          refine wpAnyH_take (i := 12) (v := ?_) rfl (by kernel_rfl) (by kernel_rfl) (by kernel_rfl) (fun _ _ _ h => h) (Or.inl ⟨by rfl, ?takeYrk12⟩) (by assumption) ?takeRrk12
          case takeYrk12 => (intro w hSw; (try dsimp only at hSw); go_simp; try (with_reducible rfl))
          simp only [Act.put, List.setIfInBounds_toArray, List.set_cons_zero, List.set_cons_succ, List.getElem_toArray, List.getElem_cons_zero, List.getElem_cons_succ]
          refine wpAnyH_take (i := 13) (v := ?_) rfl (by kernel_rfl) (by kernel_rfl) (by kernel_rfl) (fun _ _ _ h => h) (Or.inl ⟨by rfl, ?takeYrk13⟩) (by assumption) ?takeRrk13
          case takeYrk13 => (intro w hSw; (try dsimp only at hSw); go_simp; try (with_reducible rfl))
          simp only [Act.put, List.setIfInBounds_toArray, List.set_cons_zero, List.set_cons_succ, List.getElem_toArray, List.getElem_cons_zero, List.getElem_cons_succ]
          refine wpAnyH_take (i := 14) (v := ?_) rfl (by kernel_rfl) (by kernel_rfl) (by kernel_rfl) (fun _ _ _ h => h) (Or.inl ⟨by rfl, ?takeYrk14⟩) (by assumption) ?takeRrk14
          case takeYrk14 => (intro w hSw; (try dsimp only at hSw); go_simp; try (with_reducible rfl))
          simp only [Act.put, List.setIfInBounds_toArray, List.set_cons_zero, List.set_cons_succ, List.getElem_toArray, List.getElem_cons_zero, List.getElem_cons_succ]
          refine wpAnyH_take (i := 15) (v := ?_) rfl (by kernel_rfl) (by kernel_rfl) (by kernel_rfl) (fun _ _ _ h => h) (Or.inl ⟨by rfl, ?takeYrk15⟩) (by assumption) ?takeRrk15
          case takeYrk15 => (intro w hSw; (try dsimp only at hSw); go_simp; try (with_reducible rfl))
          simp only [Act.put, List.setIfInBounds_toArray, List.set_cons_zero, List.set_cons_succ, List.getElem_toArray, List.getElem_cons_zero, List.getElem_cons_succ]
          refine wpAnyH_take (i := 1) (v := ?_) rfl (by kernel_rfl) (by kernel_rfl) (by kernel_rfl) (fun _ _ _ h => h) (Or.inl ⟨by rfl, ?takeYrk1⟩) (by assumption) ?takeRrk1
          case takeYrk1 => (intro w hSw; (try dsimp only at hSw); go_simp; rw [if_neg (by omega)])
          simp only [Act.put, List.setIfInBounds_toArray, List.set_cons_zero, List.set_cons_succ, List.getElem_toArray, List.getElem_cons_zero, List.getElem_cons_succ]
          refine wpAnyH_take (i := 8) (v := ?_) rfl (by kernel_rfl) (by kernel_rfl) (by kernel_rfl) (fun _ _ _ h => h) (Or.inl ⟨by rfl, ?takeYrk8⟩) (by assumption) ?takeRrk8
          case takeYrk8 => (intro w hSw; (try dsimp only at hSw); go_simp; rw [if_neg (by omega)])
          simp only [Act.put, List.setIfInBounds_toArray, List.set_cons_zero, List.set_cons_succ, List.getElem_toArray, List.getElem_cons_zero, List.getElem_cons_succ]
          refine wpAnyH_take (i := 9) (v := ?_) rfl (by kernel_rfl) (by kernel_rfl) (by kernel_rfl) (fun _ _ _ h => h) (Or.inl ⟨by rfl, ?takeYrk9⟩) (by assumption) ?takeRrk9
          case takeYrk9 => (intro w hSw; (try dsimp only at hSw); go_simp; rw [if_neg (by omega)])
          simp only [Act.put, List.setIfInBounds_toArray, List.set_cons_zero, List.set_cons_succ, List.getElem_toArray, List.getElem_cons_zero, List.getElem_cons_succ]
          refine wpAnyH_ready (rs := [16]) (by kernel_rfl) (by simp) ?_
          refine AllReadyH.cons rfl (fun K hK => ?_) AllReadyH.nil
          go_simp
          refine (cd _).mono ?_
          rintro e w5 ⟨rfl, q5⟩
          have b5 : Below W1.heap.size W1 w5 := BF.trans (q5.mono BF.size)
          clear q5
          go_wp2_with fail
          refine hK.out _ _ (ALL.out w5 b5) (fun hHeldrk16 => ?_)
          clear hK K
          try simp only [Act.put, List.setIfInBounds_toArray, List.set_cons_zero, List.set_cons_succ, List.getElem_toArray, List.getElem_cons_zero, List.getElem_cons_succ]
          refine wpAnyH_take (i := 17) (v := ?_) rfl (by kernel_rfl) (by kernel_rfl) (by kernel_rfl) (fun _ _ _ h => h) (Or.inl ⟨by rfl, ?takeYrk17⟩) (by assumption) ?takeRrk17
          case takeYrk17 => (intro w hSw; (try dsimp only at hSw); go_simp; rw [if_neg (by omega)])
          simp only [Act.put, List.setIfInBounds_toArray, List.set_cons_zero, List.set_cons_succ, List.getElem_toArray, List.getElem_cons_zero, List.getElem_cons_succ]
          refine wpAnyH_take (i := 18) (v := ?_) rfl (by kernel_rfl) (by kernel_rfl) (by kernel_rfl) (fun _ _ _ h => h) (Or.inl ⟨by rfl, ?takeYrk18⟩) (by assumption) ?takeRrk18
          case takeYrk18 => (intro w hSw; (try dsimp only at hSw); go_simp; try (with_reducible rfl))
          simp only [Act.put, List.setIfInBounds_toArray, List.set_cons_zero, List.set_cons_succ, List.getElem_toArray, List.getElem_cons_zero, List.getElem_cons_succ]
          refine wpAnyH_done (by kernel_rfl) ?_ _
          go_wp2_with fail
          go_roundw
          case rel => exact ⟨q + 1, by omega, by rw [HP.out], by go_num, b5⟩
          case measure => simp [intOf]; omega
        · obtain rfl : q = z := by omega
          go_wp2_with fail
          go_ret
          exact ⟨rfl, b0.trans (bq.mono b0.size)⟩

set_option maxRecDepth 100000 in
set_option maxHeartbeats 8000000 in
theorem specRoomPut_any (nm sb : ByteArray) (nx : Int) (vm vk : Value) (n : Nat) (U N : Nat → ByteArray) (R : Nat → Int) (z : Nat) (KU : Nat → ByteArray) (KR : Nat → Int) (w : World) (hm : MemAt w vm n U N R) (hk : RankAt w vk z KU KR) (hnm : nm.size ≤ 9223372036854775800) (hsb : sb.size ≤ 9223372036854775800) (hs : ∀ j, j < n → (U j).size ≤ 9223372036854775800 ∧ (N j).size ≤ 9223372036854775800) (hz : ∀ j, j < z → (KU j).size ≤ 9223372036854775800) :
    Calls Tryd.prog 6 #[roomV nm nx vm vk sb] w fun e w' => e = .returned (.string (rputT nm nx sb n U N R z KU KR)) ∧ Below w.heap.size w w' := by
  obtain ⟨W1, hW1⟩ : ∃ W1, W1 = w.alloc (.cells #[.string nm, .int .i64 nx, vm, vk, .string sb] 31) := ⟨_, rfl⟩
  have b0 : Below w.heap.size w W1 := by rw [hW1]; exact below_alloc w _
  have hw0 : w.heap.size < W1.heap.size := by rw [hW1]; simp
  have NEW : Hid (∀ W : World, Below W1.heap.size W1 W → W.cell? ⟨w.heap.size, 0, none⟩ = some (.string nm) ∧ W.cell? ⟨w.heap.size, 1, none⟩ = some (.int .i64 nx) ∧ W.cell? ⟨w.heap.size, 2, none⟩ = some (vm) ∧ W.cell? ⟨w.heap.size, 3, none⟩ = some (vk) ∧ W.cell? ⟨w.heap.size, 4, none⟩ = some (.string sb)) := fun W b => by
    have q : ∀ i, W.cell? ⟨w.heap.size, i, none⟩ = (#[.string nm, .int .i64 nx, vm, vk, .string sb] : Array Value)[i]? := fun i => (b.cell (p := ⟨w.heap.size, i, none⟩) hw0).trans (by rw [hW1]; exact room_cell w _ _ i)
    exact ⟨q 0, q 1, q 2, q 3, q 4⟩
  have hO := l6Ok_any nm sb nx vm vk n U N R z KU KR W1 (hm.below b0) (hk.below b0) hnm hsb hs hz
  have HM : Hid (∀ W, Below W1.heap.size W1 W → MemAt W vm n U N R ∧ RankAt W vk z KU KR) := fun W bb => ⟨(hm.below b0).below bb, (hk.below b0).below bb⟩
  have vms : ∃ o l c, vm = .slice o l c := by obtain ⟨o, c, h, _⟩ := hm; exact ⟨o, n, c, h⟩
  have vks : ∃ o l c, vk = .slice o l c := by obtain ⟨o, c, h, _⟩ := hk; exact ⟨o, z, c, h⟩
  obtain ⟨o, l, c, rfl⟩ := vms
  obtain ⟨o2, l2, c2, rfl⟩ := vks
  clear hm hk hs hz
  unfold rputT
  obtain ⟨T, hT⟩ : ∃ T, roomT nm nx sb n U N R z KU KR = T := ⟨_, rfl⟩
  rw [hT] at hO ⊢
  cases T
  · clear hT
    go_enter Tryd.func6, Tryd.ntmps6
    go_wp2_with first
      | (go_at_call 17; rw [← hW1]; go_fit hO; rintro e w1 ⟨rfl, b1⟩)
    go_ret
    exact ⟨rfl, b0.trans (b1.mono b0.size)⟩
  · obtain ⟨_, a1, a2, a3, a4, a5, a6, a7⟩ := roomT_small hT
    obtain ⟨nx', rfl⟩ := Int.eq_ofNat_of_zero_le a2.1
    have hP : Hid (∀ W, Below W1.heap.size W1 W → _) := fun W bb => l13Put_any nm sb nx' (.slice o l c) (.slice o2 l2 c2) n U N R z KU KR W (HM.out W bb).1 (HM.out W bb).2 (by omega) a1 a3 a4 a5 a6 a7
    clear hT a6 a7
    rw [if_pos rfl, Int.toNat_natCast]
    generalize roomS nm nx' sb n U N R z KU KR = RS at *
    go_enter Tryd.func6, Tryd.ntmps6
    go_wp2_with first
      | (go_at_call 18; go_fit (hP.out w1 b1); rintro e w2 ⟨rfl, b2⟩)
      | (go_at_call 17; rw [← hW1]; go_fit hO; rintro e w1 ⟨rfl, b1⟩; obtain ⟨x0, x1, x2, x3, x4⟩ := NEW.out w1 b1)
    go_ret
    exact ⟨rfl, b0.trans ((b1.trans (b2.mono b1.size)).mono b0.size)⟩
end Go.Proofs.YtglbjibilllopaaDoor.Hub
