/-
  The law's own szMember, szRank, szMemberS, szRankS, szRoom: what they leave is below nought, or all that they counted is as small.
-/
import Derived.Test.YtglbjibilllopaaDoorRoomSpec
namespace Go.Proofs.YtglbjibilllopaaDoor.Hub
open Go.RowKit
set_option linter.unusedVariables false

set_option maxRecDepth 100000 in
set_option maxHeartbeats 2000000 in
theorem szMember_any (u k : ByteArray) (r left : Int) (w : World) (h0 : 0 ≤ left) (h1 : left ≤ 1048576) (hu : u.size ≤ 9223372036854775807) (hk : k.size ≤ 9223372036854775807) :
    Calls Tryd.prog 33 #[.agg #[.string u, .string k, .int .i64 r], .int .i64 left] w fun e w' => (∃ z : Int, e = .returned (.int .i64 z) ∧ (z < 0 ∨ (0 ≤ z ∧ z ≤ left ∧ (u.size : Int) ≤ left ∧ (k.size : Int) ≤ left))) ∧ Below w.heap.size w w' := by
  have b0 := below_alloc w (.cells #[.string u, .string k, .int .i64 r] 70)
  have e1 : IntKind.i64.wrap (left - (u.size : Int)) = left - (u.size : Int) := by rw [IntKind.wrap_i64]; omega
  by_cases g1 : left - (u.size : Int) < 0
  · go_enter Tryd.func33, Tryd.ntmps33
    go_wp2
    go_ret
    exact ⟨⟨-1, rfl, .inl (by omega)⟩, b0⟩
  · have e2 : IntKind.i64.wrap (left - (u.size : Int) - (k.size : Int)) = left - (u.size : Int) - (k.size : Int) := by rw [IntKind.wrap_i64]; omega
    by_cases g2 : left - (u.size : Int) - (k.size : Int) < 0
    · go_enter Tryd.func33, Tryd.ntmps33
      go_wp2
      go_ret
      exact ⟨⟨-1, rfl, .inl (by omega)⟩, b0⟩
    · go_enter Tryd.func33, Tryd.ntmps33
      go_wp2
      go_ret
      exact ⟨⟨_, rfl, .inr ⟨by omega, by omega, by omega, by omega⟩⟩, b0⟩

set_option maxRecDepth 100000 in
set_option maxHeartbeats 2000000 in
theorem szRank_any (u : ByteArray) (r left : Int) (w : World) (h0 : 0 ≤ left) (h1 : left ≤ 1048576) (hu : u.size ≤ 9223372036854775807) :
    Calls Tryd.prog 34 #[.agg #[.string u, .int .i64 r], .int .i64 left] w fun e w' => (∃ z : Int, e = .returned (.int .i64 z) ∧ (z < 0 ∨ (0 ≤ z ∧ z ≤ left ∧ (u.size : Int) ≤ left))) ∧ Below w.heap.size w w' := by
  have b0 := below_alloc w (.cells #[.string u, .int .i64 r] 72)
  have e1 : IntKind.i64.wrap (left - (u.size : Int)) = left - (u.size : Int) := by rw [IntKind.wrap_i64]; omega
  by_cases g1 : left - (u.size : Int) < 0
  · go_enter Tryd.func34, Tryd.ntmps34
    go_wp2
    go_ret
    exact ⟨⟨-1, rfl, .inl (by omega)⟩, b0⟩
  · go_enter Tryd.func34, Tryd.ntmps34
    go_wp2
    go_ret
    exact ⟨⟨_, rfl, .inr ⟨by omega, by omega, by omega⟩⟩, b0⟩

set_option maxRecDepth 100000 in
set_option maxHeartbeats 2000000 in
theorem szMemberS_any (v : Value) (n : Nat) (U N : Nat → ByteArray) (R : Nat → Int) (left : Int) (w : World) (h0 : 0 ≤ left) (h1 : left ≤ 1048576) (hm : MemAt w v n U N R) (hs : ∀ j, j < n → (U j).size ≤ 9223372036854775807 ∧ (N j).size ≤ 9223372036854775807) :
    Calls Tryd.prog 15 #[v, .int .i64 left] w fun e w' => (∃ z : Int, e = .returned (.int .i64 z) ∧ (z < 0 ∨ (0 ≤ z ∧ z ≤ left ∧ (n : Int) ≤ left ∧ ∀ j, j < n → ((U j).size : Int) ≤ left ∧ ((N j).size : Int) ≤ left))) ∧ Below w.heap.size w w' := by
  obtain ⟨o, cap, rfl, g1, g2', hc⟩ := hm
  have g2 : cap ≤ 9223372036854775807 := g2'
  clear g2'
  have HC : Hid (∀ j, j < n → ∃ b f : Nat, o = some ⟨b, f, none⟩ ∧ b < w.heap.size ∧ w.cell? ⟨b, f + j * 3, none⟩ = some (.string (U j)) ∧ w.cell? ⟨b, f + j * 3 + 1, none⟩ = some (.string (N j)) ∧ w.cell? ⟨b, f + j * 3 + 2, none⟩ = some (.int .i64 (R j))) := hc
  have HS : Hid (∀ j, j < n → (U j).size ≤ 9223372036854775807 ∧ (N j).size ≤ 9223372036854775807) := hs
  clear hc hs
  have e1 : IntKind.i64.wrap (left - (n : Int)) = left - (n : Int) := by rw [IntKind.wrap_i64]; omega
  by_cases gn : left - (n : Int) < 0
  · go_enter Tryd.func15, Tryd.ntmps15
    go_wp2_with fail
    go_ret
    exact ⟨⟨-1, rfl, .inl (by omega)⟩, Below.refl _ _⟩
  · go_enter Tryd.func15, Tryd.ntmps15
    go_wp2_with fail
    go_loopw [1, 5] (fun l i wr => ∃ (k : Nat) (z : Int), k ≤ n ∧ i = .int .i64 k ∧ l = .int .i64 z ∧ 0 ≤ z ∧ z ≤ left ∧ Below w.heap.size w wr ∧ Hid (∀ j, j < k → ((U j).size : Int) ≤ left ∧ ((N j).size : Int) ≤ left)) (fun _ i _ => n - (intOf i).toNat)
    case atStart => exact ⟨0, _, Nat.zero_le _, rfl, rfl, by omega, by omega, Below.refl _ _, fun j hj => absurd hj (by omega)⟩
    case round =>
      obtain ⟨k, z, hk, rfl, rfl, hz0, hz1, bw, HA⟩ := hrel
      by_cases hlt : k < n
      · obtain ⟨b, f, ho, hb, c0, c1, c2⟩ := HC.out k hlt
        subst ho
        have i1 : (0 : Int) ≤ (k : Int) := by omega
        have i2 : (k : Int) < (n : Int) := by omega
        have hsk := HS.out k hlt
        have d0 := (bw.cell (p := ⟨b, f + k * 3, none⟩) hb).trans c0
        have d1 := (bw.cell (p := ⟨b, f + k * 3 + 1, none⟩) hb).trans c1
        have d2 := (bw.cell (p := ⟨b, f + k * 3 + 2, none⟩) hb).trans c2
        go_wp2_with fail
        refine (szMember_any (U k) (N k) (R k) z wr hz0 (by omega) hsk.1 hsk.2).mono ?_
        rintro e w1 ⟨⟨z2, rfl, hz2⟩, b1⟩
        have bw1 := bw.trans (b1.mono bw.size)
        rcases hz2 with hz2 | ⟨hz2, hz3, hz4⟩
        · go_wp2_with fail
          go_ret
          exact ⟨⟨-1, rfl, .inl (by omega)⟩, bw1⟩
        · have HB : Hid (∀ j, j < k + 1 → ((U j).size : Int) ≤ left ∧ ((N j).size : Int) ≤ left) := fun j hj => by
            by_cases hjk : j = k
            · subst hjk; exact ⟨by omega, by omega⟩
            · exact HA.out j (by omega)
          have hz2n : ¬ z2 < 0 := by omega
          go_wp2_with fail
          clear HA hsk hz4 c0 c1 c2 d0 d1 d2 i1 i2 hz2n
          go_round
          case rel => exact ⟨k + 1, z2, by omega, by go_num, rfl, hz2, by omega, bw1, HB⟩
          case measure => simp [intOf]; omega
      · obtain rfl : k = n := by omega
        go_wp2_with fail
        go_ret
        exact ⟨⟨z, rfl, .inr ⟨hz0, hz1, by omega, HA.out⟩⟩, bw⟩

set_option maxRecDepth 100000 in
set_option maxHeartbeats 2000000 in
theorem szRankS_any (v : Value) (n : Nat) (U : Nat → ByteArray) (R : Nat → Int) (left : Int) (w : World) (h0 : 0 ≤ left) (h1 : left ≤ 1048576) (hm : RankAt w v n U R) (hs : ∀ j, j < n → (U j).size ≤ 9223372036854775807) :
    Calls Tryd.prog 16 #[v, .int .i64 left] w fun e w' => (∃ z : Int, e = .returned (.int .i64 z) ∧ (z < 0 ∨ (0 ≤ z ∧ z ≤ left ∧ (n : Int) ≤ left ∧ ∀ j, j < n → ((U j).size : Int) ≤ left))) ∧ Below w.heap.size w w' := by
  obtain ⟨o, cap, rfl, g1, g2', hc⟩ := hm
  have g2 : cap ≤ 9223372036854775807 := g2'
  clear g2'
  have HC : Hid (∀ j, j < n → ∃ b f : Nat, o = some ⟨b, f, none⟩ ∧ b < w.heap.size ∧ w.cell? ⟨b, f + j * 2, none⟩ = some (.string (U j)) ∧ w.cell? ⟨b, f + j * 2 + 1, none⟩ = some (.int .i64 (R j))) := hc
  have HS : Hid (∀ j, j < n → (U j).size ≤ 9223372036854775807) := hs
  clear hc hs
  have e1 : IntKind.i64.wrap (left - (n : Int)) = left - (n : Int) := by rw [IntKind.wrap_i64]; omega
  by_cases gn : left - (n : Int) < 0
  · go_enter Tryd.func16, Tryd.ntmps16
    go_wp2_with fail
    go_ret
    exact ⟨⟨-1, rfl, .inl (by omega)⟩, Below.refl _ _⟩
  · go_enter Tryd.func16, Tryd.ntmps16
    go_wp2_with fail
    go_loopw [1, 5] (fun l i wr => ∃ (k : Nat) (z : Int), k ≤ n ∧ i = .int .i64 k ∧ l = .int .i64 z ∧ 0 ≤ z ∧ z ≤ left ∧ Below w.heap.size w wr ∧ Hid (∀ j, j < k → ((U j).size : Int) ≤ left)) (fun _ i _ => n - (intOf i).toNat)
    case atStart => exact ⟨0, _, Nat.zero_le _, rfl, rfl, by omega, by omega, Below.refl _ _, fun j hj => absurd hj (by omega)⟩
    case round =>
      obtain ⟨k, z, hk, rfl, rfl, hz0, hz1, bw, HA⟩ := hrel
      by_cases hlt : k < n
      · obtain ⟨b, f, ho, hb, c0, c1⟩ := HC.out k hlt
        subst ho
        have i1 : (0 : Int) ≤ (k : Int) := by omega
        have i2 : (k : Int) < (n : Int) := by omega
        have hsk := HS.out k hlt
        have d0 := (bw.cell (p := ⟨b, f + k * 2, none⟩) hb).trans c0
        have d1 := (bw.cell (p := ⟨b, f + k * 2 + 1, none⟩) hb).trans c1
        go_wp2_with fail
        refine (szRank_any (U k) (R k) z wr hz0 (by omega) hsk).mono ?_
        rintro e w1 ⟨⟨z2, rfl, hz2⟩, b1⟩
        have bw1 := bw.trans (b1.mono bw.size)
        rcases hz2 with hz2 | ⟨hz2, hz3, hz4⟩
        · go_wp2_with fail
          go_ret
          exact ⟨⟨-1, rfl, .inl (by omega)⟩, bw1⟩
        · have HB : Hid (∀ j, j < k + 1 → ((U j).size : Int) ≤ left) := fun j hj => by
            by_cases hjk : j = k
            · subst hjk; exact by omega
            · exact HA.out j (by omega)
          have hz2n : ¬ z2 < 0 := by omega
          go_wp2_with fail
          clear HA hsk hz4 c0 c1 d0 d1 i1 i2 hz2n
          go_round
          case rel => exact ⟨k + 1, z2, by omega, by go_num, rfl, hz2, by omega, bw1, HB⟩
          case measure => simp [intOf]; omega
      · obtain rfl : k = n := by omega
        go_wp2_with fail
        go_ret
        exact ⟨⟨z, rfl, .inr ⟨hz0, hz1, by omega, HA.out⟩⟩, bw⟩

set_option maxRecDepth 100000 in
set_option maxHeartbeats 2000000 in
theorem szRoom_any (nm sb : ByteArray) (nx : Int) (vm vk : Value) (n : Nat) (U N : Nat → ByteArray) (R : Nat → Int) (z : Nat) (KU : Nat → ByteArray) (KR : Nat → Int) (w : World) (hm : MemAt w vm n U N R) (hk : RankAt w vk z KU KR)
    (hn : nm.size ≤ 9223372036854775807) (hb : sb.size ≤ 9223372036854775807) (hs : ∀ j, j < n → (U j).size ≤ 9223372036854775807 ∧ (N j).size ≤ 9223372036854775807) (ht : ∀ j, j < z → (KU j).size ≤ 9223372036854775807) :
    Calls Tryd.prog 5 #[roomV nm nx vm vk sb, .int .i64 1048576] w fun e w' => (∃ y : Int, e = .returned (.int .i64 y) ∧ (y < 0 ∨ (0 ≤ y ∧ nm.size ≤ 1048576 ∧ sb.size ≤ 1048576 ∧ n ≤ 1048576 ∧ z ≤ 1048576 ∧ (∀ j, j < n → (U j).size ≤ 1048576 ∧ (N j).size ≤ 1048576) ∧ ∀ j, j < z → (KU j).size ≤ 1048576))) ∧ Below w.heap.size w w' := by
  obtain ⟨W0, hW0⟩ : ∃ W0, W0 = w.alloc (.cells #[.string nm, .int .i64 nx, vm, vk, .string sb] 25) := ⟨_, rfl⟩
  have b0 : Below w.heap.size w W0 := by rw [hW0]; exact below_alloc w _
  have hw0 : w.heap.size < W0.heap.size := by rw [hW0]; simp
  have q0 : W0.cell? ⟨w.heap.size, 0, none⟩ = some (.string nm) := by rw [hW0]; exact (room_cell w _ _ 0).trans rfl
  have q2 : W0.cell? ⟨w.heap.size, 2, none⟩ = some vm := by rw [hW0]; exact (room_cell w _ _ 2).trans rfl
  have q3 : W0.cell? ⟨w.heap.size, 3, none⟩ = some vk := by rw [hW0]; exact (room_cell w _ _ 3).trans rfl
  have q4 : W0.cell? ⟨w.heap.size, 4, none⟩ = some (.string sb) := by rw [hW0]; exact (room_cell w _ _ 4).trans rfl
  have hm0 := hm.below b0
  have hk0 := hk.below b0
  have vms : ∃ o l c, vm = .slice o l c := by obtain ⟨o, c, h, _⟩ := hm; exact ⟨o, n, c, h⟩
  have vks : ∃ o l c, vk = .slice o l c := by obtain ⟨o, c, h, _⟩ := hk; exact ⟨o, z, c, h⟩
  clear hm hk
  by_cases g1 : (1048576 : Int) - (nm.size : Int) < 0
  · obtain ⟨o, l, c, rfl⟩ := vms
    obtain ⟨o2, l2, c2, rfl⟩ := vks
    go_enter Tryd.func5, Tryd.ntmps5
    go_wp2_with fail
    go_ret
    rw [hW0] at b0
    exact ⟨⟨-1, rfl, .inl (by omega)⟩, b0⟩
  · have CM := fun W hm => szMemberS_any vm n U N R (1048576 - (nm.size : Int)) W (by omega) (by omega) hm hs
    obtain ⟨o, l, c, rfl⟩ := vms
    obtain ⟨o2, l2, c2, rfl⟩ := vks
    go_enter Tryd.func5, Tryd.ntmps5
    go_wp2_with fail
    rw [← hW0]
    clear hW0
    refine (CM _ hm0).mono ?_
    rintro e w1 ⟨⟨z1, rfl, h1⟩, b1⟩
    have c1 := b0.trans (b1.mono b0.size)
    have r3 := (b1.cell (p := ⟨w.heap.size, 3, none⟩) hw0).trans q3
    have r4 := (b1.cell (p := ⟨w.heap.size, 4, none⟩) hw0).trans q4
    have hk1 := hk0.below b1
    rcases h1 with h1 | ⟨h1, h1a, h1b, h1c⟩
    · go_wp2_with fail
      go_ret
      exact ⟨⟨-1, rfl, .inl (by omega)⟩, c1⟩
    · have h1n : ¬ z1 < 0 := by omega
      go_wp2_with fail
      refine (szRankS_any _ z KU KR z1 w1 h1 (by omega) hk1 ht).mono ?_
      rintro e w2 ⟨⟨z2, rfl, h2⟩, b2⟩
      have c2 := c1.trans (b2.mono c1.size)
      have b12 := b1.trans (b2.mono b1.size)
      have s4 := (b12.cell (p := ⟨w.heap.size, 4, none⟩) hw0).trans q4
      rcases h2 with h2 | ⟨h2, h2a, h2b, h2c⟩
      · go_wp2_with fail
        go_ret
        exact ⟨⟨-1, rfl, .inl (by omega)⟩, c2⟩
      · have h2n : ¬ z2 < 0 := by omega
        have e4 : IntKind.i64.wrap (z2 - (sb.size : Int)) = z2 - (sb.size : Int) := by rw [IntKind.wrap_i64]; omega
        by_cases g4 : z2 - (sb.size : Int) < 0
        · go_wp2_with fail
          go_ret
          exact ⟨⟨-1, rfl, .inl (by omega)⟩, c2⟩
        · go_wp2_with fail
          go_ret
          exact ⟨⟨_, rfl, .inr ⟨by omega, by omega, by omega, by omega, by omega, fun j hj => by have := h1c j hj; omega, fun j hj => by have := h2c j hj; omega⟩⟩, c2⟩
end Go.Proofs.YtglbjibilllopaaDoor.Hub
