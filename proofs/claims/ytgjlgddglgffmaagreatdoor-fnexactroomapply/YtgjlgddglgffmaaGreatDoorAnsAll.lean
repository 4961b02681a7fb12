/-
  What RoomApply answers, in one form: a room of one's own, and whether.
  The law's own szEntry, from any number on; szRoom, with what it leaves.
  The law's own toRoom: a room of one's own.
-/
import Derived.Test.YtgjlgddglgffmaaGreatDoorAppW
import Derived.Test.YtgjlgddglgffmaaGreatDoorEntryBare
import Derived.Test.YtgjlgddglgffmaaGreatDoorRoomSz
import Derived.Test.YtgjlgddglgffmaaGreatDoorAppS
namespace Go.Proofs.YtgjlgddglgffmaaGreatDoor.Hub
open Go.RowKit
set_option linter.unusedVariables false

theorem applied_one (nm : ByteArray) (nx : Int) (sb : ByteArray) (n : Nat) (U N : Nat → ByteArray) (R : Nat → Int) (z : Nat) (KU : Nat → ByteArray) (KR : Nat → Int) (r : ByteArray) (q kd : Int) (u nk t i fr : ByteArray) (m : Int) :
    ∃ (nA : ByteArray) (xA : Int) (sA : ByteArray) (nn : Nat) (UA NA : Nat → ByteArray) (RA : Nat → Int) (zz : Nat) (KA : Nat → ByteArray) (QA : Nat → Int) (bb : Bool), nn ≤ 7 ∧ zz ≤ 7 ∧
      ∀ (w w' : World) (e : Ending), Applied w w' e nm nx sb n U N R z KU KR r q kd u nk t i fr m → ∃ v, e = .returned (.tuple #[v, .bool bb]) ∧ NewRoom w w' v nA xA sA nn UA NA RA zz KA QA := by
  cases hT : roomT nm nx sb n U N R z KU KR with
  | false =>
    refine ⟨⟨#[]⟩, 0, ⟨#[]⟩, 0, fun _ => ⟨#[]⟩, fun _ => ⟨#[]⟩, fun _ => 0, 0, fun _ => ⟨#[]⟩, fun _ => 0, false, by omega, by omega, ?_⟩
    rintro w w' e ⟨v, b, rfl, h⟩
    rcases h with ⟨h1, h2, h3⟩ | ⟨h1, h2, h3, h4⟩ | ⟨h1, h2, h3, h4⟩
    · subst h2 h3
      exact ⟨_, rfl, _, _, rfl, OwnL.nil _ _ _ _ _, OwnL.nil _ _ _ _ _, fun q h => by cases h⟩
    · rw [hT] at h1; cases h1
    · rw [hT] at h1; cases h1
  | true =>
    obtain ⟨h5, h6, -⟩ := room_small hT
    cases hC : canT nm nx sb n U N R z KU KR r q kd u nk t i fr m with
    | false =>
      refine ⟨nm, nx, sb, n, U, N, R, z, KU, KR, false, by omega, by omega, ?_⟩
      rintro w w' e ⟨v, b, rfl, h⟩
      rcases h with ⟨h1, h2, h3⟩ | ⟨h1, h2, h3, h4⟩ | ⟨h1, h2, h3, h4⟩
      · rw [hT] at h1; cases h1
      · subst h3; exact ⟨_, rfl, h4⟩
      · rw [hC] at h2; cases h2
    | true =>
      refine ⟨nm, q + 1, aftS kd sb t, aftN kd n, aftU kd n (ofN n U u) u U, aftU kd n (ofN n U u) nk N, aftR kd n (ofN n U u) m R, aftZ kd z (lessTo KU u z) (foundT z KU u) m, aftKU kd (lessTo KU u z) (foundT z KU u) u m KU, aftKR kd (lessTo KU u z) (foundT z KU u) m KR, true, ?_, ?_, ?_⟩
      · unfold aftN
        split
        · omega
        · split <;> omega
      · unfold aftZ rankN
        split
        · split
          · split <;> omega
          · split <;> omega
        · omega
      · rintro w w' e ⟨v, b, rfl, h⟩
        rcases h with ⟨h1, h2, h3⟩ | ⟨h1, h2, h3, h4⟩ | ⟨h1, h2, h3, h4⟩
        · rw [hT] at h1; cases h1
        · rw [hC] at h2; cases h2
        · subst h3; exact ⟨_, rfl, h4⟩
end Go.Proofs.YtgjlgddglgffmaaGreatDoor.Hub
namespace Go.Proofs.YtgjlgddglgffmaaGreatDoor.Hub
open Go.RowKit
set_option linter.unusedVariables false

set_option maxRecDepth 100000 in
set_option maxHeartbeats 4000000 in
theorem szEntryN_any (L : Int) (hL0 : 0 ≤ L) (hL : L ≤ 1048576) (r : ByteArray) (q k : Int) (u n t i f : ByteArray) (m : Int) (w : World) (hr : r.size ≤ 9223372036854775807) (hu : u.size ≤ 9223372036854775807) (hn : n.size ≤ 9223372036854775807) (ht : t.size ≤ 9223372036854775807) (hi : i.size ≤ 9223372036854775807) (hf : f.size ≤ 9223372036854775807) :
    Calls Tryz.prog 5 #[entV r q k u n t i f m, .int .i64 L] w fun e w' => (∃ z : Int, e = .returned (.int .i64 z) ∧ (z < 0 ∨ (0 ≤ z ∧ r.size + u.size + n.size + t.size + i.size + f.size ≤ 1048576))) ∧ Below w.heap.size w w' := by
  have b0 : Below w.heap.size w (w.alloc (.cells #[.string r, .int .i64 q, .int .i64 k, .string u, .string n, .string t, .string i, .string f, .int .i64 m] 27)) := (Below.refl _ w).alloc (Nat.le_refl _) _
  by_cases h1 : L - (r.size : Int) < 0
  · go_enter Tryz.func5, Tryz.ntmps5
    go_wp2
    go_ret
    exact ⟨⟨-1, rfl, .inl (by omega)⟩, b0⟩
  · skip
    by_cases h2 : L - (r.size : Int) - (u.size : Int) < 0
    · go_enter Tryz.func5, Tryz.ntmps5
      go_wp2
      go_ret
      exact ⟨⟨-1, rfl, .inl (by omega)⟩, b0⟩
    · skip
      by_cases h3 : L - (r.size : Int) - (u.size : Int) - (n.size : Int) < 0
      · go_enter Tryz.func5, Tryz.ntmps5
        go_wp2
        go_ret
        exact ⟨⟨-1, rfl, .inl (by omega)⟩, b0⟩
      · skip
        by_cases h4 : L - (r.size : Int) - (u.size : Int) - (n.size : Int) - (t.size : Int) < 0
        · go_enter Tryz.func5, Tryz.ntmps5
          go_wp2
          go_ret
          exact ⟨⟨-1, rfl, .inl (by omega)⟩, b0⟩
        · skip
          by_cases h5 : L - (r.size : Int) - (u.size : Int) - (n.size : Int) - (t.size : Int) - (i.size : Int) < 0
          · go_enter Tryz.func5, Tryz.ntmps5
            go_wp2
            go_ret
            exact ⟨⟨-1, rfl, .inl (by omega)⟩, b0⟩
          · skip
            by_cases h6 : L - (r.size : Int) - (u.size : Int) - (n.size : Int) - (t.size : Int) - (i.size : Int) - (f.size : Int) < 0
            · go_enter Tryz.func5, Tryz.ntmps5
              go_wp2
              go_ret
              exact ⟨⟨-1, rfl, .inl (by omega)⟩, b0⟩
            · go_enter Tryz.func5, Tryz.ntmps5
              go_wp2
              go_ret
              exact ⟨⟨_, rfl, .inr ⟨by omega, by omega⟩⟩, b0⟩
set_option maxRecDepth 100000 in
set_option maxHeartbeats 2000000 in
theorem szRoomN_any (nm sb : ByteArray) (nx : Int) (vm vk : Value) (n : Nat) (U N : Nat → ByteArray) (R : Nat → Int) (z : Nat) (KU : Nat → ByteArray) (KR : Nat → Int) (w : World) (hm : MemAt w vm n U N R) (hk : RankAt w vk z KU KR)
    (hn : nm.size ≤ 9223372036854775807) (hb : sb.size ≤ 9223372036854775807) (hs : ∀ j, j < n → (U j).size ≤ 9223372036854775807 ∧ (N j).size ≤ 9223372036854775807) (ht : ∀ j, j < z → (KU j).size ≤ 9223372036854775807) :
    Calls Tryz.prog 4 #[roomV nm nx vm vk sb, .int .i64 1048576] w fun e w' => (∃ y : Int, e = .returned (.int .i64 y) ∧ (y < 0 ∨ (0 ≤ y ∧ y ≤ 1048576 ∧ nm.size ≤ 1048576 ∧ sb.size ≤ 1048576 ∧ n ≤ 1048576 ∧ z ≤ 1048576 ∧ (∀ j, j < n → (U j).size ≤ 1048576 ∧ (N j).size ≤ 1048576) ∧ ∀ j, j < z → (KU j).size ≤ 1048576))) ∧ Below w.heap.size w w' := by
  obtain ⟨W0, hW0⟩ : ∃ W0, W0 = w.alloc (.cells #[.string nm, .int .i64 nx, vm, vk, .string sb] 25) := ⟨_, rfl⟩
  have b0 : Below w.heap.size w W0 := by rw [hW0]; exact below_alloc w _
  have hw0 : w.heap.size < W0.heap.size := by rw [hW0]; simp
  have q0 : W0.cell? ⟨w.heap.size, 0, none⟩ = some (.string nm) := by rw [hW0]; exact (room_cell w _ _ 0).trans rfl
  have q2 : W0.cell? ⟨w.heap.size, 2, none⟩ = some vm := by rw [hW0]; exact (room_cell w _ _ 2).trans rfl
  have q3 : W0.cell? ⟨w.heap.size, 3, none⟩ = some vk := by rw [hW0]; exact (room_cell w _ _ 3).trans rfl
  have q4 : W0.cell? ⟨w.heap.size, 4, none⟩ = some (.string sb) := by rw [hW0]; exact (room_cell w _ _ 4).trans rfl
  have hm0 := hm.below b0
  have hk0 := hk.below b0
  have vms : ∃ o l c, vm = .slice o l c := by obtain ⟨o, c, h, _⟩ := hm; exact ⟨o, n, c, h⟩
  have vks : ∃ o l c, vk = .slice o l c := by obtain ⟨o, c, h, _⟩ := hk; exact ⟨o, z, c, h⟩
  clear hm hk
  by_cases g1 : (1048576 : Int) - (nm.size : Int) < 0
  · obtain ⟨o, l, c, rfl⟩ := vms
    obtain ⟨o2, l2, c2, rfl⟩ := vks
    go_enter Tryz.func4, Tryz.ntmps4
    go_wp2_with fail
    go_ret
    rw [hW0] at b0
    exact ⟨⟨-1, rfl, .inl (by omega)⟩, b0⟩
  · have CM := fun W hm => szMemberS_any vm n U N R (1048576 - (nm.size : Int)) W (by omega) (by omega) hm hs
    obtain ⟨o, l, c, rfl⟩ := vms
    obtain ⟨o2, l2, c2, rfl⟩ := vks
    go_enter Tryz.func4, Tryz.ntmps4
    go_wp2_with fail
    rw [← hW0]
    clear hW0
    refine (CM _ hm0).mono ?_
    rintro e w1 ⟨⟨z1, rfl, h1⟩, b1⟩
    have c1 := b0.trans (b1.mono b0.size)
    have r3 := (b1.cell (p := ⟨w.heap.size, 3, none⟩) hw0).trans q3
    have r4 := (b1.cell (p := ⟨w.heap.size, 4, none⟩) hw0).trans q4
    have hk1 := hk0.below b1
    rcases h1 with h1 | ⟨h1, h1a, h1b, h1c⟩
    · go_wp2_with fail
      go_ret
      exact ⟨⟨-1, rfl, .inl (by omega)⟩, c1⟩
    · have h1n : ¬ z1 < 0 := by omega
      go_wp2_with fail
      refine (szRankS_any _ z KU KR z1 w1 h1 (by omega) hk1 ht).mono ?_
      rintro e w2 ⟨⟨z2, rfl, h2⟩, b2⟩
      have c2 := c1.trans (b2.mono c1.size)
      have b12 := b1.trans (b2.mono b1.size)
      have s4 := (b12.cell (p := ⟨w.heap.size, 4, none⟩) hw0).trans q4
      rcases h2 with h2 | ⟨h2, h2a, h2b, h2c⟩
      · go_wp2_with fail
        go_ret
        exact ⟨⟨-1, rfl, .inl (by omega)⟩, c2⟩
      · have h2n : ¬ z2 < 0 := by omega
        have e4 : IntKind.i64.wrap (z2 - (sb.size : Int)) = z2 - (sb.size : Int) := by rw [IntKind.wrap_i64]; omega
        by_cases g4 : z2 - (sb.size : Int) < 0
        · go_wp2_with fail
          go_ret
          exact ⟨⟨-1, rfl, .inl (by omega)⟩, c2⟩
        · go_wp2_with fail
          go_ret
          exact ⟨⟨_, rfl, .inr ⟨by omega, by omega, by omega, by omega, by omega, by omega, fun j hj => by have := h1c j hj; omega, fun j hj => by have := h2c j hj; omega⟩⟩, c2⟩
end Go.Proofs.YtgjlgddglgffmaaGreatDoor.Hub
namespace Go.Proofs.YtgjlgddglgffmaaGreatDoor.Hub
open Go.RowKit
set_option linter.unusedVariables false

set_option maxRecDepth 100000 in
set_option maxHeartbeats 2000000 in
theorem toMemberN_any (v : Value) (n : Nat) (U N : Nat → ByteArray) (R : Nat → Int) (w : World) (hm : MemAt w v n U N R) (hn : n ≤ 1048576) :
    Calls Tryz.prog 19 #[v] w fun e w' => (∃ v', e = .returned v' ∧ OwnM w' w.heap.size v' n U N R) ∧ Below w.heap.size w w' := by
  obtain ⟨o, cap, rfl, g1, g2', hc⟩ := hm
  have g2 : cap ≤ 9223372036854775807 := g2'
  clear g2'
  have HC : Hid (∀ j, j < n → ∃ b f : Nat, o = some ⟨b, f, none⟩ ∧ b < w.heap.size ∧ w.cell? ⟨b, f + j * 3, none⟩ = some (.string (U j)) ∧ w.cell? ⟨b, f + j * 3 + 1, none⟩ = some (.string (N j)) ∧ w.cell? ⟨b, f + j * 3 + 2, none⟩ = some (.int .i64 (R j))) := hc
  clear hc
  have hmk := make_many 30 64 (.agg #[.string ⟨#[]⟩, .string ⟨#[]⟩, .int .i64 0]) 3 40 Tryz.underlying30 (by kernel_rfl) n (by omega) (by omega)
  go_enter Tryz.func19, Tryz.ntmps19
  go_wp2_with fail
  go_loopw [4] (fun i wr => ∃ (k : Nat) (C : Array Value), k ≤ n ∧ i = .int .i64 k ∧ Below w.heap.size w wr ∧ wr.heap[w.heap.size]? = some (.cells C 64 (0, 0)) ∧ C.size = n * 3 ∧ Hid (∀ j, j < k → C[j * 3]? = some (.string (U j)) ∧ C[j * 3 + 1]? = some (.string (N j)) ∧ C[j * 3 + 2]? = some (.int .i64 (R j)))) (fun i _ => n - (intOf i).toNat)
  case atStart => exact ⟨0, _, Nat.zero_le _, rfl, below_alloc w _, World.alloc_heap_new w _, by rw [size_madeCells], fun j hj => absurd hj (by omega)⟩
  case round =>
    obtain ⟨k, C, hk, rfl, bw, hg, hC, HA⟩ := hrel
    by_cases hlt : k < n
    · obtain ⟨b, f, ho, hb, c0, c1, c2⟩ := HC.out k hlt
      subst ho
      have i1 : (0 : Int) ≤ (k : Int) := by omega
      have i2 : (k : Int) < (n : Int) := by omega
      have d0 := (bw.cell (p := ⟨b, f + k * 3, none⟩) hb).trans c0
      have d1 := (bw.cell (p := ⟨b, f + k * 3 + 1, none⟩) hb).trans c1
      have d2 := (bw.cell (p := ⟨b, f + k * 3 + 2, none⟩) hb).trans c2
      go_wp2_with fail
      refine (toMember_any (U k) (N k) (R k) wr).mono ?_
      rintro e w1 ⟨rfl, b1⟩
      have hlg : w.heap.size < wr.heap.size := (Array.getElem?_eq_some_iff.1 hg).1
      have hg1 := (b1.block w.heap.size hlg).trans hg
      have bw1 := bw.trans (b1.mono bw.size)
      have e0 : w1.cell? ⟨w.heap.size, k * 3, none⟩ = some (C[k * 3]'(by omega)) := (cell_of w1 _ _ C _ hg1).trans (Array.getElem?_eq_getElem (by omega))
      have e1 : w1.cell? ⟨w.heap.size, k * 3 + 1, none⟩ = some (C[k * 3 + 1]'(by omega)) := (cell_of w1 _ _ C _ hg1).trans (Array.getElem?_eq_getElem (by omega))
      have e2 : w1.cell? ⟨w.heap.size, k * 3 + 2, none⟩ = some (C[k * 3 + 2]'(by omega)) := (cell_of w1 _ _ C _ hg1).trans (Array.getElem?_eq_getElem (by omega))
      have f0 : w1.frozen? ⟨w.heap.size, k * 3, none⟩ = false := by simp [World.frozen?, hg1]
      have f1 : w1.frozen? ⟨w.heap.size, k * 3 + 1, none⟩ = false := by simp [World.frozen?, hg1]
      have f2 : w1.frozen? ⟨w.heap.size, k * 3 + 2, none⟩ = false := by simp [World.frozen?, hg1]
      go_wp2_with fail
      have k1 := set_heap _ w.heap.size (k * 3 + 2) _ _ _ (.int .i64 (R k)) (set_heap _ w.heap.size (k * 3 + 1) _ _ _ (.string (N k)) (set_heap w1 w.heap.size (k * 3) C _ _ (.string (U k)) hg1))
      go_round
      case rel =>
        refine ⟨k + 1, _, by omega, by go_num, ((bw1.setCell (Nat.le_refl _) _).setCell (Nat.le_refl _) _).setCell (Nat.le_refl _) _, k1, by simp [hC], fun j hj => ?_⟩
        rw [put3 C (k * 3) _ _ _ (by omega), put3 C (k * 3) _ _ _ (by omega), put3 C (k * 3) _ _ _ (by omega)]
        by_cases hjk : j = k
        · subst hjk
          rw [if_pos rfl, if_neg (by omega), if_pos rfl, if_neg (by omega), if_neg (by omega), if_pos rfl]
          exact ⟨rfl, rfl, rfl⟩
        · rw [if_neg (by omega), if_neg (by omega), if_neg (by omega), if_neg (by omega), if_neg (by omega), if_neg (by omega), if_neg (by omega), if_neg (by omega), if_neg (by omega)]
          exact HA.out j (by omega)
      case measure => simp [intOf]; omega
    · obtain rfl : k = n := by omega
      have hlg : w.heap.size < wr.heap.size := (Array.getElem?_eq_some_iff.1 hg).1
      go_wp2_with fail
      go_ret
      exact ⟨⟨_, rfl, own_rowL (memC_len _ _ _) (by omega) (Nat.le_refl _) hg (Nat.le_refl _) (by show k ≤ 2 ^ 63 - 1; omega) hC (fun j hj i hi => by match i, hi with
        | 0, _ => exact (HA.out j hj).1
        | 1, _ => exact (HA.out j hj).2.1
        | 2, _ => exact (HA.out j hj).2.2)⟩, bw⟩

set_option maxRecDepth 100000 in
set_option maxHeartbeats 2000000 in
theorem toRankN_any (v : Value) (n : Nat) (U : Nat → ByteArray) (R : Nat → Int) (w : World) (hm : RankAt w v n U R) (hn : n ≤ 1048576) :
    Calls Tryz.prog 20 #[v] w fun e w' => (∃ v', e = .returned v' ∧ OwnK w' w.heap.size v' n U R) ∧ Below w.heap.size w w' := by
  obtain ⟨o, cap, rfl, g1, g2', hc⟩ := hm
  have g2 : cap ≤ 9223372036854775807 := g2'
  clear g2'
  have HC : Hid (∀ j, j < n → ∃ b f : Nat, o = some ⟨b, f, none⟩ ∧ b < w.heap.size ∧ w.cell? ⟨b, f + j * 2, none⟩ = some (.string (U j)) ∧ w.cell? ⟨b, f + j * 2 + 1, none⟩ = some (.int .i64 (R j))) := hc
  clear hc
  have hmk := make_many 31 68 (.agg #[.string ⟨#[]⟩, .int .i64 0]) 2 24 Tryz.underlying31 (by kernel_rfl) n (by omega) (by omega)
  go_enter Tryz.func20, Tryz.ntmps20
  go_wp2_with fail
  go_loopw [4] (fun i wr => ∃ (k : Nat) (C : Array Value), k ≤ n ∧ i = .int .i64 k ∧ Below w.heap.size w wr ∧ wr.heap[w.heap.size]? = some (.cells C 68 (0, 0)) ∧ C.size = n * 2 ∧ Hid (∀ j, j < k → C[j * 2]? = some (.string (U j)) ∧ C[j * 2 + 1]? = some (.int .i64 (R j)))) (fun i _ => n - (intOf i).toNat)
  case atStart => exact ⟨0, _, Nat.zero_le _, rfl, below_alloc w _, World.alloc_heap_new w _, by rw [size_madeCells], fun j hj => absurd hj (by omega)⟩
  case round =>
    obtain ⟨k, C, hk, rfl, bw, hg, hC, HA⟩ := hrel
    by_cases hlt : k < n
    · obtain ⟨b, f, ho, hb, c0, c1⟩ := HC.out k hlt
      subst ho
      have i1 : (0 : Int) ≤ (k : Int) := by omega
      have i2 : (k : Int) < (n : Int) := by omega
      have d0 := (bw.cell (p := ⟨b, f + k * 2, none⟩) hb).trans c0
      have d1 := (bw.cell (p := ⟨b, f + k * 2 + 1, none⟩) hb).trans c1
      go_wp2_with fail
      refine (toRank_any (U k) (R k) wr).mono ?_
      rintro e w1 ⟨rfl, b1⟩
      have hlg : w.heap.size < wr.heap.size := (Array.getElem?_eq_some_iff.1 hg).1
      have hg1 := (b1.block w.heap.size hlg).trans hg
      have bw1 := bw.trans (b1.mono bw.size)
      have e0 : w1.cell? ⟨w.heap.size, k * 2, none⟩ = some (C[k * 2]'(by omega)) := (cell_of w1 _ _ C _ hg1).trans (Array.getElem?_eq_getElem (by omega))
      have e1 : w1.cell? ⟨w.heap.size, k * 2 + 1, none⟩ = some (C[k * 2 + 1]'(by omega)) := (cell_of w1 _ _ C _ hg1).trans (Array.getElem?_eq_getElem (by omega))
      have f0 : w1.frozen? ⟨w.heap.size, k * 2, none⟩ = false := by simp [World.frozen?, hg1]
      have f1 : w1.frozen? ⟨w.heap.size, k * 2 + 1, none⟩ = false := by simp [World.frozen?, hg1]
      go_wp2_with fail
      have k1 := set_heap _ w.heap.size (k * 2 + 1) _ _ _ (.int .i64 (R k)) (set_heap w1 w.heap.size (k * 2) C _ _ (.string (U k)) hg1)
      go_round
      case rel =>
        refine ⟨k + 1, _, by omega, by go_num, (bw1.setCell (Nat.le_refl _) _).setCell (Nat.le_refl _) _, k1, by simp [hC], fun j hj => ?_⟩
        rw [put2 C (k * 2) _ _ (by omega), put2 C (k * 2) _ _ (by omega)]
        by_cases hjk : j = k
        · subst hjk
          rw [if_pos rfl, if_neg (by omega), if_pos rfl]
          exact ⟨rfl, rfl⟩
        · rw [if_neg (by omega), if_neg (by omega), if_neg (by omega), if_neg (by omega)]
          exact HA.out j (by omega)
      case measure => simp [intOf]; omega
    · obtain rfl : k = n := by omega
      have hlg : w.heap.size < wr.heap.size := (Array.getElem?_eq_some_iff.1 hg).1
      go_wp2_with fail
      go_ret
      exact ⟨⟨_, rfl, own_rowL (rankC_len _ _) (by omega) (Nat.le_refl _) hg (Nat.le_refl _) (by show k ≤ 2 ^ 63 - 1; omega) hC (fun j hj i hi => by match i, hi with
        | 0, _ => exact (HA.out j hj).1
        | 1, _ => exact (HA.out j hj).2)⟩, bw⟩

set_option maxRecDepth 100000 in
set_option maxHeartbeats 2000000 in
theorem toRoomN_any (nm sb : ByteArray) (nx : Int) (vm vk : Value) (n : Nat) (U N : Nat → ByteArray) (R : Nat → Int) (z : Nat) (KU : Nat → ByteArray) (KR : Nat → Int) (w : World) (hm : MemAt w vm n U N R) (hk : RankAt w vk z KU KR) (hn : n ≤ 1048576) (hz : z ≤ 1048576) :
    Calls Tryz.prog 7 #[roomV nm nx vm vk sb] w fun e w' => (∃ v, e = .returned v ∧ NewRoom w w' v nm nx sb n U N R z KU KR) ∧ Below w.heap.size w w' := by
  have vms : ∃ o l c, vm = .slice o l c := by obtain ⟨o, c, h, _⟩ := hm; exact ⟨o, n, c, h⟩
  have vks : ∃ o l c, vk = .slice o l c := by obtain ⟨o, c, h, _⟩ := hk; exact ⟨o, z, c, h⟩
  obtain ⟨o, l, c, rfl⟩ := vms
  obtain ⟨o2, l2, c2, rfl⟩ := vks
  go_enter Tryz.func7, Tryz.ntmps7
  go_wp2_with fail
  obtain ⟨WA, hWA⟩ : ∃ WA, WA = ((w.alloc (.cells #[.string nm, .int .i64 nx, .slice o l c, .slice o2 l2 c2, .string sb] 25)).alloc (.cells #[.string ⟨#[]⟩, .int .i64 0, .slice none 0 0, .slice none 0 0, .string ⟨#[]⟩] 33)).alloc (.cells #[.string nm, .int .i64 nx, .slice none 0 0, .slice none 0 0, .string ⟨#[]⟩] 33) := ⟨_, rfl⟩
  have bA : Below w.heap.size w WA := by rw [hWA]; exact (((Below.refl _ w).alloc (Nat.le_refl _) _).alloc (by simp) _).alloc (by simp; omega) _
  have sA : WA.heap.size = w.heap.size + 3 := by rw [hWA]; simp
  have a0 : WA.heap[w.heap.size]? = some (.cells #[.string nm, .int .i64 nx, .slice o l c, .slice o2 l2 c2, .string sb] 25 (0, 0)) := by
    rw [hWA, Below.heap_alloc _ _ _ (by simp; omega), Below.heap_alloc _ _ _ (by simp)]; exact World.alloc_heap_new w _
  have a2 : WA.heap[w.heap.size + 1 + 1]? = some (.cells #[.string nm, .int .i64 nx, .slice none 0 0, .slice none 0 0, .string ⟨#[]⟩] 33 (0, 0)) := by
    rw [hWA]
    have := World.alloc_heap_new ((w.alloc (.cells #[.string nm, .int .i64 nx, .slice o l c, .slice o2 l2 c2, .string sb] 25)).alloc (.cells #[.string ⟨#[]⟩, .int .i64 0, .slice none 0 0, .slice none 0 0, .string ⟨#[]⟩] 33)) (.cells #[.string nm, .int .i64 nx, .slice none 0 0, .slice none 0 0, .string ⟨#[]⟩] 33)
    simpa using this
  have a1 : WA.heap[w.heap.size + 1]? = some (.cells #[.string ⟨#[]⟩, .int .i64 0, .slice none 0 0, .slice none 0 0, .string ⟨#[]⟩] 33 (0, 0)) := by
    rw [hWA, Below.heap_alloc _ _ _ (by simp)]
    have := World.alloc_heap_new (w.alloc (.cells #[.string nm, .int .i64 nx, .slice o l c, .slice o2 l2 c2, .string sb] 25)) (.cells #[.string ⟨#[]⟩, .int .i64 0, .slice none 0 0, .slice none 0 0, .string ⟨#[]⟩] 33)
    simpa using this
  rw [← hWA]
  clear hWA
  refine (toMemberN_any _ n U N R WA (hm.below bA) hn).mono ?_
  rintro e w1 ⟨⟨v1, rfl, hm1⟩, b1⟩
  have m1 : ∃ o l c, v1 = .slice o l c := by obtain ⟨o, c, h⟩ := OwnL.shape hm1; exact ⟨o, n, c, h⟩
  obtain ⟨o3, l3, c3, rfl⟩ := m1
  have ML := OwnL.lt hm1
  have e0 := (b1.block w.heap.size (by omega)).trans a0
  have e2 := (b1.block (w.heap.size + 1 + 1) (by omega)).trans a2
  have e1 := (b1.block (w.heap.size + 1) (by omega)).trans a1
  have s1 := b1.size
  have x2 : w1.cell? ⟨w.heap.size + 1 + 1, 2, none⟩ = some (.slice none 0 0) := cell_of w1 _ _ _ _ e2
  have x2f : w1.frozen? ⟨w.heap.size + 1 + 1, 2, none⟩ = false := by simp [World.frozen?, e2]
  have b2 : Below (w.heap.size + 1 + 1) w1 (w1.setCell ⟨w.heap.size + 1 + 1, 2, none⟩ (.slice o3 l3 c3)) := (Below.refl (w.heap.size + 1 + 1) w1).setCell (p := ⟨w.heap.size + 1 + 1, 2, none⟩) (Nat.le_refl _) _
  have e2' := set_heap w1 (w.heap.size + 1 + 1) 2 _ _ _ (.slice o3 l3 c3) e2
  have e0' := (b2.block w.heap.size (by omega)).trans e0
  have e1' := (b2.block (w.heap.size + 1) (by omega)).trans e1
  have y3 : (w1.setCell ⟨w.heap.size + 1 + 1, 2, none⟩ (.slice o3 l3 c3)).cell? ⟨w.heap.size, 3, none⟩ = some (.slice o2 l2 c2) := cell_of _ _ _ _ _ e0'
  have cA := bA.trans (b1.mono bA.size)
  have cB : Below w.heap.size w (w1.setCell ⟨w.heap.size + 1 + 1, 2, none⟩ (.slice o3 l3 c3)) := cA.setCell (p := ⟨w.heap.size + 1 + 1, 2, none⟩) (by show w.heap.size ≤ w.heap.size + 1 + 1; omega) _
  have hm2 := OwnL.set hm1 ⟨w.heap.size + 1 + 1, 2, none⟩ (.slice o3 l3 c3) (by show w.heap.size + 1 + 1 < WA.heap.size; omega)
  have s2 := cB.size
  go_wp2_with fail
  obtain ⟨WB, hWB⟩ : ∃ WB, WB = w1.setCell ⟨w.heap.size + 1 + 1, 2, none⟩ (.slice o3 l3 c3) := ⟨_, rfl⟩
  have sB : w.heap.size + 3 ≤ WB.heap.size := by
    have := ((Below.refl (w.heap.size + 1 + 1) w1).setCell (p := ⟨w.heap.size + 1 + 1, 2, none⟩) (Nat.le_refl _) (.slice o3 l3 c3)).size
    rw [hWB]; omega
  have sB2 : w1.heap.size ≤ WB.heap.size := by rw [hWB]; simp
  rw [← hWB] at e2' e0' e1' y3 cB hm2 ⊢
  clear hWB b2 x2 x2f e0 e1 e2 hm1 s2
  refine (toRankN_any _ z KU KR WB (hk.below cB) hz).mono ?_
  rintro e w2 ⟨⟨v2, rfl, hk2⟩, b3⟩
  have m2 : ∃ o l c, v2 = .slice o l c := by obtain ⟨o, c, h⟩ := OwnL.shape hk2; exact ⟨o, z, c, h⟩
  obtain ⟨o4, l4, c4, rfl⟩ := m2
  have KL := OwnL.lt hk2
  have hm3 := OwnL.below hm2 b3
  have cC := cB.trans (b3.mono cB.size)
  have g0 := (b3.block w.heap.size (by omega)).trans e0'
  have g2 := (b3.block (w.heap.size + 1 + 1) (by omega)).trans e2'
  have p3 : w2.cell? ⟨w.heap.size + 1 + 1, 3, none⟩ = some (.slice none 0 0) := cell_of w2 _ _ _ _ g2
  have p3f : w2.frozen? ⟨w.heap.size + 1 + 1, 3, none⟩ = false := by simp [World.frozen?, g2]
  have g2' := set_heap w2 (w.heap.size + 1 + 1) 3 _ _ _ (.slice o4 l4 c4) g2
  have p4 : (w2.setCell ⟨w.heap.size + 1 + 1, 3, none⟩ (.slice o4 l4 c4)).cell? ⟨w.heap.size + 1 + 1, 4, none⟩ = some (.string ⟨#[]⟩) := cell_of _ _ _ _ _ g2'
  have p4f : (w2.setCell ⟨w.heap.size + 1 + 1, 3, none⟩ (.slice o4 l4 c4)).frozen? ⟨w.heap.size + 1 + 1, 4, none⟩ = false := by rw [World.frozen?_setCell]; simp [World.frozen?, g2]
  have p5 : (w2.setCell ⟨w.heap.size + 1 + 1, 3, none⟩ (.slice o4 l4 c4)).cell? ⟨w.heap.size, 4, none⟩ = some (.string sb) := by
    rw [setO _ _ _ _ (by intro h; injection h with h; omega)]
    exact cell_of _ _ _ _ _ g0
  have g3' := set_heap _ (w.heap.size + 1 + 1) 4 _ _ _ (.string sb) g2'
  have t0 : ((w2.setCell ⟨w.heap.size + 1 + 1, 3, none⟩ (.slice o4 l4 c4)).setCell ⟨w.heap.size + 1 + 1, 4, none⟩ (.string sb)).cell? ⟨w.heap.size + 1 + 1, 0, none⟩ = some (.string nm) := cell_of _ _ _ _ _ g3'
  have t1 : ((w2.setCell ⟨w.heap.size + 1 + 1, 3, none⟩ (.slice o4 l4 c4)).setCell ⟨w.heap.size + 1 + 1, 4, none⟩ (.string sb)).cell? ⟨w.heap.size + 1 + 1, 1, none⟩ = some (.int .i64 nx) := cell_of _ _ _ _ _ g3'
  have t2 : ((w2.setCell ⟨w.heap.size + 1 + 1, 3, none⟩ (.slice o4 l4 c4)).setCell ⟨w.heap.size + 1 + 1, 4, none⟩ (.string sb)).cell? ⟨w.heap.size + 1 + 1, 2, none⟩ = some (.slice o3 l3 c3) := cell_of _ _ _ _ _ g3'
  have t3 : ((w2.setCell ⟨w.heap.size + 1 + 1, 3, none⟩ (.slice o4 l4 c4)).setCell ⟨w.heap.size + 1 + 1, 4, none⟩ (.string sb)).cell? ⟨w.heap.size + 1 + 1, 3, none⟩ = some (.slice o4 l4 c4) := cell_of _ _ _ _ _ g3'
  have t4 : ((w2.setCell ⟨w.heap.size + 1 + 1, 3, none⟩ (.slice o4 l4 c4)).setCell ⟨w.heap.size + 1 + 1, 4, none⟩ (.string sb)).cell? ⟨w.heap.size + 1 + 1, 4, none⟩ = some (.string sb) := cell_of _ _ _ _ _ g3'
  have g1 := (b3.block (w.heap.size + 1) (by omega)).trans e1'
  have g1' : ((w2.setCell ⟨w.heap.size + 1 + 1, 3, none⟩ (.slice o4 l4 c4)).setCell ⟨w.heap.size + 1 + 1, 4, none⟩ (.string sb)).heap[w.heap.size + 1]? = some (.cells #[.string ⟨#[]⟩, .int .i64 0, .slice none 0 0, .slice none 0 0, .string ⟨#[]⟩] 33 (0, 0)) := by
    rw [Below.heap_setCell _ _ _ _ (by show w.heap.size + 1 ≠ w.heap.size + 1 + 1; omega), Below.heap_setCell _ _ _ _ (by show w.heap.size + 1 ≠ w.heap.size + 1 + 1; omega)]
    exact g1
  have n0 : ((w2.setCell ⟨w.heap.size + 1 + 1, 3, none⟩ (.slice o4 l4 c4)).setCell ⟨w.heap.size + 1 + 1, 4, none⟩ (.string sb)).cell? ⟨w.heap.size + 1, 0, none⟩ = some (.string ⟨#[]⟩) := cell_of _ _ _ _ _ g1'
  have nf0 : ((w2.setCell ⟨w.heap.size + 1 + 1, 3, none⟩ (.slice o4 l4 c4)).setCell ⟨w.heap.size + 1 + 1, 4, none⟩ (.string sb)).frozen? ⟨w.heap.size + 1, 0, none⟩ = false := by rw [World.frozen?_setCell, World.frozen?_setCell]; simp [World.frozen?, g1]
  have n1 : ((w2.setCell ⟨w.heap.size + 1 + 1, 3, none⟩ (.slice o4 l4 c4)).setCell ⟨w.heap.size + 1 + 1, 4, none⟩ (.string sb)).cell? ⟨w.heap.size + 1, 1, none⟩ = some (.int .i64 0) := cell_of _ _ _ _ _ g1'
  have nf1 : ((w2.setCell ⟨w.heap.size + 1 + 1, 3, none⟩ (.slice o4 l4 c4)).setCell ⟨w.heap.size + 1 + 1, 4, none⟩ (.string sb)).frozen? ⟨w.heap.size + 1, 1, none⟩ = false := by rw [World.frozen?_setCell, World.frozen?_setCell]; simp [World.frozen?, g1]
  have n2 : ((w2.setCell ⟨w.heap.size + 1 + 1, 3, none⟩ (.slice o4 l4 c4)).setCell ⟨w.heap.size + 1 + 1, 4, none⟩ (.string sb)).cell? ⟨w.heap.size + 1, 2, none⟩ = some (.slice none 0 0) := cell_of _ _ _ _ _ g1'
  have nf2 : ((w2.setCell ⟨w.heap.size + 1 + 1, 3, none⟩ (.slice o4 l4 c4)).setCell ⟨w.heap.size + 1 + 1, 4, none⟩ (.string sb)).frozen? ⟨w.heap.size + 1, 2, none⟩ = false := by rw [World.frozen?_setCell, World.frozen?_setCell]; simp [World.frozen?, g1]
  have n3 : ((w2.setCell ⟨w.heap.size + 1 + 1, 3, none⟩ (.slice o4 l4 c4)).setCell ⟨w.heap.size + 1 + 1, 4, none⟩ (.string sb)).cell? ⟨w.heap.size + 1, 3, none⟩ = some (.slice none 0 0) := cell_of _ _ _ _ _ g1'
  have nf3 : ((w2.setCell ⟨w.heap.size + 1 + 1, 3, none⟩ (.slice o4 l4 c4)).setCell ⟨w.heap.size + 1 + 1, 4, none⟩ (.string sb)).frozen? ⟨w.heap.size + 1, 3, none⟩ = false := by rw [World.frozen?_setCell, World.frozen?_setCell]; simp [World.frozen?, g1]
  have n4 : ((w2.setCell ⟨w.heap.size + 1 + 1, 3, none⟩ (.slice o4 l4 c4)).setCell ⟨w.heap.size + 1 + 1, 4, none⟩ (.string sb)).cell? ⟨w.heap.size + 1, 4, none⟩ = some (.string ⟨#[]⟩) := cell_of _ _ _ _ _ g1'
  have nf4 : ((w2.setCell ⟨w.heap.size + 1 + 1, 3, none⟩ (.slice o4 l4 c4)).setCell ⟨w.heap.size + 1 + 1, 4, none⟩ (.string sb)).frozen? ⟨w.heap.size + 1, 4, none⟩ = false := by rw [World.frozen?_setCell, World.frozen?_setCell]; simp [World.frozen?, g1]
  go_wp2_with fail
  have h4 := (set_heap _ (w.heap.size + 1) 4 _ _ _ (.string sb) (set_heap _ (w.heap.size + 1) 3 _ _ _ (.slice o4 l4 c4) (set_heap _ (w.heap.size + 1) 2 _ _ _ (.slice o3 l3 c3) (set_heap _ (w.heap.size + 1) 1 _ _ _ (.int .i64 nx) (set_heap _ (w.heap.size + 1) 0 _ _ _ (.string nm) g1')))))
  have m4 := (((((((OwnL.set hm3 ⟨w.heap.size + 1 + 1, 3, none⟩ (.slice o4 l4 c4) (by show w.heap.size + 1 + 1 < WA.heap.size; omega)).set ⟨w.heap.size + 1 + 1, 4, none⟩ (.string sb) (by show w.heap.size + 1 + 1 < WA.heap.size; omega)).set ⟨w.heap.size + 1, 0, none⟩ (.string nm) (by show w.heap.size + 1 < WA.heap.size; omega)).set ⟨w.heap.size + 1, 1, none⟩ (.int .i64 nx) (by show w.heap.size + 1 < WA.heap.size; omega)).set ⟨w.heap.size + 1, 2, none⟩ (.slice o3 l3 c3) (by show w.heap.size + 1 < WA.heap.size; omega)).set ⟨w.heap.size + 1, 3, none⟩ (.slice o4 l4 c4) (by show w.heap.size + 1 < WA.heap.size; omega)).set ⟨w.heap.size + 1, 4, none⟩ (.string sb) (by show w.heap.size + 1 < WA.heap.size; omega))
  have k4 := (((((((OwnL.set hk2 ⟨w.heap.size + 1 + 1, 3, none⟩ (.slice o4 l4 c4) (by show w.heap.size + 1 + 1 < WB.heap.size; omega)).set ⟨w.heap.size + 1 + 1, 4, none⟩ (.string sb) (by show w.heap.size + 1 + 1 < WB.heap.size; omega)).set ⟨w.heap.size + 1, 0, none⟩ (.string nm) (by show w.heap.size + 1 < WB.heap.size; omega)).set ⟨w.heap.size + 1, 1, none⟩ (.int .i64 nx) (by show w.heap.size + 1 < WB.heap.size; omega)).set ⟨w.heap.size + 1, 2, none⟩ (.slice o3 l3 c3) (by show w.heap.size + 1 < WB.heap.size; omega)).set ⟨w.heap.size + 1, 3, none⟩ (.slice o4 l4 c4) (by show w.heap.size + 1 < WB.heap.size; omega)).set ⟨w.heap.size + 1, 4, none⟩ (.string sb) (by show w.heap.size + 1 < WB.heap.size; omega))
  have d4 := (((((((cC.setCell (p := ⟨w.heap.size + 1 + 1, 3, none⟩) (by show w.heap.size ≤ w.heap.size + 1 + 1; omega) (.slice o4 l4 c4)).setCell (p := ⟨w.heap.size + 1 + 1, 4, none⟩) (by show w.heap.size ≤ w.heap.size + 1 + 1; omega) (.string sb)).setCell (p := ⟨w.heap.size + 1, 0, none⟩) (by show w.heap.size ≤ w.heap.size + 1; omega) (.string nm)).setCell (p := ⟨w.heap.size + 1, 1, none⟩) (by show w.heap.size ≤ w.heap.size + 1; omega) (.int .i64 nx)).setCell (p := ⟨w.heap.size + 1, 2, none⟩) (by show w.heap.size ≤ w.heap.size + 1; omega) (.slice o3 l3 c3)).setCell (p := ⟨w.heap.size + 1, 3, none⟩) (by show w.heap.size ≤ w.heap.size + 1; omega) (.slice o4 l4 c4)).setCell (p := ⟨w.heap.size + 1, 4, none⟩) (by show w.heap.size ≤ w.heap.size + 1; omega) (.string sb))
  obtain ⟨W4, hW4⟩ : ∃ W4, W4 = (((((((w2.setCell ⟨w.heap.size + 1 + 1, 3, none⟩ (.slice o4 l4 c4)).setCell ⟨w.heap.size + 1 + 1, 4, none⟩ (.string sb)).setCell ⟨w.heap.size + 1, 0, none⟩ (.string nm)).setCell ⟨w.heap.size + 1, 1, none⟩ (.int .i64 nx)).setCell ⟨w.heap.size + 1, 2, none⟩ (.slice o3 l3 c3)).setCell ⟨w.heap.size + 1, 3, none⟩ (.slice o4 l4 c4)).setCell ⟨w.heap.size + 1, 4, none⟩ (.string sb)) := ⟨_, rfl⟩
  rw [← hW4] at h4 m4 k4 d4 ⊢
  clear hW4
  have u0 : W4.cell? ⟨w.heap.size + 1, 0, none⟩ = some (.string nm) := cell_of _ _ _ _ _ h4
  have u1 : W4.cell? ⟨w.heap.size + 1, 1, none⟩ = some (.int .i64 nx) := cell_of _ _ _ _ _ h4
  have u2 : W4.cell? ⟨w.heap.size + 1, 2, none⟩ = some (.slice o3 l3 c3) := cell_of _ _ _ _ _ h4
  have u3 : W4.cell? ⟨w.heap.size + 1, 3, none⟩ = some (.slice o4 l4 c4) := cell_of _ _ _ _ _ h4
  have u4 : W4.cell? ⟨w.heap.size + 1, 4, none⟩ = some (.string sb) := cell_of _ _ _ _ _ h4
  exact bodyPost_ret (v := roomV nm nx (.slice o3 l3 c3) (.slice o4 l4 c4) sb) (by simp [results, Tryz.results7, go_sem, u0, u1, u2, u3, u4]) rfl ⟨⟨_, rfl, _, _, rfl, OwnL.mono m4 (by omega), OwnL.mono k4 (by omega), fun q h1 h2 => by have g1 := (ML q h1).2; have g2 := (KL q h2).1; omega⟩, d4⟩
end Go.Proofs.YtgjlgddglgffmaaGreatDoor.Hub
