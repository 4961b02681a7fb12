/-
  The model's l6Of, l6Nick, l6Rank, l6Owners at every room.
-/
import Derived.Test.YtglbjibilllopaaDoorRoomPlain
namespace Go.Proofs.YtglbjibilllopaaDoor.Hub
open Go.RowKit
set_option linter.unusedVariables false

theorem room_cell (w : World) (C : Array Value) (t : TypeId) (i : Nat) : (w.alloc (.cells C t)).cell? ⟨w.heap.size, i, none⟩ = C[i]? := cellLit w C t i
theorem below_alloc (w : World) (o : Obj) : Below w.heap.size w (w.alloc o) := (Below.refl _ w).alloc (Nat.le_refl _) _

set_option maxRecDepth 100000 in
set_option maxHeartbeats 2000000 in
theorem l6Of_any (nm sb u : ByteArray) (nx : Int) (vm vk : Value) (n : Nat) (U N : Nat → ByteArray) (R : Nat → Int) (w : World) (hm : MemAt w vm n U N R) :
    Calls Tryd.prog 68 #[roomV nm nx vm vk sb, .string u] w fun e w' => e = .returned (.int .i64 (firstI n fun j => (U j).toList == u.toList)) ∧ Below w.heap.size w w' := by
  obtain ⟨W0, hW0⟩ : ∃ W0, W0 = w.alloc (.cells #[.string nm, .int .i64 nx, vm, vk, .string sb] 31) := ⟨_, rfl⟩
  have b0 : Below w.heap.size w W0 := by rw [hW0]; exact below_alloc w _
  have q2 : W0.cell? ⟨w.heap.size, 2, none⟩ = some vm := by rw [hW0]; exact (room_cell w _ _ 2).trans rfl
  obtain ⟨o, cap, rfl, h1, h2', hc⟩ := hm.below b0
  have h2 : cap ≤ 9223372036854775807 := h2'
  clear h2' hm
  obtain ⟨F, hF⟩ : ∃ F, firstI n (fun j => (U j).toList == u.toList) = F := ⟨_, rfl⟩
  have HF : Hid (findFrom (fun j => (U j).toList == u.toList) (n - 0) 0 = F) := hF
  have HC : Hid (∀ j, j < n → ∃ b f : Nat, o = some ⟨b, f, none⟩ ∧ b < W0.heap.size ∧ W0.cell? ⟨b, f + j * 3, none⟩ = some (.string (U j)) ∧ W0.cell? ⟨b, f + j * 3 + 1, none⟩ = some (.string (N j)) ∧ W0.cell? ⟨b, f + j * 3 + 2, none⟩ = some (.int .i64 (R j))) := hc
  rw [hF]
  clear hF hc
  go_enter Tryd.func68, Tryd.ntmps68
  go_wp2_with fail
  rw [← hW0]
  clear hW0
  go_loop [5] (fun i => ∃ k : Nat, k ≤ n ∧ i = .int .i64 k ∧ Hid (findFrom (fun j => (U j).toList == u.toList) (n - k) k = F)) (fun i => n - (intOf i).toNat)
  case atStart => exact ⟨0, Nat.zero_le _, rfl, HF⟩
  case round =>
    obtain ⟨k, hk, rfl, HA⟩ := hrel
    by_cases hlt : k < n
    · obtain ⟨b, f, ho, hb, c0, c1, c2⟩ := HC.out k hlt
      subst ho
      have i1 : (0 : Int) ≤ (k : Int) := by omega
      have i2 : (k : Int) < (n : Int) := by omega
      cases he : ((U k).toList == u.toList)
      · have HB : Hid (findFrom (fun j => (U j).toList == u.toList) (n - (k + 1)) (k + 1) = F) := (find_miss (fun j => (U j).toList == u.toList) n k hlt he).symm.trans HA.out
        clear HA
        go_wp2_with fail
        clear he i1 i2 c0 c1 c2
        go_round
        case rel => exact ⟨k + 1, by omega, by go_num, HB⟩
        case measure => simp [intOf]; omega
      · have hFk : F = (k : Int) := HA.out.symm.trans (find_hit (fun j => (U j).toList == u.toList) n k hlt he)
        clear HA HF
        subst hFk
        go_wp2_with fail
        go_ret
        exact ⟨rfl, b0⟩
    · obtain rfl : k = n := by omega
      have hFk : F = -1 := HA.out.symm.trans (find_end _ k)
      clear HA HF
      subst hFk
      go_wp2_with fail
      go_ret
      exact ⟨rfl, b0⟩

set_option maxRecDepth 100000 in
set_option maxHeartbeats 2000000 in
theorem l6Nick_any (nm sb u : ByteArray) (nx : Int) (vm vk : Value) (n : Nat) (U N : Nat → ByteArray) (R : Nat → Int) (w : World) (hm : MemAt w vm n U N R) :
    Calls Tryd.prog 69 #[roomV nm nx vm vk sb, .string u] w fun e w' => e = .returned (.int .i64 (firstI n fun j => (N j).toList == u.toList)) ∧ Below w.heap.size w w' := by
  obtain ⟨W0, hW0⟩ : ∃ W0, W0 = w.alloc (.cells #[.string nm, .int .i64 nx, vm, vk, .string sb] 31) := ⟨_, rfl⟩
  have b0 : Below w.heap.size w W0 := by rw [hW0]; exact below_alloc w _
  have q2 : W0.cell? ⟨w.heap.size, 2, none⟩ = some vm := by rw [hW0]; exact (room_cell w _ _ 2).trans rfl
  obtain ⟨o, cap, rfl, h1, h2', hc⟩ := hm.below b0
  have h2 : cap ≤ 9223372036854775807 := h2'
  clear h2' hm
  obtain ⟨F, hF⟩ : ∃ F, firstI n (fun j => (N j).toList == u.toList) = F := ⟨_, rfl⟩
  have HF : Hid (findFrom (fun j => (N j).toList == u.toList) (n - 0) 0 = F) := hF
  have HC : Hid (∀ j, j < n → ∃ b f : Nat, o = some ⟨b, f, none⟩ ∧ b < W0.heap.size ∧ W0.cell? ⟨b, f + j * 3, none⟩ = some (.string (U j)) ∧ W0.cell? ⟨b, f + j * 3 + 1, none⟩ = some (.string (N j)) ∧ W0.cell? ⟨b, f + j * 3 + 2, none⟩ = some (.int .i64 (R j))) := hc
  rw [hF]
  clear hF hc
  go_enter Tryd.func69, Tryd.ntmps69
  go_wp2_with fail
  rw [← hW0]
  clear hW0
  go_loop [5] (fun i => ∃ k : Nat, k ≤ n ∧ i = .int .i64 k ∧ Hid (findFrom (fun j => (N j).toList == u.toList) (n - k) k = F)) (fun i => n - (intOf i).toNat)
  case atStart => exact ⟨0, Nat.zero_le _, rfl, HF⟩
  case round =>
    obtain ⟨k, hk, rfl, HA⟩ := hrel
    by_cases hlt : k < n
    · obtain ⟨b, f, ho, hb, c0, c1, c2⟩ := HC.out k hlt
      subst ho
      have i1 : (0 : Int) ≤ (k : Int) := by omega
      have i2 : (k : Int) < (n : Int) := by omega
      cases he : ((N k).toList == u.toList)
      · have HB : Hid (findFrom (fun j => (N j).toList == u.toList) (n - (k + 1)) (k + 1) = F) := (find_miss (fun j => (N j).toList == u.toList) n k hlt he).symm.trans HA.out
        clear HA
        go_wp2_with fail
        clear he i1 i2 c0 c1 c2
        go_round
        case rel => exact ⟨k + 1, by omega, by go_num, HB⟩
        case measure => simp [intOf]; omega
      · have hFk : F = (k : Int) := HA.out.symm.trans (find_hit (fun j => (N j).toList == u.toList) n k hlt he)
        clear HA HF
        subst hFk
        go_wp2_with fail
        go_ret
        exact ⟨rfl, b0⟩
    · obtain rfl : k = n := by omega
      have hFk : F = -1 := HA.out.symm.trans (find_end _ k)
      clear HA HF
      subst hFk
      go_wp2_with fail
      go_ret
      exact ⟨rfl, b0⟩

set_option maxRecDepth 100000 in
set_option maxHeartbeats 2000000 in
theorem l6Rank_any (nm sb u : ByteArray) (nx : Int) (vm vk : Value) (n : Nat) (U : Nat → ByteArray) (R : Nat → Int) (w : World) (hm : RankAt w vk n U R) :
    Calls Tryd.prog 70 #[roomV nm nx vm vk sb, .string u] w fun e w' => e = .returned (.int .i64 (rankI n U R u)) ∧ Below w.heap.size w w' := by
  obtain ⟨W0, hW0⟩ : ∃ W0, W0 = w.alloc (.cells #[.string nm, .int .i64 nx, vm, vk, .string sb] 31) := ⟨_, rfl⟩
  have b0 : Below w.heap.size w W0 := by rw [hW0]; exact below_alloc w _
  have q3 : W0.cell? ⟨w.heap.size, 3, none⟩ = some vk := by rw [hW0]; exact (room_cell w _ _ 3).trans rfl
  obtain ⟨o, cap, rfl, h1, h2', hc⟩ := hm.below b0
  have h2 : cap ≤ 9223372036854775807 := h2'
  clear h2' hm
  have HC : Hid (∀ j, j < n → ∃ b f : Nat, o = some ⟨b, f, none⟩ ∧ b < W0.heap.size ∧ W0.cell? ⟨b, f + j * 2, none⟩ = some (.string (U j)) ∧ W0.cell? ⟨b, f + j * 2 + 1, none⟩ = some (.int .i64 (R j))) := hc
  clear hc
  obtain ⟨F, hF⟩ : ∃ F, rankI n U R u = F := ⟨_, rfl⟩
  have HF : Hid (rankFrom U R u (n - 0) 0 = F) := hF
  rw [hF]
  clear hF
  go_enter Tryd.func70, Tryd.ntmps70
  go_wp2_with fail
  rw [← hW0]
  clear hW0
  go_loop [5] (fun i => ∃ k : Nat, k ≤ n ∧ i = .int .i64 k ∧ Hid (rankFrom U R u (n - k) k = F)) (fun i => n - (intOf i).toNat)
  case atStart => exact ⟨0, Nat.zero_le _, rfl, HF⟩
  case round =>
    obtain ⟨k, hk, rfl, HA⟩ := hrel
    by_cases hlt : k < n
    · obtain ⟨b, f, ho, hb, c0, c1⟩ := HC.out k hlt
      subst ho
      have i1 : (0 : Int) ≤ (k : Int) := by omega
      have i2 : (k : Int) < (n : Int) := by omega
      cases he : ((U k).toList == u.toList)
      · have HB : Hid (rankFrom U R u (n - (k + 1)) (k + 1) = F) := (rank_miss U R u n k hlt he).symm.trans HA.out
        clear HA
        go_wp2_with fail
        clear he i1 i2 c0 c1
        go_round
        case rel => exact ⟨k + 1, by omega, by go_num, HB⟩
        case measure => simp [intOf]; omega
      · have hFk : F = R k := HA.out.symm.trans (rank_hit U R u n k hlt he)
        clear HA HF
        subst hFk
        go_wp2_with fail
        go_ret
        exact ⟨rfl, b0⟩
    · obtain rfl : k = n := by omega
      have hFk : F = 1 := HA.out.symm.trans (rank_end U R u k)
      clear HA HF
      subst hFk
      go_wp2_with fail
      go_ret
      exact ⟨rfl, b0⟩

set_option maxRecDepth 100000 in
set_option maxHeartbeats 2000000 in
theorem l6Owners_any (nm sb : ByteArray) (nx : Int) (vm vk : Value) (n : Nat) (U : Nat → ByteArray) (R : Nat → Int) (w : World) (hm : RankAt w vk n U R) :
    Calls Tryd.prog 40 #[roomV nm nx vm vk sb] w fun e w' => e = .returned (.int .i64 (ownersTo R n : Nat)) ∧ Below w.heap.size w w' := by
  obtain ⟨W0, hW0⟩ : ∃ W0, W0 = w.alloc (.cells #[.string nm, .int .i64 nx, vm, vk, .string sb] 31) := ⟨_, rfl⟩
  have b0 : Below w.heap.size w W0 := by rw [hW0]; exact below_alloc w _
  have q3 : W0.cell? ⟨w.heap.size, 3, none⟩ = some vk := by rw [hW0]; exact (room_cell w _ _ 3).trans rfl
  obtain ⟨o, cap, rfl, h1, h2', hc⟩ := hm.below b0
  have h2 : cap ≤ 9223372036854775807 := h2'
  clear h2' hm
  have HC : Hid (∀ j, j < n → ∃ b f : Nat, o = some ⟨b, f, none⟩ ∧ b < W0.heap.size ∧ W0.cell? ⟨b, f + j * 2, none⟩ = some (.string (U j)) ∧ W0.cell? ⟨b, f + j * 2 + 1, none⟩ = some (.int .i64 (R j))) := hc
  clear hc
  go_enter Tryd.func40, Tryd.ntmps40
  go_wp2_with fail
  rw [← hW0]
  clear hW0
  go_loop [3, 4] (fun z i => ∃ k c : Nat, k ≤ n ∧ i = .int .i64 k ∧ z = .int .i64 c ∧ c ≤ k ∧ Hid (c = ownersTo R k)) (fun _ i => n - (intOf i).toNat)
  case atStart => exact ⟨0, 0, Nat.zero_le _, rfl, rfl, Nat.le_refl _, (rfl : 0 = ownersTo R 0)⟩
  case round =>
    obtain ⟨k, c, hk, rfl, rfl, hck, HA⟩ := hrel
    by_cases hlt : k < n
    · obtain ⟨b, f, ho, hb, c0, c1⟩ := HC.out k hlt
      subst ho
      have i1 : (0 : Int) ≤ (k : Int) := by omega
      have i2 : (k : Int) < (n : Int) := by omega
      by_cases he : R k = 4
      · have HB : Hid (c + 1 = ownersTo R (k + 1)) := (by rw [ownersTo, if_pos he, HA.out] : c + 1 = ownersTo R (k + 1))
        clear HA
        go_wp2_with fail
        clear he i1 i2 c0 c1
        go_round
        case rel => exact ⟨k + 1, c + 1, by omega, by go_num, by go_num, by omega, HB⟩
        case measure => simp [intOf]; omega
      · have HB : Hid (c = ownersTo R (k + 1)) := (by rw [ownersTo, if_neg he, HA.out]; rfl : c = ownersTo R (k + 1))
        have hq : (R k == 4) = false := beq_eq_false_iff_ne.2 he
        clear HA
        go_wp2_with fail
        clear he hq i1 i2 c0 c1
        go_round
        case rel => exact ⟨k + 1, c, by omega, by go_num, rfl, by omega, HB⟩
        case measure => simp [intOf]; omega
    · obtain rfl : k = n := by omega
      have hck2 := HA.out
      clear HA
      go_wp2_with fail
      go_ret
      exact ⟨rfl, b0⟩
end Go.Proofs.YtglbjibilllopaaDoor.Hub
