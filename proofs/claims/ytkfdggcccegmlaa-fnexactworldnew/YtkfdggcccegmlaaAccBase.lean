/-
  A list of accounts as it lies in memory; the law's own szAccountS, toAccountS, eqAccountS.
-/
import Derived.Test.YtkfdggcccegmlaaLineBase
import Derived.Deep.RegionHeld3
namespace Go.Proofs.Ytkfdggcccegmlaa.Hub
open Go.RowKit
set_option linter.unusedVariables false

/-- A slice of so many accounts, each in two cells, lies there. -/
def AccAt (W : World) (v : Value) (n : Nat) (U N : Nat → ByteArray) : Prop :=
  ∃ (o : Option Addr) (cap : Nat), v = .slice o n cap ∧ n ≤ cap ∧ cap ≤ maxLen ∧ ∀ j, j < n → ∃ b f : Nat, o = some ⟨b, f, none⟩ ∧ b < W.heap.size ∧ W.cell? ⟨b, f + j * 2, none⟩ = some (.string (U j)) ∧ W.cell? ⟨b, f + j * 2 + 1, none⟩ = some (.string (N j))
theorem AccAt.below {W W' : World} {v : Value} {n : Nat} {U : Nat → ByteArray} {N : Nat → ByteArray} (h : AccAt W v n U N) (b : Below W.heap.size W W') : AccAt W' v n U N := by
  obtain ⟨o, cap, hv, h1, h2, hc⟩ := h
  refine ⟨o, cap, hv, h1, h2, fun j hj => ?_⟩
  obtain ⟨B, f, ho, hB, c0, c1⟩ := hc j hj
  exact ⟨B, f, ho, Nat.lt_of_lt_of_le hB b.size, (b.cell (p := ⟨B, f + j * 2, none⟩) hB).trans c0, (b.cell (p := ⟨B, f + j * 2 + 1, none⟩) hB).trans c1⟩

theorem put2 (C : Array Value) (o : Nat) (a b : Value) (h : o + 1 < C.size) (j : Nat) : ((C.setIfInBounds o a).setIfInBounds (o + 1) b)[j]? = if j = o then some a else if j = o + 1 then some b else C[j]? := by
  rw [at_set _ _ _ _ (by simp; omega), at_set _ _ _ _ (by omega)]
  by_cases h0 : j = o
  · subst h0; simp
  · by_cases h1 : j = o + 1
    · subst h1; simp
    · rw [if_neg (by omega), if_neg (by omega), if_neg h0, if_neg h1]

/-- Cells of accounts. -/
def accVs (U N : Nat → ByteArray) (n : Nat) : List Value := (List.range n).flatMap fun j => [.string (U j), .string (N j)]
theorem accVs_succ (U N : Nat → ByteArray) (n : Nat) : accVs U N (n + 1) = accVs U N n ++ [.string (U n), .string (N n)] := by simp [accVs, List.range_succ]
theorem accVs_len (U N : Nat → ByteArray) : ∀ n, (accVs U N n).length = n * 2
  | 0 => rfl
  | n + 1 => by rw [accVs_succ, List.length_append, accVs_len U N n]; simp; omega
theorem accVs_at (U N : Nat → ByteArray) : ∀ (n j : Nat), j < n → (accVs U N n)[j * 2]? = some (.string (U j)) ∧ (accVs U N n)[j * 2 + 1]? = some (.string (N j))
  | 0, j, h => absurd h (by omega)
  | n + 1, j, h => by
    rw [accVs_succ]
    by_cases hj : j < n
    · have := accVs_at U N n j hj
      rw [List.getElem?_append_left (by rw [accVs_len]; omega), List.getElem?_append_left (by rw [accVs_len]; omega)]
      exact this
    · obtain rfl : j = n := by omega
      rw [List.getElem?_append_right (by rw [accVs_len]; omega), List.getElem?_append_right (by rw [accVs_len]; omega), accVs_len]
      have e : j * 2 + 1 - j * 2 = 1 := by omega
      rw [Nat.sub_self, e]
      exact ⟨rfl, rfl⟩
/-- A new list of n accounts, in a block from base on. -/
def OwnA (W : World) (base : Nat) (v : Value) (n : Nat) (U N : Nat → ByteArray) : Prop := W.ownsRow base 43 2 v n (accVs U N n)
theorem OwnA.at {W : World} {base : Nat} {v : Value} {n : Nat} {U N : Nat → ByteArray} (h : OwnA W base v n U N) : AccAt W v n U N := by
  have hh := h
  rcases h.2 with ⟨rfl, rfl⟩ | ⟨g, cap, cur, rfl, hb, hg, hc, hM, hs, htk⟩
  · exact ⟨none, 0, rfl, Nat.le_refl _, Nat.zero_le _, fun j hj => absurd hj (by omega)⟩
  · refine ⟨some ⟨g, 0, none⟩, cap, rfl, hc, hM, fun j hj => ⟨g, 0, rfl, (Array.getElem?_eq_some_iff.1 hg).1, ?_, ?_⟩⟩
    · rw [Nat.zero_add, World.ownsRow.cellAt (w := W) (base := base) (e := 43) (size := 2) (cap := cap) (n := n) hh (j * 2) (by omega)]
      exact (accVs_at U N n j hj).1
    · rw [Nat.zero_add, World.ownsRow.cellAt (w := W) (base := base) (e := 43) (size := 2) (cap := cap) (n := n) hh (j * 2 + 1) (by omega)]
      exact (accVs_at U N n j hj).2
theorem own_cells {W : World} {base g n : Nat} {C : Array Value} {U N : Nat → ByteArray} (hb : base ≤ g) (hg : W.heap[g]? = some (.cells C 43 (0, 0))) (hC : C.size = n * 2) (hn : n ≤ maxLen) (hA : ∀ j, j < n → C[j * 2]? = some (.string (U j)) ∧ C[j * 2 + 1]? = some (.string (N j))) : OwnA W base (.slice (some ⟨g, 0, none⟩) n n) n U N := by
  refine ⟨accVs_len U N n, .inr ⟨g, n, C, rfl, hb, hg, Nat.le_refl _, hn, hC, ?_⟩⟩
  rw [List.take_of_length_le (by rw [Array.length_toList]; omega)]
  apply List.ext_getElem?
  intro i
  by_cases hi : i < n * 2
  · rw [Array.getElem?_toList]
    by_cases hp : i % 2 = 0
    · have e : i = (i / 2) * 2 := by omega
      rw [e, (hA (i / 2) (by omega)).1, (accVs_at U N n (i / 2) (by omega)).1]
    · have e : i = (i / 2) * 2 + 1 := by omega
      rw [e, (hA (i / 2) (by omega)).2, (accVs_at U N n (i / 2) (by omega)).2]
  · rw [List.getElem?_eq_none (by rw [Array.length_toList]; omega), List.getElem?_eq_none (by rw [accVs_len]; omega)]

set_option maxRecDepth 100000 in
set_option maxHeartbeats 2000000 in
theorem szAccount_any (u k : ByteArray) (left : Int) (w : World) (h0 : 0 ≤ left) (h1 : left ≤ 1048576) (hu : u.size ≤ 9223372036854775807) (hk : k.size ≤ 9223372036854775807) :
    Calls Try.prog 13 #[.agg #[.string u, .string k], .int .i64 left] w fun e w' => (∃ z : Int, e = .returned (.int .i64 z) ∧ (z < 0 ∨ (0 ≤ z ∧ z ≤ left ∧ (u.size : Int) ≤ left ∧ (k.size : Int) ≤ left))) ∧ Below w.heap.size w w' := by
  have b0 := below_alloc w (.cells #[.string u, .string k] 41)
  have e1 : IntKind.i64.wrap (left - (u.size : Int)) = left - (u.size : Int) := by rw [IntKind.wrap_i64]; omega
  by_cases g1 : left - (u.size : Int) < 0
  · go_enter Try.func13, Try.ntmps13
    go_wp2
    go_ret
    exact ⟨⟨-1, rfl, .inl (by omega)⟩, b0⟩
  · have e2 : IntKind.i64.wrap (left - (u.size : Int) - (k.size : Int)) = left - (u.size : Int) - (k.size : Int) := by rw [IntKind.wrap_i64]; omega
    by_cases g2 : left - (u.size : Int) - (k.size : Int) < 0
    · go_enter Try.func13, Try.ntmps13
      go_wp2
      go_ret
      exact ⟨⟨-1, rfl, .inl (by omega)⟩, b0⟩
    · go_enter Try.func13, Try.ntmps13
      go_wp2
      go_ret
      exact ⟨⟨_, rfl, .inr ⟨by omega, by omega, by omega, by omega⟩⟩, b0⟩


set_option maxRecDepth 100000 in
set_option maxHeartbeats 2000000 in
theorem szAccountS_any (v : Value) (n : Nat) (U N : Nat → ByteArray) (left : Int) (w : World) (h0 : 0 ≤ left) (h1 : left ≤ 1048576) (hm : AccAt w v n U N) (hs : ∀ j, j < n → (U j).size ≤ 9223372036854775807 ∧ (N j).size ≤ 9223372036854775807) :
    Calls Try.prog 4 #[v, .int .i64 left] w fun e w' => (∃ z : Int, e = .returned (.int .i64 z) ∧ (z < 0 ∨ (0 ≤ z ∧ z ≤ left ∧ (n : Int) ≤ left ∧ ∀ j, j < n → ((U j).size : Int) ≤ left ∧ ((N j).size : Int) ≤ left))) ∧ Below w.heap.size w w' := by
  obtain ⟨o, cap, rfl, g1, g2', hc⟩ := hm
  have g2 : cap ≤ 9223372036854775807 := g2'
  clear g2'
  have HC : Hid (∀ j, j < n → ∃ b f : Nat, o = some ⟨b, f, none⟩ ∧ b < w.heap.size ∧ w.cell? ⟨b, f + j * 2, none⟩ = some (.string (U j)) ∧ w.cell? ⟨b, f + j * 2 + 1, none⟩ = some (.string (N j))) := hc
  have HS : Hid (∀ j, j < n → (U j).size ≤ 9223372036854775807 ∧ (N j).size ≤ 9223372036854775807) := hs
  clear hc hs
  have e1 : IntKind.i64.wrap (left - (n : Int)) = left - (n : Int) := by rw [IntKind.wrap_i64]; omega
  by_cases gn : left - (n : Int) < 0
  · go_enter Try.func4, Try.ntmps4
    go_wp2_with fail
    go_ret
    exact ⟨⟨-1, rfl, .inl (by omega)⟩, Below.refl _ _⟩
  · go_enter Try.func4, Try.ntmps4
    go_wp2_with fail
    go_loopw [1, 5] (fun l i wr => ∃ (k : Nat) (z : Int), k ≤ n ∧ i = .int .i64 k ∧ l = .int .i64 z ∧ 0 ≤ z ∧ z ≤ left ∧ Below w.heap.size w wr ∧ Hid (∀ j, j < k → ((U j).size : Int) ≤ left ∧ ((N j).size : Int) ≤ left)) (fun _ i _ => n - (intOf i).toNat)
    case atStart => exact ⟨0, _, Nat.zero_le _, rfl, rfl, by omega, by omega, Below.refl _ _, fun j hj => absurd hj (by omega)⟩
    case round =>
      obtain ⟨k, z, hk, rfl, rfl, hz0, hz1, bw, HA⟩ := hrel
      by_cases hlt : k < n
      · obtain ⟨b, f, ho, hb, c0, c1⟩ := HC.out k hlt
        subst ho
        have i1 : (0 : Int) ≤ (k : Int) := by omega
        have i2 : (k : Int) < (n : Int) := by omega
        have hsk := HS.out k hlt
        have d0 := (bw.cell (p := ⟨b, f + k * 2, none⟩) hb).trans c0
        have d1 := (bw.cell (p := ⟨b, f + k * 2 + 1, none⟩) hb).trans c1
        go_wp2_with fail
        refine (szAccount_any (U k) (N k) z wr hz0 (by omega) hsk.1 hsk.2).mono ?_
        rintro e w1 ⟨⟨z2, rfl, hz2⟩, b1⟩
        have bw1 := bw.trans (b1.mono bw.size)
        rcases hz2 with hz2 | ⟨hz2, hz3, hz4⟩
        · go_wp2_with fail
          go_ret
          exact ⟨⟨-1, rfl, .inl (by omega)⟩, bw1⟩
        · have HB : Hid (∀ j, j < k + 1 → ((U j).size : Int) ≤ left ∧ ((N j).size : Int) ≤ left) := fun j hj => by
            by_cases hjk : j = k
            · subst hjk; exact ⟨by omega, by omega⟩
            · exact HA.out j (by omega)
          have hz2n : ¬ z2 < 0 := by omega
          go_wp2_with fail
          clear HA hsk hz4 c0 c1 d0 d1 i1 i2 hz2n
          go_round
          case rel => exact ⟨k + 1, z2, by omega, by go_num, rfl, hz2, by omega, bw1, HB⟩
          case measure => simp [intOf]; omega
      · obtain rfl : k = n := by omega
        go_wp2_with fail
        go_ret
        exact ⟨⟨z, rfl, .inr ⟨hz0, hz1, by omega, HA.out⟩⟩, bw⟩


set_option maxHeartbeats 1000000 in
theorem toAccount_any (u k : ByteArray) (w : World) :
    Calls Try.prog 16 #[.agg #[.string u, .string k]] w fun e w' => e = .returned (.agg #[.string u, .string k]) ∧ Below w.heap.size w w' := by
  go_enter Try.func16, Try.ntmps16
  go_wp2
  exact bodyPost_ret (v := .agg #[.string u, .string k]) (by simp [results, Try.results16, go_sem]) rfl ⟨rfl, (((Below.refl _ w).alloc (Nat.le_refl _) _).alloc (by simp) _).alloc (by simp; omega) _⟩


set_option maxRecDepth 100000 in
set_option maxHeartbeats 2000000 in
theorem toAccountS_any (v : Value) (n : Nat) (U : Nat → ByteArray) (N : Nat → ByteArray) (w : World) (hm : AccAt w v n U N) (hn : n ≤ 1048576) :
    Calls Try.prog 6 #[v] w fun e w' => (∃ v', e = .returned v' ∧ OwnA w' w.heap.size v' n U N) ∧ Below w.heap.size w w' := by
  obtain ⟨o, cap, rfl, g1, g2', hc⟩ := hm
  have g2 : cap ≤ 9223372036854775807 := g2'
  clear g2'
  have HC : Hid (∀ j, j < n → ∃ b f : Nat, o = some ⟨b, f, none⟩ ∧ b < w.heap.size ∧ w.cell? ⟨b, f + j * 2, none⟩ = some (.string (U j)) ∧ w.cell? ⟨b, f + j * 2 + 1, none⟩ = some (.string (N j))) := hc
  clear hc
  have hmk := make_many 24 43 (.agg #[.string ⟨#[]⟩, .string ⟨#[]⟩]) 2 32 Try.underlying24 (by kernel_rfl) n (by omega) (by omega)
  go_enter Try.func6, Try.ntmps6
  go_wp2_with fail
  go_loopw [4] (fun i wr => ∃ (k : Nat) (C : Array Value), k ≤ n ∧ i = .int .i64 k ∧ Below w.heap.size w wr ∧ wr.heap[w.heap.size]? = some (.cells C 43 (0, 0)) ∧ C.size = n * 2 ∧ Hid (∀ j, j < k → C[j * 2]? = some (.string (U j)) ∧ C[j * 2 + 1]? = some (.string (N j)))) (fun i _ => n - (intOf i).toNat)
  case atStart => exact ⟨0, _, Nat.zero_le _, rfl, below_alloc w _, World.alloc_heap_new w _, by rw [size_madeCells], fun j hj => absurd hj (by omega)⟩
  case round =>
    obtain ⟨k, C, hk, rfl, bw, hg, hC, HA⟩ := hrel
    by_cases hlt : k < n
    · obtain ⟨b, f, ho, hb, c0, c1⟩ := HC.out k hlt
      subst ho
      have i1 : (0 : Int) ≤ (k : Int) := by omega
      have i2 : (k : Int) < (n : Int) := by omega
      have d0 := (bw.cell (p := ⟨b, f + k * 2, none⟩) hb).trans c0
      have d1 := (bw.cell (p := ⟨b, f + k * 2 + 1, none⟩) hb).trans c1
      go_wp2_with fail
      refine (toAccount_any (U k) (N k) wr).mono ?_
      rintro e w1 ⟨rfl, b1⟩
      have hlg : w.heap.size < wr.heap.size := (Array.getElem?_eq_some_iff.1 hg).1
      have hg1 := (b1.block w.heap.size hlg).trans hg
      have bw1 := bw.trans (b1.mono bw.size)
      have e0 : w1.cell? ⟨w.heap.size, k * 2, none⟩ = some (C[k * 2]'(by omega)) := (cell_of w1 _ _ C _ hg1).trans (Array.getElem?_eq_getElem (by omega))
      have e1 : w1.cell? ⟨w.heap.size, k * 2 + 1, none⟩ = some (C[k * 2 + 1]'(by omega)) := (cell_of w1 _ _ C _ hg1).trans (Array.getElem?_eq_getElem (by omega))
      have f0 : w1.frozen? ⟨w.heap.size, k * 2, none⟩ = false := by simp [World.frozen?, hg1]
      have f1 : w1.frozen? ⟨w.heap.size, k * 2 + 1, none⟩ = false := by simp [World.frozen?, hg1]
      go_wp2_with fail
      have k1 := set_heap _ w.heap.size (k * 2 + 1) _ _ _ (.string (N k)) (set_heap w1 w.heap.size (k * 2) C _ _ (.string (U k)) hg1)
      go_round
      case rel =>
        refine ⟨k + 1, _, by omega, by go_num, (bw1.setCell (Nat.le_refl _) _).setCell (Nat.le_refl _) _, k1, by simp [hC], fun j hj => ?_⟩
        rw [put2 C (k * 2) _ _ (by omega), put2 C (k * 2) _ _ (by omega)]
        by_cases hjk : j = k
        · subst hjk
          rw [if_pos rfl, if_neg (by omega), if_pos rfl]
          exact ⟨rfl, rfl⟩
        · rw [if_neg (by omega), if_neg (by omega), if_neg (by omega), if_neg (by omega)]
          exact HA.out j (by omega)
      case measure => simp [intOf]; omega
    · obtain rfl : k = n := by omega
      have hlg : w.heap.size < wr.heap.size := (Array.getElem?_eq_some_iff.1 hg).1
      go_wp2_with fail
      go_ret
      exact ⟨⟨_, rfl, own_cells (Nat.le_refl _) hg hC (by show k ≤ 2 ^ 63 - 1; omega) HA.out⟩, bw⟩

set_option maxHeartbeats 1000000 in
theorem eqAccount_same (u k : ByteArray) (w : World) :
    Calls Try.prog 21 #[.agg #[.string u, .string k], .agg #[.string u, .string k]] w fun e w' => e = .returned (.bool true) ∧ Below w.heap.size w w' := by
  go_enter Try.func21, Try.ntmps21
  go_wp2
  go_ret
  exact ⟨rfl, ((Below.refl _ w).alloc (Nat.le_refl _) _).alloc (by simp) _⟩


set_option maxRecDepth 100000 in
set_option maxHeartbeats 2000000 in
theorem eqAccountS_same (v1 v2 : Value) (n : Nat) (U : Nat → ByteArray) (N : Nat → ByteArray) (w : World) (hm1 : AccAt w v1 n U N) (hm2 : AccAt w v2 n U N) :
    Calls Try.prog 9 #[v1, v2] w fun e w' => e = .returned (.bool true) ∧ Below w.heap.size w w' := by
  obtain ⟨o1, cap1, rfl, g1, g1', hc1⟩ := hm1
  obtain ⟨o2, cap2, rfl, g2, g2', hc2⟩ := hm2
  have s1 : cap1 ≤ 9223372036854775807 := g1'
  have s2 : cap2 ≤ 9223372036854775807 := g2'
  clear g1' g2'
  have HC1 : Hid (∀ j, j < n → ∃ b f : Nat, o1 = some ⟨b, f, none⟩ ∧ b < w.heap.size ∧ w.cell? ⟨b, f + j * 2, none⟩ = some (.string (U j)) ∧ w.cell? ⟨b, f + j * 2 + 1, none⟩ = some (.string (N j))) := hc1
  have HC2 : Hid (∀ j, j < n → ∃ b f : Nat, o2 = some ⟨b, f, none⟩ ∧ b < w.heap.size ∧ w.cell? ⟨b, f + j * 2, none⟩ = some (.string (U j)) ∧ w.cell? ⟨b, f + j * 2 + 1, none⟩ = some (.string (N j))) := hc2
  clear hc1 hc2
  go_enter Try.func9, Try.ntmps9
  go_wp2_with fail
  go_loopw [5] (fun i wr => ∃ k : Nat, k ≤ n ∧ i = .int .i64 k ∧ Below w.heap.size w wr) (fun i _ => n - (intOf i).toNat)
  case atStart => exact ⟨0, Nat.zero_le _, rfl, Below.refl _ _⟩
  case round =>
    obtain ⟨k, hk, rfl, bw⟩ := hrel
    by_cases hlt : k < n
    · obtain ⟨b, f, ho, hb, c0, c1⟩ := HC1.out k hlt
      obtain ⟨b2, f2, ho2, hb2, e0, e1⟩ := HC2.out k hlt
      subst ho ho2
      have i1 : (0 : Int) ≤ (k : Int) := by omega
      have i2 : (k : Int) < (n : Int) := by omega
      have NEW : Hid (∀ W : World, Below w.heap.size w W → W.cell? ⟨b, f + k * 2, none⟩ = some (.string (U k)) ∧ W.cell? ⟨b, f + k * 2 + 1, none⟩ = some (.string (N k)) ∧ W.cell? ⟨b2, f2 + k * 2, none⟩ = some (.string (U k)) ∧ W.cell? ⟨b2, f2 + k * 2 + 1, none⟩ = some (.string (N k))) := fun W bb => ⟨(bb.cell (p := ⟨b, f + k * 2, none⟩) hb).trans c0, (bb.cell (p := ⟨b, f + k * 2 + 1, none⟩) hb).trans c1, (bb.cell (p := ⟨b2, f2 + k * 2, none⟩) hb2).trans e0, (bb.cell (p := ⟨b2, f2 + k * 2 + 1, none⟩) hb2).trans e1⟩
      clear c0 c1 e0 e1
      go_wp2_with fail
      refine wp_region_held_drew (S := fun W => W.cell? ⟨b, f + k * 2, none⟩ = some (.string (U k)) ∧ W.cell? ⟨b, f + k * 2 + 1, none⟩ = some (.string (N k)) ∧ W.cell? ⟨b2, f2 + k * 2, none⟩ = some (.string (U k)) ∧ W.cell? ⟨b2, f2 + k * 2 + 1, none⟩ = some (.string (N k))) (by kernel_rfl) ?_ (fun hHeld => ?_)
      · exact NEW.out _ bw.drew
      refine wpAnyH_take (i := 0) (v := ?_) rfl (by kernel_rfl) (by kernel_rfl) (by kernel_rfl) (fun _ _ _ h => h) (Or.inl ⟨by rfl, ?takeYqeqAccountS0⟩) (by assumption) ?takeRqeqAccountS0
      case takeYqeqAccountS0 => (intro w hSw; (try dsimp only at hSw); go_simp; try (with_reducible rfl))
      simp only [Act.put, List.setIfInBounds_toArray, List.set_cons_zero, List.set_cons_succ, List.getElem_toArray, List.getElem_cons_zero]
      refine wpAnyH_take (i := 1) (v := ?_) rfl (by kernel_rfl) (by kernel_rfl) (by kernel_rfl) (fun _ _ _ h => h) (Or.inl ⟨by rfl, ?takeYqeqAccountS1⟩) (by assumption) ?takeRqeqAccountS1
      case takeYqeqAccountS1 => (intro w hSw; (try dsimp only at hSw); go_simp; try (with_reducible rfl))
      simp only [Act.put, List.setIfInBounds_toArray, List.set_cons_zero, List.set_cons_succ, List.getElem_toArray, List.getElem_cons_zero, List.getElem_cons_succ]
      refine wpAnyH_take (i := 2) (v := ?_) rfl (by kernel_rfl) (by kernel_rfl) (by kernel_rfl) (fun _ _ _ h => h) (Or.inl ⟨by rfl, ?takeYqeqAccountS2⟩) (by assumption) ?takeRqeqAccountS2
      case takeYqeqAccountS2 => (intro w hSw; (try dsimp only at hSw); go_simp; try (with_reducible rfl))
      simp only [Act.put, List.setIfInBounds_toArray, List.set_cons_zero, List.set_cons_succ, List.getElem_toArray, List.getElem_cons_zero, List.getElem_cons_succ]
      refine wpAnyH_take (i := 3) (v := ?_) rfl (by kernel_rfl) (by kernel_rfl) (by kernel_rfl) (fun _ _ _ h => h) (Or.inl ⟨by rfl, ?takeYqeqAccountS3⟩) (by assumption) ?takeRqeqAccountS3
      case takeYqeqAccountS3 => (intro w hSw; (try dsimp only at hSw); go_simp; try (with_reducible rfl))
      simp only [Act.put, List.setIfInBounds_toArray, List.set_cons_zero, List.set_cons_succ, List.getElem_toArray, List.getElem_cons_zero, List.getElem_cons_succ]
      refine wpAnyH_take (i := 4) (v := ?_) rfl (by kernel_rfl) (by kernel_rfl) (by kernel_rfl) (fun _ _ _ h => h) (Or.inl ⟨by rfl, ?takeYqeqAccountS4⟩) (by assumption) ?takeRqeqAccountS4
      case takeYqeqAccountS4 => (intro w hSw; (try dsimp only at hSw); go_simp; try (with_reducible rfl))
      simp only [Act.put, List.setIfInBounds_toArray, List.set_cons_zero, List.set_cons_succ, List.getElem_toArray, List.getElem_cons_zero, List.getElem_cons_succ]
      refine wpAnyH_take (i := 5) (v := ?_) rfl (by kernel_rfl) (by kernel_rfl) (by kernel_rfl) (fun _ _ _ h => h) (Or.inl ⟨by rfl, ?takeYqeqAccountS5⟩) (by assumption) ?takeRqeqAccountS5
      case takeYqeqAccountS5 => (intro w hSw; (try dsimp only at hSw); go_simp; try (with_reducible rfl))
      simp only [Act.put, List.setIfInBounds_toArray, List.set_cons_zero, List.set_cons_succ, List.getElem_toArray, List.getElem_cons_zero, List.getElem_cons_succ]
      refine wpAnyH_take (i := 6) (v := ?_) rfl (by kernel_rfl) (by kernel_rfl) (by kernel_rfl) (fun _ _ _ h => h) (Or.inl ⟨by rfl, ?takeYqeqAccountS6⟩) (by assumption) ?takeRqeqAccountS6
      case takeYqeqAccountS6 => (intro w hSw; (try dsimp only at hSw); go_simp; try (with_reducible rfl))
      simp only [Act.put, List.setIfInBounds_toArray, List.set_cons_zero, List.set_cons_succ, List.getElem_toArray, List.getElem_cons_zero, List.getElem_cons_succ]
      refine wpAnyH_take (i := 7) (v := ?_) rfl (by kernel_rfl) (by kernel_rfl) (by kernel_rfl) (fun _ _ _ h => h) (Or.inl ⟨by rfl, ?takeYqeqAccountS7⟩) (by assumption) ?takeRqeqAccountS7
      case takeYqeqAccountS7 => (intro w hSw; (try dsimp only at hSw); go_simp; try (with_reducible rfl))
      simp only [Act.put, List.setIfInBounds_toArray, List.set_cons_zero, List.set_cons_succ, List.getElem_toArray, List.getElem_cons_zero, List.getElem_cons_succ]
      refine wpAnyH_ready (rs := [8]) (by kernel_rfl) (by simp) ?_
      refine AllReadyH.cons rfl (fun K hK => ?_) AllReadyH.nil
      go_simp
      refine (eqAccount_same (U k) (N k) _).mono ?_
      rintro e w1 ⟨rfl, b1⟩
      have bw1 : Below w.heap.size w w1 := bw.drew.trans (b1.mono bw.drew.size)
      go_wp2_with fail
      refine hK.out _ _ (NEW.out w1 bw1) (fun hHeldqeqAccountS8 => ?_)
      clear hK K
      try simp only [Act.put, List.setIfInBounds_toArray, List.set_cons_zero, List.set_cons_succ, List.getElem_toArray, List.getElem_cons_zero, List.getElem_cons_succ]
      refine wpAnyH_take (i := 9) (v := ?_) rfl (by kernel_rfl) (by kernel_rfl) (by kernel_rfl) (fun _ _ _ h => h) (Or.inl ⟨by rfl, ?takeYqeqAccountS9⟩) (by assumption) ?takeRqeqAccountS9
      case takeYqeqAccountS9 => (intro w hSw; (try dsimp only at hSw); go_simp; try (with_reducible rfl))
      simp only [Act.put, List.setIfInBounds_toArray, List.set_cons_zero, List.set_cons_succ, List.getElem_toArray, List.getElem_cons_zero, List.getElem_cons_succ]
      refine wpAnyH_done (by kernel_rfl) ?_ _
      go_wp2_with fail
      go_round
      case rel => exact ⟨k + 1, by omega, by go_num, bw1⟩
      case measure => simp [intOf]; omega
    · obtain rfl : k = n := by omega
      go_wp2_with fail
      go_ret
      exact ⟨rfl, bw⟩

end Go.Proofs.Ytkfdggcccegmlaa.Hub
