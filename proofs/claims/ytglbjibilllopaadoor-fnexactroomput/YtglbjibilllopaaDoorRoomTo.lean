/-
  The law's own toMember, toRank, toMemberS, toRankS, toRoom: what they make is a room with the same members and ranks, in memory of its own.
-/
import Derived.Test.YtglbjibilllopaaDoorRoomSz
import Derived.Laws.MakeOwn
namespace Go.Proofs.YtglbjibilllopaaDoor.Hub
open Go.RowKit
set_option linter.unusedVariables false

set_option maxHeartbeats 1000000 in
theorem toMember_any (u k : ByteArray) (r : Int) (w : World) :
    Calls Tryd.prog 43 #[.agg #[.string u, .string k, .int .i64 r]] w fun e w' => e = .returned (.agg #[.string u, .string k, .int .i64 r]) ∧ Below w.heap.size w w' := by
  go_enter Tryd.func43, Tryd.ntmps43
  go_wp2
  exact bodyPost_ret (v := .agg #[.string u, .string k, .int .i64 r]) (by simp [results, Tryd.results43, go_sem]) rfl ⟨rfl, (((Below.refl _ w).alloc (Nat.le_refl _) _).alloc (by simp) _).alloc (by simp; omega) _⟩
set_option maxHeartbeats 1000000 in
theorem toRank_any (u : ByteArray) (r : Int) (w : World) :
    Calls Tryd.prog 44 #[.agg #[.string u, .int .i64 r]] w fun e w' => e = .returned (.agg #[.string u, .int .i64 r]) ∧ Below w.heap.size w w' := by
  go_enter Tryd.func44, Tryd.ntmps44
  go_wp2
  exact bodyPost_ret (v := .agg #[.string u, .int .i64 r]) (by simp [results, Tryd.results44, go_sem]) rfl ⟨rfl, (((Below.refl _ w).alloc (Nat.le_refl _) _).alloc (by simp) _).alloc (by simp; omega) _⟩

theorem setO (W : World) (p q : Addr) (x : Value) (h : p ≠ q) : (W.setCell p x).cell? q = W.cell? q := by
  rw [World.cell?_setCell_other]
  exact h
/-- A slice lies in a block from B on, or nowhere. -/
def FromB (B : Nat) (v : Value) : Prop := ∀ (a : Addr) (l c : Nat), v = .slice (some a) l c → B ≤ a.block
theorem MemAt.set {W : World} {v : Value} {n : Nat} {U N : Nat → ByteArray} {R : Nat → Int} (h : MemAt W v n U N R) {B : Nat} (hf : FromB B v) (p : Addr) (x : Value) (hp : p.block < B) : MemAt (W.setCell p x) v n U N R := by
  obtain ⟨o, cap, hv, h1, h2, hc⟩ := h
  refine ⟨o, cap, hv, h1, h2, fun j hj => ?_⟩
  obtain ⟨b, f, ho, hB, c0, c1, c2⟩ := hc j hj
  have hb : B ≤ b := hf ⟨b, f, none⟩ n cap (by rw [hv, ho])
  have ne : ∀ i, p ≠ (⟨b, i, none⟩ : Addr) := fun i e => by rw [e] at hp; simp at hp; omega
  exact ⟨b, f, ho, Nat.lt_of_lt_of_le hB ((Below.refl 0 W).setCell (Nat.zero_le _) x).size, (setO W p _ x (ne _)).trans c0, (setO W p _ x (ne _)).trans c1, (setO W p _ x (ne _)).trans c2⟩
theorem RankAt.set {W : World} {v : Value} {n : Nat} {U : Nat → ByteArray} {R : Nat → Int} (h : RankAt W v n U R) {B : Nat} (hf : FromB B v) (p : Addr) (x : Value) (hp : p.block < B) : RankAt (W.setCell p x) v n U R := by
  obtain ⟨o, cap, hv, h1, h2, hc⟩ := h
  refine ⟨o, cap, hv, h1, h2, fun j hj => ?_⟩
  obtain ⟨b, f, ho, hB, c0, c1⟩ := hc j hj
  have hb : B ≤ b := hf ⟨b, f, none⟩ n cap (by rw [hv, ho])
  have ne : ∀ i, p ≠ (⟨b, i, none⟩ : Addr) := fun i e => by rw [e] at hp; simp at hp; omega
  exact ⟨b, f, ho, Nat.lt_of_lt_of_le hB ((Below.refl 0 W).setCell (Nat.zero_le _) x).size, (setO W p _ x (ne _)).trans c0, (setO W p _ x (ne _)).trans c1⟩

theorem make_many (t e : TypeId) (z : Value) (c bytes : Nat) (ht : Tryd.prog.underlying t = some (.slice e)) (hinfo : (Tryd.prog.info? e).map (fun i => (i.zero, i.size, i.bytes)) = some (some z, c, bytes)) (n : Nat) (hb : bytes * n ≤ 281474976710656) (h63 : n ≤ 9223372036854775807) (w : World) :
    (Instr.makeSlice t (.int .i64 (n : Int)) (.int .i64 (n : Int))).run Tryd.prog w = .ok (.slice (some ⟨w.heap.size, 0, none⟩) n n) (w.alloc (.cells (madeCells z.cells (n * c)) e)) := by
  obtain ⟨i, hi, hzz⟩ := Option.map_eq_some_iff.1 hinfo
  simp only [Prod.mk.injEq] at hzz
  obtain ⟨hz, hs, hbb⟩ := hzz
  have hb' : (i.bytes : Int) * (n : Int) ≤ 281474976710656 := by
    have h : ((i.bytes * n : Nat) : Int) ≤ 281474976710656 := by rw [hbb]; omega
    rwa [Int.natCast_mul] at h
  have := run_make (P := Tryd.prog) w t e i z ht hi hz .i64 .i64 n n (by omega) (Int.le_refl _) hb' (by omega)
  rw [this, hs]
  simp

theorem set_heap (w : World) (g i : Nat) (cur : Array Value) (t : TypeId) (fr : Nat × Nat) (v : Value) (hg : w.heap[g]? = some (.cells cur t fr)) : (w.setCell ⟨g, i, none⟩ v).heap[g]? = some (.cells (cur.setIfInBounds i v) t fr) := by
  rw [setCell_eq_setRow w g i cur t fr v hg]
  exact setRow_heap w g cur _ t fr hg
theorem at_set (C : Array Value) (i j : Nat) (v : Value) (h : i < C.size) : (C.setIfInBounds i v)[j]? = if i = j then some v else C[j]? := by
  rw [Array.getElem?_setIfInBounds]
  split
  · rename_i e; subst e; simp
  · rfl
theorem put3 (C : Array Value) (o : Nat) (a b c : Value) (h : o + 2 < C.size) (j : Nat) : (((C.setIfInBounds o a).setIfInBounds (o + 1) b).setIfInBounds (o + 2) c)[j]? = if j = o then some a else if j = o + 1 then some b else if j = o + 2 then some c else C[j]? := by
  rw [at_set _ _ _ _ (by simp; omega), at_set _ _ _ _ (by simp; omega), at_set _ _ _ _ (by omega)]
  by_cases h0 : j = o
  · subst h0; simp
  · by_cases h1 : j = o + 1
    · subst h1; simp
    · by_cases h2 : j = o + 2
      · subst h2; simp
      · rw [if_neg (by omega), if_neg (by omega), if_neg (by omega), if_neg h0, if_neg h1, if_neg h2]
theorem put2 (C : Array Value) (o : Nat) (a b : Value) (h : o + 1 < C.size) (j : Nat) : ((C.setIfInBounds o a).setIfInBounds (o + 1) b)[j]? = if j = o then some a else if j = o + 1 then some b else C[j]? := by
  rw [at_set _ _ _ _ (by simp; omega), at_set _ _ _ _ (by omega)]
  by_cases h0 : j = o
  · subst h0; simp
  · by_cases h1 : j = o + 1
    · subst h1; simp
    · rw [if_neg (by omega), if_neg (by omega), if_neg h0, if_neg h1]
theorem cell_of (w : World) (g i : Nat) (C : Array Value) (t : TypeId) (hg : w.heap[g]? = some (.cells C t (0, 0))) : w.cell? ⟨g, i, none⟩ = C[i]? := by
  simp [World.cell?, hg]

set_option maxRecDepth 100000 in
set_option maxHeartbeats 2000000 in
theorem toMemberS_any (v : Value) (n : Nat) (U N : Nat → ByteArray) (R : Nat → Int) (w : World) (hm : MemAt w v n U N R) (hn : n ≤ 1048576) :
    Calls Tryd.prog 19 #[v] w fun e w' => (∃ v', e = .returned v' ∧ MemAt w' v' n U N R ∧ FromB w.heap.size v') ∧ Below w.heap.size w w' := by
  obtain ⟨o, cap, rfl, g1, g2', hc⟩ := hm
  have g2 : cap ≤ 9223372036854775807 := g2'
  clear g2'
  have HC : Hid (∀ j, j < n → ∃ b f : Nat, o = some ⟨b, f, none⟩ ∧ b < w.heap.size ∧ w.cell? ⟨b, f + j * 3, none⟩ = some (.string (U j)) ∧ w.cell? ⟨b, f + j * 3 + 1, none⟩ = some (.string (N j)) ∧ w.cell? ⟨b, f + j * 3 + 2, none⟩ = some (.int .i64 (R j))) := hc
  clear hc
  have hmk := make_many 28 56 (.agg #[.string ⟨#[]⟩, .string ⟨#[]⟩, .int .i64 0]) 3 40 Tryd.underlying28 (by kernel_rfl) n (by omega) (by omega)
  go_enter Tryd.func19, Tryd.ntmps19
  go_wp2_with fail
  go_loopw [4] (fun i wr => ∃ (k : Nat) (C : Array Value), k ≤ n ∧ i = .int .i64 k ∧ Below w.heap.size w wr ∧ wr.heap[w.heap.size]? = some (.cells C 56 (0, 0)) ∧ C.size = n * 3 ∧ Hid (∀ j, j < k → C[j * 3]? = some (.string (U j)) ∧ C[j * 3 + 1]? = some (.string (N j)) ∧ C[j * 3 + 2]? = some (.int .i64 (R j)))) (fun i _ => n - (intOf i).toNat)
  case atStart => exact ⟨0, _, Nat.zero_le _, rfl, below_alloc w _, World.alloc_heap_new w _, by rw [size_madeCells], fun j hj => absurd hj (by omega)⟩
  case round =>
    obtain ⟨k, C, hk, rfl, bw, hg, hC, HA⟩ := hrel
    by_cases hlt : k < n
    · obtain ⟨b, f, ho, hb, c0, c1, c2⟩ := HC.out k hlt
      subst ho
      have i1 : (0 : Int) ≤ (k : Int) := by omega
      have i2 : (k : Int) < (n : Int) := by omega
      have d0 := (bw.cell (p := ⟨b, f + k * 3, none⟩) hb).trans c0
      have d1 := (bw.cell (p := ⟨b, f + k * 3 + 1, none⟩) hb).trans c1
      have d2 := (bw.cell (p := ⟨b, f + k * 3 + 2, none⟩) hb).trans c2
      go_wp2_with fail
      refine (toMember_any (U k) (N k) (R k) wr).mono ?_
      rintro e w1 ⟨rfl, b1⟩
      have hlg : w.heap.size < wr.heap.size := (Array.getElem?_eq_some_iff.1 hg).1
      have hg1 := (b1.block w.heap.size hlg).trans hg
      have bw1 := bw.trans (b1.mono bw.size)
      have e0 : w1.cell? ⟨w.heap.size, k * 3, none⟩ = some (C[k * 3]'(by omega)) := (cell_of w1 _ _ C _ hg1).trans (Array.getElem?_eq_getElem (by omega))
      have e1 : w1.cell? ⟨w.heap.size, k * 3 + 1, none⟩ = some (C[k * 3 + 1]'(by omega)) := (cell_of w1 _ _ C _ hg1).trans (Array.getElem?_eq_getElem (by omega))
      have e2 : w1.cell? ⟨w.heap.size, k * 3 + 2, none⟩ = some (C[k * 3 + 2]'(by omega)) := (cell_of w1 _ _ C _ hg1).trans (Array.getElem?_eq_getElem (by omega))
      have f0 : w1.frozen? ⟨w.heap.size, k * 3, none⟩ = false := by simp [World.frozen?, hg1]
      have f1 : w1.frozen? ⟨w.heap.size, k * 3 + 1, none⟩ = false := by simp [World.frozen?, hg1]
      have f2 : w1.frozen? ⟨w.heap.size, k * 3 + 2, none⟩ = false := by simp [World.frozen?, hg1]
      go_wp2_with fail
      have k1 := set_heap _ w.heap.size (k * 3 + 2) _ _ _ (.int .i64 (R k)) (set_heap _ w.heap.size (k * 3 + 1) _ _ _ (.string (N k)) (set_heap w1 w.heap.size (k * 3) C _ _ (.string (U k)) hg1))
      go_round
      case rel =>
        refine ⟨k + 1, _, by omega, by go_num, ((bw1.setCell (Nat.le_refl _) _).setCell (Nat.le_refl _) _).setCell (Nat.le_refl _) _, k1, by simp [hC], fun j hj => ?_⟩
        rw [put3 C (k * 3) _ _ _ (by omega), put3 C (k * 3) _ _ _ (by omega), put3 C (k * 3) _ _ _ (by omega)]
        by_cases hjk : j = k
        · subst hjk
          rw [if_pos rfl, if_neg (by omega), if_pos rfl, if_neg (by omega), if_neg (by omega), if_pos rfl]
          exact ⟨rfl, rfl, rfl⟩
        · rw [if_neg (by omega), if_neg (by omega), if_neg (by omega), if_neg (by omega), if_neg (by omega), if_neg (by omega), if_neg (by omega), if_neg (by omega), if_neg (by omega)]
          exact HA.out j (by omega)
      case measure => simp [intOf]; omega
    · obtain rfl : k = n := by omega
      have hlg : w.heap.size < wr.heap.size := (Array.getElem?_eq_some_iff.1 hg).1
      go_wp2_with fail
      go_ret
      exact ⟨⟨_, rfl, ⟨some ⟨w.heap.size, 0, none⟩, k, rfl, Nat.le_refl _, by show k ≤ 2 ^ 63 - 1; omega, fun j hj => ⟨w.heap.size, 0, rfl, hlg, by rw [Nat.zero_add]; exact (cell_of wr _ _ C _ hg).trans (HA.out j hj).1, by rw [Nat.zero_add]; exact (cell_of wr _ _ C _ hg).trans (HA.out j hj).2.1, by rw [Nat.zero_add]; exact (cell_of wr _ _ C _ hg).trans (HA.out j hj).2.2⟩⟩, fun a l c h => by injection h with h _ _; injection h with h; rw [← h]; exact Nat.le_refl _⟩, bw⟩

set_option maxRecDepth 100000 in
set_option maxHeartbeats 2000000 in
theorem toRankS_any (v : Value) (n : Nat) (U : Nat → ByteArray) (R : Nat → Int) (w : World) (hm : RankAt w v n U R) (hn : n ≤ 1048576) :
    Calls Tryd.prog 20 #[v] w fun e w' => (∃ v', e = .returned v' ∧ RankAt w' v' n U R ∧ FromB w.heap.size v') ∧ Below w.heap.size w w' := by
  obtain ⟨o, cap, rfl, g1, g2', hc⟩ := hm
  have g2 : cap ≤ 9223372036854775807 := g2'
  clear g2'
  have HC : Hid (∀ j, j < n → ∃ b f : Nat, o = some ⟨b, f, none⟩ ∧ b < w.heap.size ∧ w.cell? ⟨b, f + j * 2, none⟩ = some (.string (U j)) ∧ w.cell? ⟨b, f + j * 2 + 1, none⟩ = some (.int .i64 (R j))) := hc
  clear hc
  have hmk := make_many 29 58 (.agg #[.string ⟨#[]⟩, .int .i64 0]) 2 24 Tryd.underlying29 (by kernel_rfl) n (by omega) (by omega)
  go_enter Tryd.func20, Tryd.ntmps20
  go_wp2_with fail
  go_loopw [4] (fun i wr => ∃ (k : Nat) (C : Array Value), k ≤ n ∧ i = .int .i64 k ∧ Below w.heap.size w wr ∧ wr.heap[w.heap.size]? = some (.cells C 58 (0, 0)) ∧ C.size = n * 2 ∧ Hid (∀ j, j < k → C[j * 2]? = some (.string (U j)) ∧ C[j * 2 + 1]? = some (.int .i64 (R j)))) (fun i _ => n - (intOf i).toNat)
  case atStart => exact ⟨0, _, Nat.zero_le _, rfl, below_alloc w _, World.alloc_heap_new w _, by rw [size_madeCells], fun j hj => absurd hj (by omega)⟩
  case round =>
    obtain ⟨k, C, hk, rfl, bw, hg, hC, HA⟩ := hrel
    by_cases hlt : k < n
    · obtain ⟨b, f, ho, hb, c0, c1⟩ := HC.out k hlt
      subst ho
      have i1 : (0 : Int) ≤ (k : Int) := by omega
      have i2 : (k : Int) < (n : Int) := by omega
      have d0 := (bw.cell (p := ⟨b, f + k * 2, none⟩) hb).trans c0
      have d1 := (bw.cell (p := ⟨b, f + k * 2 + 1, none⟩) hb).trans c1
      go_wp2_with fail
      refine (toRank_any (U k) (R k) wr).mono ?_
      rintro e w1 ⟨rfl, b1⟩
      have hlg : w.heap.size < wr.heap.size := (Array.getElem?_eq_some_iff.1 hg).1
      have hg1 := (b1.block w.heap.size hlg).trans hg
      have bw1 := bw.trans (b1.mono bw.size)
      have e0 : w1.cell? ⟨w.heap.size, k * 2, none⟩ = some (C[k * 2]'(by omega)) := (cell_of w1 _ _ C _ hg1).trans (Array.getElem?_eq_getElem (by omega))
      have e1 : w1.cell? ⟨w.heap.size, k * 2 + 1, none⟩ = some (C[k * 2 + 1]'(by omega)) := (cell_of w1 _ _ C _ hg1).trans (Array.getElem?_eq_getElem (by omega))
      have f0 : w1.frozen? ⟨w.heap.size, k * 2, none⟩ = false := by simp [World.frozen?, hg1]
      have f1 : w1.frozen? ⟨w.heap.size, k * 2 + 1, none⟩ = false := by simp [World.frozen?, hg1]
      go_wp2_with fail
      have k1 := set_heap _ w.heap.size (k * 2 + 1) _ _ _ (.int .i64 (R k)) (set_heap w1 w.heap.size (k * 2) C _ _ (.string (U k)) hg1)
      go_round
      case rel =>
        refine ⟨k + 1, _, by omega, by go_num, (bw1.setCell (Nat.le_refl _) _).setCell (Nat.le_refl _) _, k1, by simp [hC], fun j hj => ?_⟩
        rw [put2 C (k * 2) _ _ (by omega), put2 C (k * 2) _ _ (by omega)]
        by_cases hjk : j = k
        · subst hjk
          rw [if_pos rfl, if_neg (by omega), if_pos rfl]
          exact ⟨rfl, rfl⟩
        · rw [if_neg (by omega), if_neg (by omega), if_neg (by omega), if_neg (by omega)]
          exact HA.out j (by omega)
      case measure => simp [intOf]; omega
    · obtain rfl : k = n := by omega
      have hlg : w.heap.size < wr.heap.size := (Array.getElem?_eq_some_iff.1 hg).1
      go_wp2_with fail
      go_ret
      exact ⟨⟨_, rfl, ⟨some ⟨w.heap.size, 0, none⟩, k, rfl, Nat.le_refl _, by show k ≤ 2 ^ 63 - 1; omega, fun j hj => ⟨w.heap.size, 0, rfl, hlg, by rw [Nat.zero_add]; exact (cell_of wr _ _ C _ hg).trans (HA.out j hj).1, by rw [Nat.zero_add]; exact (cell_of wr _ _ C _ hg).trans (HA.out j hj).2⟩⟩, fun a l c h => by injection h with h _ _; injection h with h; rw [← h]; exact Nat.le_refl _⟩, bw⟩

set_option maxRecDepth 100000 in
set_option maxHeartbeats 2000000 in
theorem toRoom_any (nm sb : ByteArray) (nx : Int) (vm vk : Value) (n : Nat) (U N : Nat → ByteArray) (R : Nat → Int) (z : Nat) (KU : Nat → ByteArray) (KR : Nat → Int) (w : World) (hm : MemAt w vm n U N R) (hk : RankAt w vk z KU KR) (hn : n ≤ 1048576) (hz : z ≤ 1048576) :
    Calls Tryd.prog 7 #[roomV nm nx vm vk sb] w fun e w' => (∃ vm' vk', e = .returned (roomV nm nx vm' vk' sb) ∧ MemAt w' vm' n U N R ∧ RankAt w' vk' z KU KR) ∧ Below w.heap.size w w' := by
  have vms : ∃ o l c, vm = .slice o l c := by obtain ⟨o, c, h, _⟩ := hm; exact ⟨o, n, c, h⟩
  have vks : ∃ o l c, vk = .slice o l c := by obtain ⟨o, c, h, _⟩ := hk; exact ⟨o, z, c, h⟩
  obtain ⟨o, l, c, rfl⟩ := vms
  obtain ⟨o2, l2, c2, rfl⟩ := vks
  go_enter Tryd.func7, Tryd.ntmps7
  go_wp2_with fail
  obtain ⟨WA, hWA⟩ : ∃ WA, WA = ((w.alloc (.cells #[.string nm, .int .i64 nx, .slice o l c, .slice o2 l2 c2, .string sb] 25)).alloc (.cells #[.string ⟨#[]⟩, .int .i64 0, .slice none 0 0, .slice none 0 0, .string ⟨#[]⟩] 31)).alloc (.cells #[.string nm, .int .i64 nx, .slice none 0 0, .slice none 0 0, .string ⟨#[]⟩] 31) := ⟨_, rfl⟩
  have bA : Below w.heap.size w WA := by rw [hWA]; exact (((Below.refl _ w).alloc (Nat.le_refl _) _).alloc (by simp) _).alloc (by simp; omega) _
  have sA : WA.heap.size = w.heap.size + 3 := by rw [hWA]; simp
  have a0 : WA.heap[w.heap.size]? = some (.cells #[.string nm, .int .i64 nx, .slice o l c, .slice o2 l2 c2, .string sb] 25 (0, 0)) := by
    rw [hWA, Below.heap_alloc _ _ _ (by simp; omega), Below.heap_alloc _ _ _ (by simp)]; exact World.alloc_heap_new w _
  have a2 : WA.heap[w.heap.size + 1 + 1]? = some (.cells #[.string nm, .int .i64 nx, .slice none 0 0, .slice none 0 0, .string ⟨#[]⟩] 31 (0, 0)) := by
    rw [hWA]
    have := World.alloc_heap_new ((w.alloc (.cells #[.string nm, .int .i64 nx, .slice o l c, .slice o2 l2 c2, .string sb] 25)).alloc (.cells #[.string ⟨#[]⟩, .int .i64 0, .slice none 0 0, .slice none 0 0, .string ⟨#[]⟩] 31)) (.cells #[.string nm, .int .i64 nx, .slice none 0 0, .slice none 0 0, .string ⟨#[]⟩] 31)
    simpa using this
  have a1 : WA.heap[w.heap.size + 1]? = some (.cells #[.string ⟨#[]⟩, .int .i64 0, .slice none 0 0, .slice none 0 0, .string ⟨#[]⟩] 31 (0, 0)) := by
    rw [hWA, Below.heap_alloc _ _ _ (by simp)]
    have := World.alloc_heap_new (w.alloc (.cells #[.string nm, .int .i64 nx, .slice o l c, .slice o2 l2 c2, .string sb] 25)) (.cells #[.string ⟨#[]⟩, .int .i64 0, .slice none 0 0, .slice none 0 0, .string ⟨#[]⟩] 31)
    simpa using this
  rw [← hWA]
  clear hWA
  refine (toMemberS_any _ n U N R WA (hm.below bA) hn).mono ?_
  rintro e w1 ⟨⟨v1, rfl, hm1, fm1⟩, b1⟩
  have m1 : ∃ o l c, v1 = .slice o l c := by obtain ⟨o, c, h, _⟩ := hm1; exact ⟨o, n, c, h⟩
  obtain ⟨o3, l3, c3, rfl⟩ := m1
  have e0 := (b1.block w.heap.size (by omega)).trans a0
  have e2 := (b1.block (w.heap.size + 1 + 1) (by omega)).trans a2
  have e1 := (b1.block (w.heap.size + 1) (by omega)).trans a1
  have s1 := b1.size
  have x2 : w1.cell? ⟨w.heap.size + 1 + 1, 2, none⟩ = some (.slice none 0 0) := cell_of w1 _ _ _ _ e2
  have x2f : w1.frozen? ⟨w.heap.size + 1 + 1, 2, none⟩ = false := by simp [World.frozen?, e2]
  have b2 : Below (w.heap.size + 1 + 1) w1 (w1.setCell ⟨w.heap.size + 1 + 1, 2, none⟩ (.slice o3 l3 c3)) := (Below.refl (w.heap.size + 1 + 1) w1).setCell (p := ⟨w.heap.size + 1 + 1, 2, none⟩) (Nat.le_refl _) _
  have e2' := set_heap w1 (w.heap.size + 1 + 1) 2 _ _ _ (.slice o3 l3 c3) e2
  have e0' := (b2.block w.heap.size (by omega)).trans e0
  have e1' := (b2.block (w.heap.size + 1) (by omega)).trans e1
  have y3 : (w1.setCell ⟨w.heap.size + 1 + 1, 2, none⟩ (.slice o3 l3 c3)).cell? ⟨w.heap.size, 3, none⟩ = some (.slice o2 l2 c2) := cell_of _ _ _ _ _ e0'
  have cA := bA.trans (b1.mono bA.size)
  have cB : Below w.heap.size w (w1.setCell ⟨w.heap.size + 1 + 1, 2, none⟩ (.slice o3 l3 c3)) := cA.setCell (p := ⟨w.heap.size + 1 + 1, 2, none⟩) (by show w.heap.size ≤ w.heap.size + 1 + 1; omega) _
  have hm2 := hm1.set fm1 ⟨w.heap.size + 1 + 1, 2, none⟩ (.slice o3 l3 c3) (by show w.heap.size + 1 + 1 < WA.heap.size; omega)
  have s2 := cB.size
  go_wp2_with fail
  obtain ⟨WB, hWB⟩ : ∃ WB, WB = w1.setCell ⟨w.heap.size + 1 + 1, 2, none⟩ (.slice o3 l3 c3) := ⟨_, rfl⟩
  have sB : w.heap.size + 3 ≤ WB.heap.size := by
    have := ((Below.refl (w.heap.size + 1 + 1) w1).setCell (p := ⟨w.heap.size + 1 + 1, 2, none⟩) (Nat.le_refl _) (.slice o3 l3 c3)).size
    rw [hWB]; omega
  rw [← hWB] at e2' e0' e1' y3 cB hm2 ⊢
  clear hWB b2 x2 x2f e0 e1 e2 hm1 s2
  refine (toRankS_any _ z KU KR WB (hk.below cB) hz).mono ?_
  rintro e w2 ⟨⟨v2, rfl, hk2, fk2⟩, b3⟩
  have m2 : ∃ o l c, v2 = .slice o l c := by obtain ⟨o, c, h, _⟩ := hk2; exact ⟨o, z, c, h⟩
  obtain ⟨o4, l4, c4, rfl⟩ := m2
  have hm3 := hm2.below b3
  have cC := cB.trans (b3.mono cB.size)
  have g0 := (b3.block w.heap.size (by omega)).trans e0'
  have g2 := (b3.block (w.heap.size + 1 + 1) (by omega)).trans e2'
  have p3 : w2.cell? ⟨w.heap.size + 1 + 1, 3, none⟩ = some (.slice none 0 0) := cell_of w2 _ _ _ _ g2
  have p3f : w2.frozen? ⟨w.heap.size + 1 + 1, 3, none⟩ = false := by simp [World.frozen?, g2]
  have g2' := set_heap w2 (w.heap.size + 1 + 1) 3 _ _ _ (.slice o4 l4 c4) g2
  have p4 : (w2.setCell ⟨w.heap.size + 1 + 1, 3, none⟩ (.slice o4 l4 c4)).cell? ⟨w.heap.size + 1 + 1, 4, none⟩ = some (.string ⟨#[]⟩) := cell_of _ _ _ _ _ g2'
  have p4f : (w2.setCell ⟨w.heap.size + 1 + 1, 3, none⟩ (.slice o4 l4 c4)).frozen? ⟨w.heap.size + 1 + 1, 4, none⟩ = false := by rw [World.frozen?_setCell]; simp [World.frozen?, g2]
  have p5 : (w2.setCell ⟨w.heap.size + 1 + 1, 3, none⟩ (.slice o4 l4 c4)).cell? ⟨w.heap.size, 4, none⟩ = some (.string sb) := by
    rw [setO _ _ _ _ (by intro h; injection h with h; omega)]
    exact cell_of _ _ _ _ _ g0
  have g3' := set_heap _ (w.heap.size + 1 + 1) 4 _ _ _ (.string sb) g2'
  have t0 : ((w2.setCell ⟨w.heap.size + 1 + 1, 3, none⟩ (.slice o4 l4 c4)).setCell ⟨w.heap.size + 1 + 1, 4, none⟩ (.string sb)).cell? ⟨w.heap.size + 1 + 1, 0, none⟩ = some (.string nm) := cell_of _ _ _ _ _ g3'
  have t1 : ((w2.setCell ⟨w.heap.size + 1 + 1, 3, none⟩ (.slice o4 l4 c4)).setCell ⟨w.heap.size + 1 + 1, 4, none⟩ (.string sb)).cell? ⟨w.heap.size + 1 + 1, 1, none⟩ = some (.int .i64 nx) := cell_of _ _ _ _ _ g3'
  have t2 : ((w2.setCell ⟨w.heap.size + 1 + 1, 3, none⟩ (.slice o4 l4 c4)).setCell ⟨w.heap.size + 1 + 1, 4, none⟩ (.string sb)).cell? ⟨w.heap.size + 1 + 1, 2, none⟩ = some (.slice o3 l3 c3) := cell_of _ _ _ _ _ g3'
  have t3 : ((w2.setCell ⟨w.heap.size + 1 + 1, 3, none⟩ (.slice o4 l4 c4)).setCell ⟨w.heap.size + 1 + 1, 4, none⟩ (.string sb)).cell? ⟨w.heap.size + 1 + 1, 3, none⟩ = some (.slice o4 l4 c4) := cell_of _ _ _ _ _ g3'
  have t4 : ((w2.setCell ⟨w.heap.size + 1 + 1, 3, none⟩ (.slice o4 l4 c4)).setCell ⟨w.heap.size + 1 + 1, 4, none⟩ (.string sb)).cell? ⟨w.heap.size + 1 + 1, 4, none⟩ = some (.string sb) := cell_of _ _ _ _ _ g3'
  have g1 := (b3.block (w.heap.size + 1) (by omega)).trans e1'
  have g1' : ((w2.setCell ⟨w.heap.size + 1 + 1, 3, none⟩ (.slice o4 l4 c4)).setCell ⟨w.heap.size + 1 + 1, 4, none⟩ (.string sb)).heap[w.heap.size + 1]? = some (.cells #[.string ⟨#[]⟩, .int .i64 0, .slice none 0 0, .slice none 0 0, .string ⟨#[]⟩] 31 (0, 0)) := by
    rw [Below.heap_setCell _ _ _ _ (by show w.heap.size + 1 ≠ w.heap.size + 1 + 1; omega), Below.heap_setCell _ _ _ _ (by show w.heap.size + 1 ≠ w.heap.size + 1 + 1; omega)]
    exact g1
  have n0 : ((w2.setCell ⟨w.heap.size + 1 + 1, 3, none⟩ (.slice o4 l4 c4)).setCell ⟨w.heap.size + 1 + 1, 4, none⟩ (.string sb)).cell? ⟨w.heap.size + 1, 0, none⟩ = some (.string ⟨#[]⟩) := cell_of _ _ _ _ _ g1'
  have nf0 : ((w2.setCell ⟨w.heap.size + 1 + 1, 3, none⟩ (.slice o4 l4 c4)).setCell ⟨w.heap.size + 1 + 1, 4, none⟩ (.string sb)).frozen? ⟨w.heap.size + 1, 0, none⟩ = false := by rw [World.frozen?_setCell, World.frozen?_setCell]; simp [World.frozen?, g1]
  have n1 : ((w2.setCell ⟨w.heap.size + 1 + 1, 3, none⟩ (.slice o4 l4 c4)).setCell ⟨w.heap.size + 1 + 1, 4, none⟩ (.string sb)).cell? ⟨w.heap.size + 1, 1, none⟩ = some (.int .i64 0) := cell_of _ _ _ _ _ g1'
  have nf1 : ((w2.setCell ⟨w.heap.size + 1 + 1, 3, none⟩ (.slice o4 l4 c4)).setCell ⟨w.heap.size + 1 + 1, 4, none⟩ (.string sb)).frozen? ⟨w.heap.size + 1, 1, none⟩ = false := by rw [World.frozen?_setCell, World.frozen?_setCell]; simp [World.frozen?, g1]
  have n2 : ((w2.setCell ⟨w.heap.size + 1 + 1, 3, none⟩ (.slice o4 l4 c4)).setCell ⟨w.heap.size + 1 + 1, 4, none⟩ (.string sb)).cell? ⟨w.heap.size + 1, 2, none⟩ = some (.slice none 0 0) := cell_of _ _ _ _ _ g1'
  have nf2 : ((w2.setCell ⟨w.heap.size + 1 + 1, 3, none⟩ (.slice o4 l4 c4)).setCell ⟨w.heap.size + 1 + 1, 4, none⟩ (.string sb)).frozen? ⟨w.heap.size + 1, 2, none⟩ = false := by rw [World.frozen?_setCell, World.frozen?_setCell]; simp [World.frozen?, g1]
  have n3 : ((w2.setCell ⟨w.heap.size + 1 + 1, 3, none⟩ (.slice o4 l4 c4)).setCell ⟨w.heap.size + 1 + 1, 4, none⟩ (.string sb)).cell? ⟨w.heap.size + 1, 3, none⟩ = some (.slice none 0 0) := cell_of _ _ _ _ _ g1'
  have nf3 : ((w2.setCell ⟨w.heap.size + 1 + 1, 3, none⟩ (.slice o4 l4 c4)).setCell ⟨w.heap.size + 1 + 1, 4, none⟩ (.string sb)).frozen? ⟨w.heap.size + 1, 3, none⟩ = false := by rw [World.frozen?_setCell, World.frozen?_setCell]; simp [World.frozen?, g1]
  have n4 : ((w2.setCell ⟨w.heap.size + 1 + 1, 3, none⟩ (.slice o4 l4 c4)).setCell ⟨w.heap.size + 1 + 1, 4, none⟩ (.string sb)).cell? ⟨w.heap.size + 1, 4, none⟩ = some (.string ⟨#[]⟩) := cell_of _ _ _ _ _ g1'
  have nf4 : ((w2.setCell ⟨w.heap.size + 1 + 1, 3, none⟩ (.slice o4 l4 c4)).setCell ⟨w.heap.size + 1 + 1, 4, none⟩ (.string sb)).frozen? ⟨w.heap.size + 1, 4, none⟩ = false := by rw [World.frozen?_setCell, World.frozen?_setCell]; simp [World.frozen?, g1]
  go_wp2_with fail
  have h4 := (set_heap _ (w.heap.size + 1) 4 _ _ _ (.string sb) (set_heap _ (w.heap.size + 1) 3 _ _ _ (.slice o4 l4 c4) (set_heap _ (w.heap.size + 1) 2 _ _ _ (.slice o3 l3 c3) (set_heap _ (w.heap.size + 1) 1 _ _ _ (.int .i64 nx) (set_heap _ (w.heap.size + 1) 0 _ _ _ (.string nm) g1')))))
  have m4 := (((((((hm3.set fm1 ⟨w.heap.size + 1 + 1, 3, none⟩ (.slice o4 l4 c4) (by show w.heap.size + 1 + 1 < WA.heap.size; omega)).set fm1 ⟨w.heap.size + 1 + 1, 4, none⟩ (.string sb) (by show w.heap.size + 1 + 1 < WA.heap.size; omega)).set fm1 ⟨w.heap.size + 1, 0, none⟩ (.string nm) (by show w.heap.size + 1 < WA.heap.size; omega)).set fm1 ⟨w.heap.size + 1, 1, none⟩ (.int .i64 nx) (by show w.heap.size + 1 < WA.heap.size; omega)).set fm1 ⟨w.heap.size + 1, 2, none⟩ (.slice o3 l3 c3) (by show w.heap.size + 1 < WA.heap.size; omega)).set fm1 ⟨w.heap.size + 1, 3, none⟩ (.slice o4 l4 c4) (by show w.heap.size + 1 < WA.heap.size; omega)).set fm1 ⟨w.heap.size + 1, 4, none⟩ (.string sb) (by show w.heap.size + 1 < WA.heap.size; omega))
  have k4 := (((((((hk2.set fk2 ⟨w.heap.size + 1 + 1, 3, none⟩ (.slice o4 l4 c4) (by show w.heap.size + 1 + 1 < WB.heap.size; omega)).set fk2 ⟨w.heap.size + 1 + 1, 4, none⟩ (.string sb) (by show w.heap.size + 1 + 1 < WB.heap.size; omega)).set fk2 ⟨w.heap.size + 1, 0, none⟩ (.string nm) (by show w.heap.size + 1 < WB.heap.size; omega)).set fk2 ⟨w.heap.size + 1, 1, none⟩ (.int .i64 nx) (by show w.heap.size + 1 < WB.heap.size; omega)).set fk2 ⟨w.heap.size + 1, 2, none⟩ (.slice o3 l3 c3) (by show w.heap.size + 1 < WB.heap.size; omega)).set fk2 ⟨w.heap.size + 1, 3, none⟩ (.slice o4 l4 c4) (by show w.heap.size + 1 < WB.heap.size; omega)).set fk2 ⟨w.heap.size + 1, 4, none⟩ (.string sb) (by show w.heap.size + 1 < WB.heap.size; omega))
  have d4 := (((((((cC.setCell (p := ⟨w.heap.size + 1 + 1, 3, none⟩) (by show w.heap.size ≤ w.heap.size + 1 + 1; omega) (.slice o4 l4 c4)).setCell (p := ⟨w.heap.size + 1 + 1, 4, none⟩) (by show w.heap.size ≤ w.heap.size + 1 + 1; omega) (.string sb)).setCell (p := ⟨w.heap.size + 1, 0, none⟩) (by show w.heap.size ≤ w.heap.size + 1; omega) (.string nm)).setCell (p := ⟨w.heap.size + 1, 1, none⟩) (by show w.heap.size ≤ w.heap.size + 1; omega) (.int .i64 nx)).setCell (p := ⟨w.heap.size + 1, 2, none⟩) (by show w.heap.size ≤ w.heap.size + 1; omega) (.slice o3 l3 c3)).setCell (p := ⟨w.heap.size + 1, 3, none⟩) (by show w.heap.size ≤ w.heap.size + 1; omega) (.slice o4 l4 c4)).setCell (p := ⟨w.heap.size + 1, 4, none⟩) (by show w.heap.size ≤ w.heap.size + 1; omega) (.string sb))
  obtain ⟨W4, hW4⟩ : ∃ W4, W4 = (((((((w2.setCell ⟨w.heap.size + 1 + 1, 3, none⟩ (.slice o4 l4 c4)).setCell ⟨w.heap.size + 1 + 1, 4, none⟩ (.string sb)).setCell ⟨w.heap.size + 1, 0, none⟩ (.string nm)).setCell ⟨w.heap.size + 1, 1, none⟩ (.int .i64 nx)).setCell ⟨w.heap.size + 1, 2, none⟩ (.slice o3 l3 c3)).setCell ⟨w.heap.size + 1, 3, none⟩ (.slice o4 l4 c4)).setCell ⟨w.heap.size + 1, 4, none⟩ (.string sb)) := ⟨_, rfl⟩
  rw [← hW4] at h4 m4 k4 d4 ⊢
  clear hW4
  have u0 : W4.cell? ⟨w.heap.size + 1, 0, none⟩ = some (.string nm) := cell_of _ _ _ _ _ h4
  have u1 : W4.cell? ⟨w.heap.size + 1, 1, none⟩ = some (.int .i64 nx) := cell_of _ _ _ _ _ h4
  have u2 : W4.cell? ⟨w.heap.size + 1, 2, none⟩ = some (.slice o3 l3 c3) := cell_of _ _ _ _ _ h4
  have u3 : W4.cell? ⟨w.heap.size + 1, 3, none⟩ = some (.slice o4 l4 c4) := cell_of _ _ _ _ _ h4
  have u4 : W4.cell? ⟨w.heap.size + 1, 4, none⟩ = some (.string sb) := cell_of _ _ _ _ _ h4
  exact bodyPost_ret (v := roomV nm nx (.slice o3 l3 c3) (.slice o4 l4 c4) sb) (by simp [results, Tryd.results7, go_sem, u0, u1, u2, u3, u4]) rfl ⟨⟨_, _, rfl, m4, k4⟩, d4⟩
end Go.Proofs.YtglbjibilllopaaDoor.Hub
