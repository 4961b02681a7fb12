/-
  A list of texts as it lies in memory; the law's own szStringS, toStringS, eqStringS, szLine, toLine, eqLine.
-/
import Derived.Test.YtpicccdlaiaemabProg
import Derived.WalkKit
import Derived.ProofKit
import Derived.OpenShut
import Derived.WalkLawsBesides
import Derived.WalkSpells
import Derived.Laws.MakeOwn
import Derived.OrdersHeld
import Derived.Lib.Zigzag
import Derived.OwnWalk
import Derived.Laws.OwnMore
import Derived.RangeFuncNested
import Derived.Deep.DeepFit
import Derived.Deep.RegionHeld3
namespace Go.Proofs.Ytpicccdlaiaemab.Hub
open Go.RowKit
set_option linter.unusedVariables false

theorem below_alloc (w : World) (o : Obj) : Below w.heap.size w (w.alloc o) := (Below.refl _ w).alloc (Nat.le_refl _) _
/-- A slice of n texts, S of each place. -/
def StrAt (W : World) (v : Value) (n : Nat) (S : Nat → ByteArray) : Prop :=
  ∃ o cap, v = .slice o n cap ∧ n ≤ cap ∧ (cap ≤ maxLen ∧ (o = none → cap = 0)) ∧ ∀ j, j < n → ∃ b f : Nat, o = some ⟨b, f, none⟩ ∧ b < W.heap.size ∧ W.cell? ⟨b, f + j, none⟩ = some (.string (S j))
theorem StrAt.below {W W' : World} {v : Value} {n : Nat} {S : Nat → ByteArray} (h : StrAt W v n S) (hb : Below W.heap.size W W') : StrAt W' v n S := by
  obtain ⟨o, cap, hv, h1, h2, hc⟩ := h
  refine ⟨o, cap, hv, h1, h2, fun j hj => ?_⟩
  obtain ⟨b, f, ho, hB, c0⟩ := hc j hj
  exact ⟨b, f, ho, Nat.lt_of_lt_of_le hB hb.size, (hb.cell (p := ⟨b, f + j, none⟩) hB).trans c0⟩
theorem StrAt.nil (W : World) (S : Nat → ByteArray) : StrAt W (.slice none 0 0) 0 S := ⟨none, 0, rfl, Nat.le_refl _, ⟨Nat.zero_le _, fun _ => rfl⟩, fun j hj => absurd hj (by omega)⟩
theorem StrAt.shape {W : World} {v : Value} {n : Nat} {S : Nat → ByteArray} (h : StrAt W v n S) : ∃ o cap, v = .slice o n cap := by
  obtain ⟨o, cap, hv, _⟩ := h; exact ⟨o, cap, hv⟩
/-- A slice lies in a block from B on, or nowhere. -/
def FromB (B : Nat) (v : Value) : Prop := ∀ (a : Addr) (l c : Nat), v = .slice (some a) l c → B ≤ a.block
theorem setO (W : World) (p q : Addr) (x : Value) (h : p ≠ q) : (W.setCell p x).cell? q = W.cell? q := by
  rw [World.cell?_setCell_other]
  exact h
theorem StrAt.set {W : World} {v : Value} {n : Nat} {S : Nat → ByteArray} (h : StrAt W v n S) {B : Nat} (hf : FromB B v) (p : Addr) (x : Value) (hp : p.block < B) : StrAt (W.setCell p x) v n S := by
  obtain ⟨o, cap, hv, h1, h2, hc⟩ := h
  refine ⟨o, cap, hv, h1, h2, fun j hj => ?_⟩
  obtain ⟨b, f, ho, hB, c0⟩ := hc j hj
  have hb : B ≤ b := hf ⟨b, f, none⟩ n cap (by rw [hv, ho])
  have ne : ∀ i, p ≠ (⟨b, i, none⟩ : Addr) := fun i e => by rw [e] at hp; simp at hp; omega
  exact ⟨b, f, ho, Nat.lt_of_lt_of_le hB ((Below.refl 0 W).setCell (Nat.zero_le _) x).size, (setO W p _ x (ne _)).trans c0⟩
theorem make_many (t e : TypeId) (z : Value) (c bytes : Nat) (ht : Try.prog.underlying t = some (.slice e)) (hinfo : (Try.prog.info? e).map (fun i => (i.zero, i.size, i.bytes)) = some (some z, c, bytes)) (n : Nat) (hb : bytes * n ≤ 281474976710656) (h63 : n ≤ 9223372036854775807) (w : World) :
    (Instr.makeSlice t (.int .i64 (n : Int)) (.int .i64 (n : Int))).run Try.prog w = .ok (.slice (some ⟨w.heap.size, 0, none⟩) n n) (w.alloc (.cells (madeCells z.cells (n * c)) e)) := by
  obtain ⟨i, hi, hzz⟩ := Option.map_eq_some_iff.1 hinfo
  simp only [Prod.mk.injEq] at hzz
  obtain ⟨hz, hs, hbb⟩ := hzz
  have hb' : (i.bytes : Int) * (n : Int) ≤ 281474976710656 := by
    have h : ((i.bytes * n : Nat) : Int) ≤ 281474976710656 := by rw [hbb]; omega
    rwa [Int.natCast_mul] at h
  have := run_make (P := Try.prog) w t e i z ht hi hz .i64 .i64 n n (by omega) (Int.le_refl _) hb' (by omega)
  rw [this, hs]
  simp
theorem set_heap (w : World) (g i : Nat) (cur : Array Value) (t : TypeId) (fr : Nat × Nat) (v : Value) (hg : w.heap[g]? = some (.cells cur t fr)) : (w.setCell ⟨g, i, none⟩ v).heap[g]? = some (.cells (cur.setIfInBounds i v) t fr) := by
  rw [setCell_eq_setRow w g i cur t fr v hg]
  exact setRow_heap w g cur _ t fr hg
theorem at_set (C : Array Value) (i j : Nat) (v : Value) (h : i < C.size) : (C.setIfInBounds i v)[j]? = if i = j then some v else C[j]? := by
  rw [Array.getElem?_setIfInBounds]
  split
  · rename_i e; subst e; simp
  · rfl
theorem cell_of (w : World) (g i : Nat) (C : Array Value) (t : TypeId) (hg : w.heap[g]? = some (.cells C t (0, 0))) : w.cell? ⟨g, i, none⟩ = C[i]? := by
  simp [World.cell?, hg]
theorem line_cell (w : World) (C : Array Value) (t : TypeId) (i : Nat) : (w.alloc (.cells C t)).cell? ⟨w.heap.size, i, none⟩ = C[i]? := by
  simp [go_sem]

def strVs (S : Nat → ByteArray) (n : Nat) : List Value := (List.range n).map fun j => .string (S j)
theorem strVs_succ (S : Nat → ByteArray) (n : Nat) : strVs S (n + 1) = strVs S n ++ [.string (S n)] := by simp [strVs, List.range_succ]
theorem strVs_len (S : Nat → ByteArray) (n : Nat) : (strVs S n).length = n := by simp [strVs]
theorem strVs_at (S : Nat → ByteArray) (n j : Nat) (h : j < n) : (strVs S n)[j]? = some (.string (S j)) := by simp [strVs, h]
/-- A new list of n texts, in a block from base on. -/
def Own (W : World) (base : Nat) (v : Value) (n : Nat) (S : Nat → ByteArray) : Prop := W.ownsRow base 9 1 v n (strVs S n)
theorem Own.nil (W : World) (base : Nat) (S : Nat → ByteArray) : Own W base (.slice none 0 0) 0 S := ⟨rfl, .inl ⟨rfl, rfl⟩⟩
theorem Own.strAt {W : World} {base : Nat} {v : Value} {n : Nat} {S : Nat → ByteArray} (h : Own W base v n S) : StrAt W v n S := by
  have hh := h
  rcases h.2 with ⟨rfl, rfl⟩ | ⟨g, cap, cur, rfl, hb, hg, hn, hm, hc, ht⟩
  · exact StrAt.nil _ _
  · refine ⟨some ⟨g, 0, none⟩, cap, rfl, hn, ⟨hm, fun e => by cases e⟩, fun j hj => ⟨g, 0, rfl, (Array.getElem?_eq_some_iff.1 hg).1, ?_⟩⟩
    rw [Nat.zero_add, World.ownsRow.cellAt (w := W) (base := base) (e := 9) (size := 1) (cap := cap) (n := n) hh j (by omega)]
    exact strVs_at S n j hj
theorem Own.fromB {W : World} {base : Nat} {v : Value} {n : Nat} {S : Nat → ByteArray} (h : Own W base v n S) : FromB base v := by
  rcases h.2 with ⟨rfl, rfl⟩ | ⟨g, cap, cur, rfl, hb, hg, hn, hm, hc, ht⟩
  · intro a l c e; injection e with e; cases e
  · intro a l c e; injection e with e; injection e with e; rw [← e]; exact hb
theorem Own.mono {W : World} {base base' : Nat} {v : Value} {n : Nat} {S : Nat → ByteArray} (h : Own W base v n S) (hb : base' ≤ base) : Own W base' v n S := by
  refine ⟨h.1, ?_⟩
  rcases h.2 with h2 | ⟨g, cap, cur, hv, hb2, rest⟩
  · exact .inl h2
  · exact .inr ⟨g, cap, cur, hv, by omega, rest⟩
theorem Own.below {W W' : World} {base : Nat} {v : Value} {n : Nat} {S : Nat → ByteArray} (h : Own W base v n S) (hb : Below W.heap.size W W') : Own W' base v n S := by
  refine ⟨h.1, ?_⟩
  rcases h.2 with h2 | ⟨g, cap, cur, hv, hb2, hg, rest⟩
  · exact .inl h2
  · exact .inr ⟨g, cap, cur, hv, hb2, (hb.block g (Array.getElem?_eq_some_iff.1 hg).1).trans hg, rest⟩
theorem Own.shape {W : World} {base : Nat} {v : Value} {n : Nat} {S : Nat → ByteArray} (h : Own W base v n S) : ∃ o cap, v = .slice o n cap := h.strAt.shape
theorem Own.set {W : World} {base : Nat} {v : Value} {n : Nat} {S : Nat → ByteArray} (h : Own W base v n S) (p : Addr) (x : Value) (hp : p.block < base) : Own (W.setCell p x) base v n S := by
  refine ⟨h.1, ?_⟩
  rcases h.2 with h2 | ⟨g, cap, cur, hv, hb2, hg, rest⟩
  · exact .inl h2
  · exact .inr ⟨g, cap, cur, hv, hb2, (Below.heap_setCell _ _ _ _ (by omega)).trans hg, rest⟩
theorem take_strVs (C : Array Value) (n : Nat) (S : Nat → ByteArray) (hC : C.size = n) (h : ∀ j, j < n → C[j]? = some (.string (S j))) : C.toList.take (n * 1) = strVs S n := by
  apply List.ext_getElem?
  intro j
  rw [Nat.mul_one, List.getElem?_take]
  by_cases hj : j < n
  · rw [if_pos hj, Array.getElem?_toList, h j hj, strVs_at S n j hj]
  · rw [if_neg hj, List.getElem?_eq_none (by rw [strVs_len]; omega)]

set_option maxRecDepth 100000 in
set_option maxHeartbeats 2000000 in
theorem szStringS_any (v : Value) (n : Nat) (S : Nat → ByteArray) (left : Int) (w : World) (h0 : 0 ≤ left) (h1 : left ≤ 1048576) (hm : StrAt w v n S) (hs : ∀ j, j < n → (S j).size ≤ 9223372036854775807) :
    Calls Try.prog 20 #[v, .int .i64 left] w fun e w' => (∃ z : Int, e = .returned (.int .i64 z) ∧ (z < 0 ∨ (0 ≤ z ∧ z ≤ left ∧ (n : Int) ≤ left ∧ ∀ j, j < n → ((S j).size : Int) ≤ left))) ∧ w' = w := by
  obtain ⟨o, cap, rfl, g1, g2', hc⟩ := hm
  have g2 : cap ≤ 9223372036854775807 := g2'.1
  clear g2'
  have HC : Hid (∀ j, j < n → ∃ b f : Nat, o = some ⟨b, f, none⟩ ∧ b < w.heap.size ∧ w.cell? ⟨b, f + j, none⟩ = some (.string (S j))) := hc
  have HS : Hid (∀ j, j < n → (S j).size ≤ 9223372036854775807) := hs
  clear hc hs
  have e1 : IntKind.i64.wrap (left - (n : Int)) = left - (n : Int) := by rw [IntKind.wrap_i64]; omega
  by_cases gn : left - (n : Int) < 0
  · go_enter Try.func20, Try.ntmps20
    go_wp2_with fail
    go_ret
    exact ⟨⟨-1, rfl, .inl (by omega)⟩, rfl⟩
  · go_enter Try.func20, Try.ntmps20
    go_wp2_with fail
    go_loop [1, 5] (fun l i => ∃ (k : Nat) (z : Int), k ≤ n ∧ i = .int .i64 k ∧ l = .int .i64 z ∧ 0 ≤ z ∧ z ≤ left ∧ Hid (∀ j, j < k → ((S j).size : Int) ≤ left)) (fun _ i => n - (intOf i).toNat)
    case atStart => exact ⟨0, _, Nat.zero_le _, rfl, rfl, by omega, by omega, fun j hj => absurd hj (by omega)⟩
    case round =>
      obtain ⟨k, z, hk, rfl, rfl, hz0, hz1, HA⟩ := hrel
      by_cases hlt : k < n
      · obtain ⟨b, f, ho, hb, c0⟩ := HC.out k hlt
        subst ho
        have i1 : (0 : Int) ≤ (k : Int) := by omega
        have i2 : (k : Int) < (n : Int) := by omega
        have hsk := HS.out k hlt
        have e2 : IntKind.i64.wrap (z - ((S k).size : Int)) = z - ((S k).size : Int) := by rw [IntKind.wrap_i64]; omega
        by_cases gz : z - ((S k).size : Int) < 0
        · go_wp2_with fail
          go_ret
          exact ⟨⟨-1, rfl, .inl (by omega)⟩, rfl⟩
        · go_wp2_with fail
          refine ⟨⟨k + 1, z - ((S k).size : Int), by omega, rfl, by go_num, by omega, by omega, fun j hj => ?_⟩, by simp [intOf]; omega⟩
          by_cases hjk : j = k
          · subst hjk; omega
          · exact HA.out j (by omega)
      · obtain rfl : k = n := by omega
        go_wp2_with fail
        go_ret
        exact ⟨⟨z, rfl, .inr ⟨hz0, hz1, by omega, HA.out⟩⟩, rfl⟩

set_option maxRecDepth 100000 in
set_option maxHeartbeats 2000000 in
theorem toStringS_any (v : Value) (n : Nat) (S : Nat → ByteArray) (w : World) (hm : StrAt w v n S) (hn : n ≤ 1048576) :
    Calls Try.prog 22 #[v] w fun e w' => (∃ v', e = .returned v' ∧ Own w' w.heap.size v' n S) ∧ Below w.heap.size w w' := by
  obtain ⟨o, cap, rfl, g1, g2', hc⟩ := hm
  have g2 : cap ≤ 9223372036854775807 := g2'.1
  clear g2'
  have HC : Hid (∀ j, j < n → ∃ b f : Nat, o = some ⟨b, f, none⟩ ∧ b < w.heap.size ∧ w.cell? ⟨b, f + j, none⟩ = some (.string (S j))) := hc
  clear hc
  have hmk := make_many 22 9 (.string ⟨#[]⟩) 1 16 Try.underlying22 (by kernel_rfl) n (by omega) (by omega)
  go_enter Try.func22, Try.ntmps22
  go_wp2_with fail
  go_loopw [4] (fun i wr => ∃ (k : Nat) (C : Array Value), k ≤ n ∧ i = .int .i64 k ∧ Below w.heap.size w wr ∧ wr.heap[w.heap.size]? = some (.cells C 9 (0, 0)) ∧ C.size = n ∧ Hid (∀ j, j < k → C[j]? = some (.string (S j)))) (fun i _ => n - (intOf i).toNat)
  case atStart => exact ⟨0, _, Nat.zero_le _, rfl, below_alloc w _, World.alloc_heap_new w _, by rw [size_madeCells], fun j hj => absurd hj (by omega)⟩
  case round =>
    obtain ⟨k, C, hk, rfl, bw, hg, hC, HA⟩ := hrel
    by_cases hlt : k < n
    · obtain ⟨b, f, ho, hb, c0⟩ := HC.out k hlt
      subst ho
      have i1 : (0 : Int) ≤ (k : Int) := by omega
      have i2 : (k : Int) < (n : Int) := by omega
      have d0 := (bw.cell (p := ⟨b, f + k, none⟩) hb).trans c0
      have e0 : wr.cell? ⟨w.heap.size, k, none⟩ = some (C[k]'(by omega)) := (cell_of wr _ _ C _ hg).trans (Array.getElem?_eq_getElem (by omega))
      have f0 : wr.frozen? ⟨w.heap.size, k, none⟩ = false := by simp [World.frozen?, hg]
      have k1 := set_heap wr w.heap.size k C _ _ (.string (S k)) hg
      have k2 := bw.setCell (p := ⟨w.heap.size, k, none⟩) (Nat.le_refl _) (.string (S k))
      have KK : Hid ((wr.setCell ⟨w.heap.size, k, none⟩ (.string (S k))).heap[w.heap.size]? = some (.cells (C.setIfInBounds k (.string (S k))) 9 (0, 0))) := k1
      clear k1 c0
      go_wp2_with fail
      refine ⟨⟨k + 1, _, by omega, rfl, k2, KK.out, by simp [hC], fun j hj => ?_⟩, by simp [intOf]; omega⟩
      rw [at_set _ _ _ _ (by omega)]
      by_cases hjk : k = j
      · subst hjk; rw [if_pos rfl]
      · rw [if_neg hjk]; exact HA.out j (by omega)
    · obtain rfl : k = n := by omega
      have hlg : w.heap.size < wr.heap.size := (Array.getElem?_eq_some_iff.1 hg).1
      go_wp2_with fail
      go_ret
      exact ⟨⟨_, rfl, strVs_len S k ▸ (by simp [strVs_len]), .inr ⟨w.heap.size, k, C, rfl, Nat.le_refl _, hg, Nat.le_refl _, by show k ≤ 2 ^ 63 - 1; omega, by omega, take_strVs C k S hC HA.out⟩⟩, bw⟩

set_option maxRecDepth 100000 in
set_option maxHeartbeats 2000000 in
theorem eqStringS_same (v1 v2 : Value) (n : Nat) (S : Nat → ByteArray) (w : World) (hm1 : StrAt w v1 n S) (hm2 : StrAt w v2 n S) :
    Calls Try.prog 26 #[v1, v2] w fun e w' => e = .returned (.bool true) ∧ Below w.heap.size w w' := by
  obtain ⟨o1, cap1, rfl, g1, g1', hc1⟩ := hm1
  obtain ⟨o2, cap2, rfl, g2, g2', hc2⟩ := hm2
  have s1 : cap1 ≤ 9223372036854775807 := g1'.1
  have s2 : cap2 ≤ 9223372036854775807 := g2'.1
  clear g1' g2'
  have HC1 : Hid (∀ j, j < n → ∃ b f : Nat, o1 = some ⟨b, f, none⟩ ∧ b < w.heap.size ∧ w.cell? ⟨b, f + j, none⟩ = some (.string (S j))) := hc1
  have HC2 : Hid (∀ j, j < n → ∃ b f : Nat, o2 = some ⟨b, f, none⟩ ∧ b < w.heap.size ∧ w.cell? ⟨b, f + j, none⟩ = some (.string (S j))) := hc2
  clear hc1 hc2
  go_enter Try.func26, Try.ntmps26
  go_wp2_with fail
  go_loopw [5] (fun i wr => ∃ k : Nat, k ≤ n ∧ i = .int .i64 k ∧ Below w.heap.size w wr) (fun i _ => n - (intOf i).toNat)
  case atStart => exact ⟨0, Nat.zero_le _, rfl, Below.refl _ _⟩
  case round =>
    obtain ⟨k, hk, rfl, bw⟩ := hrel
    by_cases hlt : k < n
    · obtain ⟨b, f, ho, hb, c0⟩ := HC1.out k hlt
      obtain ⟨b2, f2, ho2, hb2, e0⟩ := HC2.out k hlt
      subst ho ho2
      have i1 : (0 : Int) ≤ (k : Int) := by omega
      have i2 : (k : Int) < (n : Int) := by omega
      have d0 := (bw.cell (p := ⟨b, f + k, none⟩) hb).trans c0
      have d1 := (bw.cell (p := ⟨b2, f2 + k, none⟩) hb2).trans e0
      have b1 := bw.drew
      clear c0 e0
      generalize S k = s at *
      go_wp2_with fail
      go_region
      go_wp2_with fail
      refine ⟨⟨k + 1, by omega, rfl, b1⟩, by simp [intOf]; omega⟩
    · obtain rfl : k = n := by omega
      go_wp2_with fail
      go_ret
      exact ⟨rfl, bw⟩

/-- A line, as a value. -/
abbrev lineV (b : Int) (q : Value) (g : Int) (o : Bool) : Value := .agg #[.int .i64 b, q, .int .i64 g, .bool o]

set_option maxRecDepth 100000 in
set_option maxHeartbeats 2000000 in
theorem szLine_any (b g : Int) (o : Bool) (q : Value) (n : Nat) (S : Nat → ByteArray) (w : World) (hm : StrAt w q n S) (hs : ∀ j, j < n → (S j).size ≤ 9223372036854775807) :
    Calls Try.prog 7 #[lineV b q g o, .int .i64 1048576] w fun e w' => (∃ z : Int, e = .returned (.int .i64 z) ∧ (z < 0 ∨ (0 ≤ z ∧ (n : Int) ≤ 1048576 ∧ ∀ j, j < n → ((S j).size : Int) ≤ 1048576))) ∧ Below w.heap.size w w' := by
  have b0 := below_alloc w (.cells #[.int .i64 b, q, .int .i64 g, .bool o] 24)
  have hm1 := hm.below b0
  have c := szStringS_any q n S 1048576 _ (by omega) (by omega) hm1 hs
  obtain ⟨o1, cap1, rfl⟩ := hm.shape
  clear hm hm1 hs
  go_enter Try.func7, Try.ntmps7
  go_wp2_with fail
  go_fit c
  rintro e w1 ⟨⟨z, rfl, hz⟩, rfl⟩
  rcases hz with hz | ⟨hz0, hz1, hz2, hz3⟩
  · go_wp2_with fail
    go_ret
    exact ⟨⟨-1, rfl, .inl (by omega)⟩, b0⟩
  · have hz' : ¬ z < 0 := by omega
    have HZ : Hid (∀ j, j < n → ((S j).size : Int) ≤ 1048576) := hz3
    clear hz3 c
    go_wp2_with fail
    go_ret
    exact ⟨⟨z, rfl, .inr ⟨hz0, hz2, HZ.out⟩⟩, b0⟩

set_option maxRecDepth 100000 in
set_option maxHeartbeats 2000000 in
theorem eqLine_same (b g : Int) (o : Bool) (q1 q2 : Value) (n : Nat) (S : Nat → ByteArray) (w : World) (hm1 : StrAt w q1 n S) (hm2 : StrAt w q2 n S) :
    Calls Try.prog 11 #[lineV b q1 g o, lineV b q2 g o] w fun e w' => e = .returned (.bool true) ∧ Below w.heap.size w w' := by
  have b0 := (below_alloc w (.cells #[.int .i64 b, q1, .int .i64 g, .bool o] 27)).trans ((below_alloc (w.alloc (.cells #[.int .i64 b, q1, .int .i64 g, .bool o] 27)) (.cells #[.int .i64 b, q2, .int .i64 g, .bool o] 27)).mono (by simp))
  have c := eqStringS_same q1 q2 n S _ (hm1.below b0) (hm2.below b0)
  obtain ⟨o1, cap1, rfl⟩ := hm1.shape
  obtain ⟨o2, cap2, rfl⟩ := hm2.shape
  clear hm1 hm2
  have CC : Hid (∀ W : World, Below (w.heap.size + 1 + 1) ((w.alloc (.cells #[.int .i64 b, .slice o1 n cap1, .int .i64 g, .bool o] 27)).alloc (.cells #[.int .i64 b, .slice o2 n cap2, .int .i64 g, .bool o] 27)) W → W.cell? ⟨w.heap.size, 2, none⟩ = some (.int .i64 g) ∧ W.cell? ⟨w.heap.size, 3, none⟩ = some (.bool o) ∧ W.cell? ⟨w.heap.size + 1, 2, none⟩ = some (.int .i64 g) ∧ W.cell? ⟨w.heap.size + 1, 3, none⟩ = some (.bool o)) := fun W bb =>
    ⟨(bb.cell (p := ⟨w.heap.size, 2, none⟩) (by show w.heap.size < _; omega)).trans (by simp [go_sem]), (bb.cell (p := ⟨w.heap.size, 3, none⟩) (by show w.heap.size < _; omega)).trans (by simp [go_sem]), (bb.cell (p := ⟨w.heap.size + 1, 2, none⟩) (by show w.heap.size + 1 < _; omega)).trans (by simp [go_sem]), (bb.cell (p := ⟨w.heap.size + 1, 3, none⟩) (by show w.heap.size + 1 < _; omega)).trans (by simp [go_sem])⟩
  go_enter Try.func11, Try.ntmps11
  go_wp2_with fail
  go_fit c
  rintro e w1 ⟨rfl, b1⟩
  have b2 := b0.trans (b1.mono b0.size)
  simp at b1
  obtain ⟨x1, x2, x3, x4⟩ := CC.out w1 b1
  have hoo : (o != o) = false := bne_self_eq_false o
  clear c b0 b1
  go_wp2_with fail
  go_ret
  exact ⟨rfl, b2⟩

set_option maxRecDepth 100000 in
set_option maxHeartbeats 2000000 in
theorem toLine_any (b g : Int) (o : Bool) (q : Value) (n : Nat) (S : Nat → ByteArray) (w : World) (hm : StrAt w q n S) (hn : n ≤ 1048576) :
    Calls Try.prog 9 #[lineV b q g o] w fun e w' => (∃ q', e = .returned (lineV b q' g o) ∧ Own w' w.heap.size q' n S) ∧ Below w.heap.size w w' := by
  obtain ⟨o1, cap1, rfl⟩ := hm.shape
  obtain ⟨B, hB⟩ : ∃ B, B = w.heap.size := ⟨_, rfl⟩
  go_enter Try.func9, Try.ntmps9
  go_wp2_with fail
  obtain ⟨WA, hWA⟩ : ∃ WA, WA = ((w.alloc (.cells #[.int .i64 b, .slice o1 n cap1, .int .i64 g, .bool o] 24)).alloc (.cells #[.int .i64 0, .slice none 0 0, .int .i64 0, .bool false] 27)).alloc (.cells #[.int .i64 b, .slice none 0 0, .int .i64 0, .bool false] 27) := ⟨_, rfl⟩
  have bA : Below w.heap.size w WA := by rw [hWA]; exact (((Below.refl _ w).alloc (Nat.le_refl _) _).alloc (by simp) _).alloc (by simp; omega) _
  have sA : WA.heap.size = B + 3 := by rw [hWA, hB]; simp
  have a0 : WA.heap[B]? = some (.cells #[.int .i64 b, .slice o1 n cap1, .int .i64 g, .bool o] 24 (0, 0)) := by
    rw [hWA, hB, Below.heap_alloc _ _ _ (by simp; omega), Below.heap_alloc _ _ _ (by simp)]; exact World.alloc_heap_new w _
  have a2 : WA.heap[B + 1 + 1]? = some (.cells #[.int .i64 b, .slice none 0 0, .int .i64 0, .bool false] 27 (0, 0)) := by
    rw [hWA, hB]
    have := World.alloc_heap_new ((w.alloc (.cells #[.int .i64 b, .slice o1 n cap1, .int .i64 g, .bool o] 24)).alloc (.cells #[.int .i64 0, .slice none 0 0, .int .i64 0, .bool false] 27)) (.cells #[.int .i64 b, .slice none 0 0, .int .i64 0, .bool false] 27)
    simpa using this
  have a1 : WA.heap[B + 1]? = some (.cells #[.int .i64 0, .slice none 0 0, .int .i64 0, .bool false] 27 (0, 0)) := by
    rw [hWA, hB, Below.heap_alloc _ _ _ (by simp)]
    have := World.alloc_heap_new (w.alloc (.cells #[.int .i64 b, .slice o1 n cap1, .int .i64 g, .bool o] 24)) (.cells #[.int .i64 0, .slice none 0 0, .int .i64 0, .bool false] 27)
    simpa using this
  have cT := toStringS_any _ n S WA (hm.below bA) hn
  rw [← hWA, ← hB]
  rw [← hB] at bA
  have HB : Hid (B = w.heap.size) := hB
  clear hWA hm hB
  go_fit cT
  rintro e w1 ⟨⟨v1, rfl, hm1⟩, b1⟩
  obtain ⟨o3, c3, rfl⟩ := hm1.shape
  have s1 := b1.size
  have e0 := (b1.block B (by omega)).trans a0
  have e1 := (b1.block (B + 1) (by omega)).trans a1
  have e2 := (b1.block (B + 1 + 1) (by omega)).trans a2
  have cA := bA.trans (b1.mono (by omega))
  clear a0 a1 a2 b1 bA cT
  have HM : Hid (Own w1 WA.heap.size (.slice o3 n c3) n S) := hm1
  clear hm1
  have l2 : w1.cell? ⟨B, 2, none⟩ = some (.int .i64 g) := cell_of w1 _ _ _ _ e0
  have l3 : w1.cell? ⟨B, 3, none⟩ = some (.bool o) := cell_of w1 _ _ _ _ e0
  have m0 : w1.cell? ⟨B + 1, 0, none⟩ = some (.int .i64 0) := cell_of w1 _ _ _ _ e1
  have m1 : w1.cell? ⟨B + 1, 1, none⟩ = some (.slice none 0 0) := cell_of w1 _ _ _ _ e1
  have m2 : w1.cell? ⟨B + 1, 2, none⟩ = some (.int .i64 0) := cell_of w1 _ _ _ _ e1
  have m3 : w1.cell? ⟨B + 1, 3, none⟩ = some (.bool false) := cell_of w1 _ _ _ _ e1
  have n0 : w1.cell? ⟨B + 1 + 1, 0, none⟩ = some (.int .i64 b) := cell_of w1 _ _ _ _ e2
  have n1 : w1.cell? ⟨B + 1 + 1, 1, none⟩ = some (.slice none 0 0) := cell_of w1 _ _ _ _ e2
  have n2 : w1.cell? ⟨B + 1 + 1, 2, none⟩ = some (.int .i64 0) := cell_of w1 _ _ _ _ e2
  have n3 : w1.cell? ⟨B + 1 + 1, 3, none⟩ = some (.bool false) := cell_of w1 _ _ _ _ e2
  have f1 : ∀ i, w1.frozen? ⟨B + 1, i, none⟩ = false := fun i => by simp [World.frozen?, e1]
  have f2 : ∀ i, w1.frozen? ⟨B + 1 + 1, i, none⟩ = false := fun i => by simp [World.frozen?, e2]
  go_wp2_with fail
  have sA' : B + 1 + 1 < WA.heap.size := by omega
  have hp2 : ∀ (i : Nat), (⟨B + 1 + 1, i, none⟩ : Addr).block < WA.heap.size := fun i => sA'
  have hp1 : ∀ (i : Nat), (⟨B + 1, i, none⟩ : Addr).block < WA.heap.size := fun i => by show B + 1 < _; omega
  have q2 : ∀ (i : Nat), B ≤ (⟨B + 1 + 1, i, none⟩ : Addr).block := fun i => by show B ≤ B + 1 + 1; omega
  have q1 : ∀ (i : Nat), B ≤ (⟨B + 1, i, none⟩ : Addr).block := fun i => by show B ≤ B + 1; omega
  have st := ((((((HM.out.set _ (.slice o3 n c3) (hp2 1)).set _ (.int .i64 g) (hp2 2)).set _ (.bool o) (hp2 3)).set _ (.int .i64 b) (hp1 0)).set _ (.slice o3 n c3) (hp1 1)).set _ (.int .i64 g) (hp1 2)).set _ (.bool o) (hp1 3)
  have bl := ((((((cA.setCell (q2 1) (.slice o3 n c3)).setCell (q2 2) (.int .i64 g)).setCell (q2 3) (.bool o)).setCell (q1 0) (.int .i64 b)).setCell (q1 1) (.slice o3 n c3)).setCell (q1 2) (.int .i64 g)).setCell (q1 3) (.bool o)
  refine bodyPost_ret (v := lineV b (.slice o3 n c3) g o) (by simp [results, Try.results9, go_sem, m0, m1, m2, m3]) rfl ⟨⟨_, rfl, st.mono (by rw [← HB.out]; omega)⟩, ?_⟩
  · rw [← HB.out]; exact bl
end Go.Proofs.Ytpicccdlaiaemab.Hub
