/-
  What the laws' own draws give: at every slice of bytes the reader picks a number below the bound that is asked for; so a drawn text is one of a list's. Nothing is said of which.
-/
import Derived.Test.YtlonpaigfalbkaaDoorProg
import Derived.Lib.Zigzag
import Derived.WalkKit
import Derived.ProofKit
import Derived.OpenShut
import Derived.WalkLawsBesides
import Derived.WalkSpells
import Derived.Laws.BytesArg
import Derived.ChangeSlices
import Derived.RangeFuncNested
namespace Go.Proofs.YtlonpaigfalbkaaDoor.Hub
open Go.RowKit
set_option linter.unusedVariables false

/-- A slice of n bytes, that lie in a block below n₀. -/
def BytesAt (n₀ : Nat) (W : World) (v : Value) (n : Nat) : Prop :=
  (∃ o cap, v = .slice o 0 cap ∧ n = 0) ∨ ∃ b off cap : Nat, v = .slice (some ⟨b, off, none⟩) n cap ∧ n ≤ cap ∧ b < n₀ ∧ ∀ i, i < n → ∃ z : Nat, z < 256 ∧ W.cell? ⟨b, off + i, none⟩ = some (.int .u8 z)
theorem BytesAt.below {n₀ n : Nat} {W W' : World} {v : Value} (h : BytesAt n₀ W v n) (hb : Below n₀ W W') : BytesAt n₀ W' v n := by
  rcases h with h | ⟨b, off, cap, hv, hc, hlt, hz⟩
  · exact .inl h
  · exact .inr ⟨b, off, cap, hv, hc, hlt, fun i hi => by obtain ⟨z, h1, h2⟩ := hz i hi; exact ⟨z, h1, (hb.cell (p := ⟨b, off + i, none⟩) hlt).trans h2⟩⟩
/-- A reader at the place p. -/
def Rd (n₀ : Nat) (W : World) (B p : Nat) : Prop := n₀ ≤ B ∧ ∃ v n, BytesAt n₀ W v n ∧ n ≤ 2000 ∧ W.heap[B]? = some (.cells #[v, .int .i64 p] 39 (0, 0))
theorem Rd.step {n₀ B p : Nat} {W : World} (h : Rd n₀ W B p) : Rd n₀ (W.setCell ⟨B, 1, none⟩ (.int .i64 ((p + 1 : Nat) : Int))) B (p + 1) := by
  obtain ⟨hB, v, n, hv, hn, hh⟩ := h
  refine ⟨hB, v, n, hv.below ((Below.refl n₀ W).setCell (p := ⟨B, 1, none⟩) hB _), hn, ?_⟩
  obtain ⟨hlt, hk⟩ := Array.getElem?_eq_some_iff.1 hh
  show (W.heap.modify B _)[B]? = _
  rw [Array.getElem?_eq_getElem (by rw [Array.size_modify]; exact hlt), Array.getElem_modify_self, hk]
  rfl
theorem Rd.alloc {n₀ B p : Nat} {W : World} (h : Rd n₀ W B p) (hn : n₀ ≤ W.heap.size) (o : Obj) : Rd n₀ (W.alloc o) B p := by
  obtain ⟨hB, v, n, hv, hnn, hh⟩ := h
  exact ⟨hB, v, n, hv.below ((Below.refl n₀ W).alloc hn o), hnn, (Below.heap_alloc W o B (Array.getElem?_eq_some_iff.1 hh).1).trans hh⟩

theorem grownBy_setCell1 (W : World) (B : Nat) (v : Value) (k : Nat) (hk : k ≠ B) : (W.setCell ⟨B, 1, none⟩ v).heap[k]? = W.heap[k]? := by
  show (W.heap.modify B _)[k]? = _
  rw [Array.getElem?_modify, if_neg (fun e => hk e.symm)]
theorem Rd.drew {n₀ B p : Nat} {W : World} (h : Rd n₀ W B p) : Rd n₀ W.drew B p := h

theorem xor_i64_nat (a b : Nat) (ha : a < 2 ^ 62) (hb : b < 2 ^ 62) : bits .xor .i64 (a : Int) (b : Int) = ((a ^^^ b : Nat) : Int) := by
  have hx : a ^^^ b < 2 ^ 62 := Nat.xor_lt_two_pow ha hb
  show IntKind.i64.wrap ((BitVec.ofInt 64 (a : Int) ^^^ BitVec.ofInt 64 (b : Int)).toNat : Int) = _
  have h1 : (BitVec.ofInt 64 (a : Int)).toNat = a := by
    rw [BitVec.ofInt_natCast, BitVec.toNat_ofNat]; exact Nat.mod_eq_of_lt (by omega)
  have h2 : (BitVec.ofInt 64 (b : Int)).toNat = b := by
    rw [BitVec.ofInt_natCast, BitVec.toNat_ofNat]; exact Nat.mod_eq_of_lt (by omega)
  rw [BitVec.toNat_xor, h1, h2, IntKind.wrap_i64]
  omega
theorem pick_num (z y p n m : Nat) (hz : z < 256) (hy : y < 256) (hp : p ≤ 100000) (hm : 1 ≤ m) :
    ∃ k : Nat, k < m ∧ (bits BinOp.xor IntKind.i64 (wrap64 (↑z * 131 + ↑y * 1117 + ↑p * 29 + wrap64 (wrap64 (↑p / ↑n) * 53)))
                  (wrap64 ((wrap64 (↑z * 131 + ↑y * 1117 + ↑p * 29 + wrap64 (wrap64 (↑p / ↑n) * 53))).tdiv 64))).tmod ↑m = (k : Int) := by
  have w1 : ∀ x : Int, 0 ≤ x → x < 2 ^ 62 → wrap64 x = x := fun x h1 h2 => by unfold wrap64; omega
  obtain ⟨d, hd, q⟩ : ∃ d : Nat, d ≤ p ∧ (p : Int) / (n : Int) = (d : Int) := ⟨p / n, Nat.div_le_self _ _, (Int.natCast_ediv p n).symm⟩
  rw [q, w1 (d : Int) (by omega) (by omega), w1 ((d : Int) * 53) (by omega) (by omega)]
  obtain ⟨X, hX⟩ : ∃ X : Nat, (z : Int) * 131 + y * 1117 + p * 29 + (d : Int) * 53 = (X : Int) := ⟨z * 131 + y * 1117 + p * 29 + d * 53, by omega⟩
  rw [hX, w1 (X : Int) (by omega) (by omega)]
  obtain ⟨Y, hY, t⟩ : ∃ Y : Nat, Y ≤ X ∧ (X : Int).tdiv 64 = (Y : Int) := ⟨X / 64, Nat.div_le_self _ _, by rw [Int.tdiv_eq_ediv_of_nonneg (by omega)]; exact (Int.natCast_ediv X 64).symm⟩
  rw [t, w1 (Y : Int) (by omega) (by omega), xor_i64_nat X Y (by omega) (by omega)]
  refine ⟨(X ^^^ Y) % m, Nat.mod_lt _ (by omega), ?_⟩
  rw [Int.tmod_eq_emod_of_nonneg (Int.natCast_nonneg _)]
  exact (Int.natCast_emod _ _).symm

set_option maxHeartbeats 1000000 in
theorem open_any (v : Value) (n : Nat) (w : World) (h : BytesAt w.heap.size w v n) :
    Calls Tryd.prog 8 #[v] w fun e w' => e = .returned (.pointer (some ⟨w.heap.size, 0, none⟩)) ∧ Rd w.heap.size w' w.heap.size 0 ∧ Below w.heap.size w w' := by
  have hb := h
  rcases h with ⟨o, cap, rfl, rfl⟩ | ⟨b, off, cap, rfl, hc, hlt, hz⟩
  · go_enter Tryd.func8, Tryd.ntmps8
    go_wp2_with fail
    go_ret
    refine ⟨rfl, ⟨Nat.le_refl _, _, 0, .inl ⟨_, _, rfl, rfl⟩, by omega, World.alloc_heap_new _ _⟩, (Below.refl _ w).alloc (Nat.le_refl _) _⟩
  · by_cases h2 : n ≤ 2000
    · have hh : ¬ (2000 : Int) < (n : Int) := by omega
      go_enter Tryd.func8, Tryd.ntmps8
      go_wp2_with fail
      go_ret
      refine ⟨rfl, ⟨Nat.le_refl _, _, n, hb.below ((Below.refl _ w).alloc (Nat.le_refl _) _), h2, World.alloc_heap_new _ _⟩, (Below.refl _ w).alloc (Nat.le_refl _) _⟩
    · have hh : (2000 : Int) < (n : Int) := by omega
      go_enter Tryd.func8, Tryd.ntmps8
      go_wp2_with fail
      go_ret
      refine ⟨rfl, ⟨Nat.le_refl _, _, 2000, .inr ⟨b, off, cap, rfl, by omega, hlt, fun i hi => ?_⟩, Nat.le_refl _, World.alloc_heap_new _ _⟩, (Below.refl _ w).alloc (Nat.le_refl _) _⟩
      obtain ⟨z, h3, h4⟩ := hz i (by omega)
      exact ⟨z, h3, (((Below.refl _ w).alloc (Nat.le_refl _) _).cell (p := ⟨b, off + i, none⟩) hlt).trans h4⟩

set_option maxHeartbeats 1000000 in
theorem pick_any (n₀ B p m : Nat) (hp : p ≤ 100000) (hm : 1 ≤ m) (hm2 : m ≤ 100000) (w : World) (h : Rd n₀ w B p) :
    Calls Tryd.prog 16 #[.pointer (some ⟨B, 0, none⟩), .int .i64 (m : Int)] w fun e w' => (∃ k : Nat, k < m ∧ e = .returned (.int .i64 (k : Int))) ∧ (w' = w.setCell ⟨B, 1, none⟩ (.int .i64 ((p + 1 : Nat) : Int)) ∨ w' = (w.setCell ⟨B, 1, none⟩ (.int .i64 ((p + 1 : Nat) : Int))).drew) := by
  obtain ⟨hB, v, n, hv, hn, hh⟩ := h
  have c0 : w.cell? ⟨B, 0, none⟩ = some v := by simp [World.cell?, hh]
  have c1 : w.cell? ⟨B, 1, none⟩ = some (.int .i64 (p : Int)) := by simp [World.cell?, hh]
  have f1 : w.frozen? ⟨B, 1, none⟩ = false := by simp [World.frozen?, hh]
  have hm1 : ¬ (m : Int) < 1 := by omega
  rcases hv with ⟨o, cap, rfl, rfl⟩ | ⟨b, off, cap, rfl, hc, hlt, hz⟩
  · go_enter Tryd.func16, Tryd.ntmps16
    go_wp2_with fail
    go_ret
    exact ⟨⟨0, by omega, rfl⟩, .inl (by go_num)⟩
  · by_cases hn0 : n = 0
    · subst hn0
      go_enter Tryd.func16, Tryd.ntmps16
      go_wp2_with fail
      go_ret
      exact ⟨⟨0, by omega, rfl⟩, .inl (by go_num)⟩
    · have hbB : b ≠ B := by omega
      by_cases hpn : p < n
      · obtain ⟨z, hz1, hz2⟩ := hz p hpn
        go_enter Tryd.func16, Tryd.ntmps16
        go_wp2_with fail
        go_ret
        exact ⟨⟨z % m, Nat.mod_lt _ (by omega), by go_num⟩, .inl (by go_num)⟩
      · have i1 : p % n < n := Nat.mod_lt _ (by omega)
        have i2 : (p * 7 + 3) % n < n := Nat.mod_lt _ (by omega)
        obtain ⟨z, hz1, hz2⟩ := hz (p % n) i1
        obtain ⟨y, hy1, hy2⟩ := hz ((p * 7 + 3) % n) i2
        have hq : p / n ≤ p := Nat.div_le_self _ _
        have e2 : ((p : Int) * 7 + 3) % (n : Int) = (((p * 7 + 3) % n : Nat) : Int) := by push_cast; rfl
        have j0 : 0 ≤ ((p : Int) * 7 + 3) % (n : Int) := by rw [e2]; omega
        have j1 : ((p : Int) * 7 + 3) % (n : Int) < (n : Int) := by rw [e2]; omega
        clear e2 hz
        go_enter Tryd.func16, Tryd.ntmps16
        go_wp2_with fail
        go_region
        go_wp2_with fail
        go_ret
        obtain ⟨k, hk, hke⟩ := pick_num z y p n m hz1 hy1 hp hm
        exact ⟨⟨k, hk, by rw [hke]; rfl⟩, .inr (by go_num)⟩

/-- What a round of the reader leaves: the reader a place on, every other block as it lay. -/
def Stepped (B : Nat) (W W' : World) : Prop := W'.heap.size = W.heap.size ∧ Below B W W' ∧ ∀ k, k ≠ B → W'.heap[k]? = W.heap[k]?
theorem stepped_of {n₀ B p : Nat} {W W' : World} (h : Rd n₀ W B p) (e : W' = W.setCell ⟨B, 1, none⟩ (.int .i64 ((p + 1 : Nat) : Int)) ∨ W' = (W.setCell ⟨B, 1, none⟩ (.int .i64 ((p + 1 : Nat) : Int))).drew) : Rd n₀ W' B (p + 1) ∧ Stepped B W W' := by
  have b := (Below.refl B W).setCell (p := ⟨B, 1, none⟩) (Nat.le_refl _) (.int .i64 ((p + 1 : Nat) : Int))
  have g := grownBy_setCell1 W B (.int .i64 ((p + 1 : Nat) : Int))
  rcases e with rfl | rfl
  · exact ⟨h.step, by simp [World.setCell], b, g⟩
  · exact ⟨h.step.drew, by simp [World.setCell, World.drew], b.drew, g⟩

end Go.Proofs.YtlonpaigfalbkaaDoor.Hub
