/-
  A list of texts as it lies in memory; the law's own szStringS, toStringS, eqStringS, szLine, toLine, eqLine.
-/
import Derived.Test.YtkmagkpieihcgaaProg
import Derived.WalkKit
import Derived.ProofKit
import Derived.OpenShut
import Derived.WalkLawsBesides
import Derived.WalkSpells
import Derived.Laws.MakeOwn
import Derived.OrdersHeld
import Derived.Lib.Zigzag
import Derived.OwnWalk
import Derived.Laws.OwnMore
import Derived.RangeFuncNested
import Derived.Deep.DeepFit
import Derived.Deep.RegionHeld3
namespace Go.Proofs.Ytkmagkpieihcgaa.Hub
open Go.RowKit
set_option linter.unusedVariables false

theorem below_alloc (w : World) (o : Obj) : Below w.heap.size w (w.alloc o) := (Below.refl _ w).alloc (Nat.le_refl _) _
/-- A slice of n texts, S of each place. -/
def StrAt (W : World) (v : Value) (n : Nat) (S : Nat → ByteArray) : Prop :=
  ∃ o cap, v = .slice o n cap ∧ n ≤ cap ∧ (cap ≤ maxLen ∧ (o = none → cap = 0)) ∧ ∀ j, j < n → ∃ b f : Nat, o = some ⟨b, f, none⟩ ∧ b < W.heap.size ∧ W.cell? ⟨b, f + j, none⟩ = some (.string (S j))
theorem StrAt.below {W W' : World} {v : Value} {n : Nat} {S : Nat → ByteArray} (h : StrAt W v n S) (hb : Below W.heap.size W W') : StrAt W' v n S := by
  obtain ⟨o, cap, hv, h1, h2, hc⟩ := h
  refine ⟨o, cap, hv, h1, h2, fun j hj => ?_⟩
  obtain ⟨b, f, ho, hB, c0⟩ := hc j hj
  exact ⟨b, f, ho, Nat.lt_of_lt_of_le hB hb.size, (hb.cell (p := ⟨b, f + j, none⟩) hB).trans c0⟩
theorem StrAt.nil (W : World) (S : Nat → ByteArray) : StrAt W (.slice none 0 0) 0 S := ⟨none, 0, rfl, Nat.le_refl _, ⟨Nat.zero_le _, fun _ => rfl⟩, fun j hj => absurd hj (by omega)⟩
theorem StrAt.shape {W : World} {v : Value} {n : Nat} {S : Nat → ByteArray} (h : StrAt W v n S) : ∃ o cap, v = .slice o n cap := by
  obtain ⟨o, cap, hv, _⟩ := h; exact ⟨o, cap, hv⟩
/-- A slice lies in a block from B on, or nowhere. -/
def FromB (B : Nat) (v : Value) : Prop := ∀ (a : Addr) (l c : Nat), v = .slice (some a) l c → B ≤ a.block
theorem setO (W : World) (p q : Addr) (x : Value) (h : p ≠ q) : (W.setCell p x).cell? q = W.cell? q := by
  rw [World.cell?_setCell_other]
  exact h
theorem StrAt.set {W : World} {v : Value} {n : Nat} {S : Nat → ByteArray} (h : StrAt W v n S) {B : Nat} (hf : FromB B v) (p : Addr) (x : Value) (hp : p.block < B) : StrAt (W.setCell p x) v n S := by
  obtain ⟨o, cap, hv, h1, h2, hc⟩ := h
  refine ⟨o, cap, hv, h1, h2, fun j hj => ?_⟩
  obtain ⟨b, f, ho, hB, c0⟩ := hc j hj
  have hb : B ≤ b := hf ⟨b, f, none⟩ n cap (by rw [hv, ho])
  have ne : ∀ i, p ≠ (⟨b, i, none⟩ : Addr) := fun i e => by rw [e] at hp; simp at hp; omega
  exact ⟨b, f, ho, Nat.lt_of_lt_of_le hB ((Below.refl 0 W).setCell (Nat.zero_le _) x).size, (setO W p _ x (ne _)).trans c0⟩
theorem make_many (t e : TypeId) (z : Value) (c bytes : Nat) (ht : Try.prog.underlying t = some (.slice e)) (hinfo : (Try.prog.info? e).map (fun i => (i.zero, i.size, i.bytes)) = some (some z, c, bytes)) (n : Nat) (hb : bytes * n ≤ 281474976710656) (h63 : n ≤ 9223372036854775807) (w : World) :
    (Instr.makeSlice t (.int .i64 (n : Int)) (.int .i64 (n : Int))).run Try.prog w = .ok (.slice (some ⟨w.heap.size, 0, none⟩) n n) (w.alloc (.cells (madeCells z.cells (n * c)) e)) := by
  obtain ⟨i, hi, hzz⟩ := Option.map_eq_some_iff.1 hinfo
  simp only [Prod.mk.injEq] at hzz
  obtain ⟨hz, hs, hbb⟩ := hzz
  have hb' : (i.bytes : Int) * (n : Int) ≤ 281474976710656 := by
    have h : ((i.bytes * n : Nat) : Int) ≤ 281474976710656 := by rw [hbb]; omega
    rwa [Int.natCast_mul] at h
  have := run_make (P := Try.prog) w t e i z ht hi hz .i64 .i64 n n (by omega) (Int.le_refl _) hb' (by omega)
  rw [this, hs]
  simp
theorem set_heap (w : World) (g i : Nat) (cur : Array Value) (t : TypeId) (fr : Nat × Nat) (v : Value) (hg : w.heap[g]? = some (.cells cur t fr)) : (w.setCell ⟨g, i, none⟩ v).heap[g]? = some (.cells (cur.setIfInBounds i v) t fr) := by
  rw [setCell_eq_setRow w g i cur t fr v hg]
  exact setRow_heap w g cur _ t fr hg
theorem at_set (C : Array Value) (i j : Nat) (v : Value) (h : i < C.size) : (C.setIfInBounds i v)[j]? = if i = j then some v else C[j]? := by
  rw [Array.getElem?_setIfInBounds]
  split
  · rename_i e; subst e; simp
  · rfl
theorem cell_of (w : World) (g i : Nat) (C : Array Value) (t : TypeId) (hg : w.heap[g]? = some (.cells C t (0, 0))) : w.cell? ⟨g, i, none⟩ = C[i]? := by
  simp [World.cell?, hg]
theorem line_cell (w : World) (C : Array Value) (t : TypeId) (i : Nat) : (w.alloc (.cells C t)).cell? ⟨w.heap.size, i, none⟩ = C[i]? := by
  simp [go_sem]

def strVs (S : Nat → ByteArray) (n : Nat) : List Value := (List.range n).map fun j => .string (S j)
theorem strVs_succ (S : Nat → ByteArray) (n : Nat) : strVs S (n + 1) = strVs S n ++ [.string (S n)] := by simp [strVs, List.range_succ]
theorem strVs_len (S : Nat → ByteArray) (n : Nat) : (strVs S n).length = n := by simp [strVs]
theorem strVs_at (S : Nat → ByteArray) (n j : Nat) (h : j < n) : (strVs S n)[j]? = some (.string (S j)) := by simp [strVs, h]
/-- A new list of n texts, in a block from base on. -/
def Own (W : World) (base : Nat) (v : Value) (n : Nat) (S : Nat → ByteArray) : Prop := W.ownsRow base 9 1 v n (strVs S n)
theorem Own.nil (W : World) (base : Nat) (S : Nat → ByteArray) : Own W base (.slice none 0 0) 0 S := ⟨rfl, .inl ⟨rfl, rfl⟩⟩
theorem Own.strAt {W : World} {base : Nat} {v : Value} {n : Nat} {S : Nat → ByteArray} (h : Own W base v n S) : StrAt W v n S := by
  have hh := h
  rcases h.2 with ⟨rfl, rfl⟩ | ⟨g, cap, cur, rfl, hb, hg, hn, hm, hc, ht⟩
  · exact StrAt.nil _ _
  · refine ⟨some ⟨g, 0, none⟩, cap, rfl, hn, ⟨hm, fun e => by cases e⟩, fun j hj => ⟨g, 0, rfl, (Array.getElem?_eq_some_iff.1 hg).1, ?_⟩⟩
    rw [Nat.zero_add, World.ownsRow.cellAt (w := W) (base := base) (e := 9) (size := 1) (cap := cap) (n := n) hh j (by omega)]
    exact strVs_at S n j hj
theorem Own.fromB {W : World} {base : Nat} {v : Value} {n : Nat} {S : Nat → ByteArray} (h : Own W base v n S) : FromB base v := by
  rcases h.2 with ⟨rfl, rfl⟩ | ⟨g, cap, cur, rfl, hb, hg, hn, hm, hc, ht⟩
  · intro a l c e; injection e with e; cases e
  · intro a l c e; injection e with e; injection e with e; rw [← e]; exact hb
theorem Own.mono {W : World} {base base' : Nat} {v : Value} {n : Nat} {S : Nat → ByteArray} (h : Own W base v n S) (hb : base' ≤ base) : Own W base' v n S := by
  refine ⟨h.1, ?_⟩
  rcases h.2 with h2 | ⟨g, cap, cur, hv, hb2, rest⟩
  · exact .inl h2
  · exact .inr ⟨g, cap, cur, hv, by omega, rest⟩
theorem Own.below {W W' : World} {base : Nat} {v : Value} {n : Nat} {S : Nat → ByteArray} (h : Own W base v n S) (hb : Below W.heap.size W W') : Own W' base v n S := by
  refine ⟨h.1, ?_⟩
  rcases h.2 with h2 | ⟨g, cap, cur, hv, hb2, hg, rest⟩
  · exact .inl h2
  · exact .inr ⟨g, cap, cur, hv, hb2, (hb.block g (Array.getElem?_eq_some_iff.1 hg).1).trans hg, rest⟩
theorem Own.shape {W : World} {base : Nat} {v : Value} {n : Nat} {S : Nat → ByteArray} (h : Own W base v n S) : ∃ o cap, v = .slice o n cap := h.strAt.shape
theorem Own.set {W : World} {base : Nat} {v : Value} {n : Nat} {S : Nat → ByteArray} (h : Own W base v n S) (p : Addr) (x : Value) (hp : p.block < base) : Own (W.setCell p x) base v n S := by
  refine ⟨h.1, ?_⟩
  rcases h.2 with h2 | ⟨g, cap, cur, hv, hb2, hg, rest⟩
  · exact .inl h2
  · exact .inr ⟨g, cap, cur, hv, hb2, (Below.heap_setCell _ _ _ _ (by omega)).trans hg, rest⟩
theorem take_strVs (C : Array Value) (n : Nat) (S : Nat → ByteArray) (hC : C.size = n) (h : ∀ j, j < n → C[j]? = some (.string (S j))) : C.toList.take (n * 1) = strVs S n := by
  apply List.ext_getElem?
  intro j
  rw [Nat.mul_one, List.getElem?_take]
  by_cases hj : j < n
  · rw [if_pos hj, Array.getElem?_toList, h j hj, strVs_at S n j hj]
  · rw [if_neg hj, List.getElem?_eq_none (by rw [strVs_len]; omega)]

/-- A line, as a value. -/
abbrev lineV (b : Int) (q : Value) (g : Int) (o : Bool) : Value := .agg #[.int .i64 b, q, .int .i64 g, .bool o]

end Go.Proofs.Ytkmagkpieihcgaa.Hub
