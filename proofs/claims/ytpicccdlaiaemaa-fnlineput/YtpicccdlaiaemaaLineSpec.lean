/-
  The model's l9Copy, l9Heard, LineHeard, l9Put, LinePut; the law's own markLine and heldLine.
-/
import Derived.Test.YtpicccdlaiaemaaLineSent
import Derived.Test.YtpicccdlaiaemaaMarks
import Derived.Laws.AppendOwnNone
import Derived.Maps.AppendAt
namespace Go.Proofs.Ytpicccdlaiaemaa.Hub
open Go.RowKit
set_option linter.unusedVariables false

theorem grown_below {w w' : World} (h : Below w.heap.size w w') (row : Option Nat) : w.grownBy w' row := ⟨h.os, h.tape, h.output, h.size, fun k hk _ => h.block k hk⟩
/-- What is written into a block from B on alone leaves all below B as it was. -/
theorem below_grown {w w' : World} {row : Option Nat} {B : Nat} (h : w.grownBy w' row) (hB : B ≤ w.heap.size) (hr : ∀ k, row = some k → B ≤ k) : Below B w w' :=
  ⟨h.os, h.tape, h.output, h.size, fun k hk => h.block k (by omega) (fun e => by have := hr k e.symm; omega)⟩
theorem Own.row {W : World} {base : Nat} {v : Value} {n : Nat} {S : Nat → ByteArray} (h : Own W base v n S) : ∀ k, v.ownBlock = some k → base ≤ k ∧ k < W.heap.size := World.ownsRow.lt h
theorem Own.kept {W W' : World} {base : Nat} {v : Value} {n : Nat} {S : Nat → ByteArray} {row : Option Nat} (h : Own W base v n S) (hg : W.grownBy W' row) (hr : ∀ k, row = some k → k < base) : Own W' base v n S := by
  refine World.ownsRow.kept h hg ?_
  cases hv : v.ownBlock with
  | none => exact .inl rfl
  | some k =>
    right
    intro e
    have h1 := (h.row k hv).1
    have h2 := hr k e.symm
    omega

theorem info_text : (Try.prog.info? 9).map (fun i => (i.zero, i.size, i.bytes)) = some (some (.string ⟨#[]⟩), 1, 16) := by kernel_rfl

theorem copy_aux {w WA w1 : World} {v' : Value} {n : Nat} {S : Nat → ByteArray} {X Y : Array Value} {tx ty : TypeId} (hown1 : w1.ownsRow (w.heap.size + 1 + 1 + 1) 9 1 v' (0 + n) ([] ++ strVs S n)) (hgrow : WA.grownBy w1 (Value.ownBlock (.slice (some ⟨w.heap.size + 1 + 1 + 1, 0, none⟩) 0 0)))
    (A1 : WA.heap[w.heap.size + 1]? = some (.cells X tx (0, 0))) (A2 : WA.heap[w.heap.size + 1 + 1]? = some (.cells Y ty (0, 0))) (BA : Below w.heap.size w WA) :
    ∃ o9 c9, v' = .slice o9 n c9 ∧ Own w1 (w.heap.size + 1 + 1 + 1) v' n S ∧ w1.heap[w.heap.size + 1]? = some (.cells X tx (0, 0)) ∧ w1.heap[w.heap.size + 1 + 1]? = some (.cells Y ty (0, 0)) ∧ Below w.heap.size w w1 := by
  rw [Nat.zero_add, List.nil_append] at hown1
  have hO : Own w1 (w.heap.size + 1 + 1 + 1) v' n S := hown1
  obtain ⟨o9, c9, hv⟩ := hO.shape
  have e1 := (hgrow.block (w.heap.size + 1) (Array.getElem?_eq_some_iff.1 A1).1 (by simp [Value.ownBlock])).trans A1
  have e2 := (hgrow.block (w.heap.size + 1 + 1) (Array.getElem?_eq_some_iff.1 A2).1 (by simp [Value.ownBlock])).trans A2
  refine ⟨o9, c9, hv, hO, e1, e2, BA.trans (below_grown hgrow BA.size (fun k hk => ?_))⟩
  simp [Value.ownBlock] at hk
  omega
set_option maxRecDepth 100000 in
set_option maxHeartbeats 2000000 in
theorem l9Copy_any (b g : Int) (o : Bool) (q : Value) (n : Nat) (S : Nat → ByteArray) (w : World) (hm : StrAt w q n S) (hn : n ≤ 1048576) :
    Calls Try.prog 49 #[lineV b q g o] w fun e w' => (∃ q', e = .returned (lineV b q' g o) ∧ Own w' w.heap.size q' n S) ∧ Below w.heap.size w w' := by
  obtain ⟨i0, hi0, hz0, hz1, hz2⟩ := info_parts info_text
  obtain ⟨o1, cap, rfl, g1, ⟨g2', g3⟩, hc⟩ := hm
  have g2 : cap ≤ 9223372036854775807 := g2'
  obtain ⟨H, hH⟩ : ∃ H, H = w.heap.size := ⟨_, rfl⟩
  have HH : Hid (H = w.heap.size) := hH
  obtain ⟨WA, hWA⟩ : ∃ WA, WA = (((w.alloc (.cells #[.int .i64 b, .slice o1 n cap, .int .i64 g, .bool o] 28)).alloc (.cells #[.int .i64 0, .slice none 0 0, .int .i64 0, .bool false] 28)).alloc (.cells #[.int .i64 b, .slice o1 n cap, .int .i64 g, .bool o] 28)).alloc (.cells #[] 9) := ⟨_, rfl⟩
  have bA : Below w.heap.size w WA := by rw [hWA]; exact ((((Below.refl _ w).alloc (Nat.le_refl _) _).alloc (by simp) _).alloc (by simp; omega) _).alloc (by simp; omega) _
  have sA : WA.heap.size = H + 4 := by rw [hWA, hH]; simp
  have a3 : WA.heap[H + 3]? = some (.cells #[] 9 (0, 0)) := by
    rw [hWA, hH]
    have := World.alloc_heap_new (((w.alloc (.cells #[.int .i64 b, .slice o1 n cap, .int .i64 g, .bool o] 28)).alloc (.cells #[.int .i64 0, .slice none 0 0, .int .i64 0, .bool false] 28)).alloc (.cells #[.int .i64 b, .slice o1 n cap, .int .i64 g, .bool o] 28)) (.cells #[] 9)
    simpa using this
  have hown : WA.ownsRow (H + 3) 9 1 (.slice (some ⟨H + 3, 0, none⟩) 0 0) 0 [] := ⟨rfl, .inr ⟨H + 3, 0, #[], rfl, Nat.le_refl _, a3, Nat.le_refl _, Nat.zero_le _, rfl, rfl⟩⟩
  cases o1 with
  | none =>
    obtain rfl : cap = 0 := g3 rfl
    obtain rfl : n = 0 := by omega
    have bl : Below w.heap.size w ((((w.alloc (.cells #[.int .i64 b, .slice none 0 0, .int .i64 g, .bool o] 28)).alloc (.cells #[.int .i64 b, .slice (some ⟨w.heap.size + 1 + 1 + 1, 0, none⟩) 0 0, .int .i64 g, .bool o] 28)).alloc (.cells #[.int .i64 b, .slice (some ⟨w.heap.size + 1 + 1 + 1, 0, none⟩) 0 0, .int .i64 g, .bool o] 28)).alloc (.cells #[] 9)) := ((((Below.refl _ w).alloc (Nat.le_refl _) _).alloc (by simp) _).alloc (by simp; omega) _).alloc (by simp; omega) _
    have hb := World.alloc_heap_new (((w.alloc (.cells #[.int .i64 b, .slice none 0 0, .int .i64 g, .bool o] 28)).alloc (.cells #[.int .i64 b, .slice (some ⟨w.heap.size + 1 + 1 + 1, 0, none⟩) 0 0, .int .i64 g, .bool o] 28)).alloc (.cells #[.int .i64 b, .slice (some ⟨w.heap.size + 1 + 1 + 1, 0, none⟩) 0 0, .int .i64 g, .bool o] 28)) (.cells #[] 9)
    rw [show (((w.alloc (.cells #[.int .i64 b, .slice none 0 0, .int .i64 g, .bool o] 28)).alloc (.cells #[.int .i64 b, .slice (some ⟨w.heap.size + 1 + 1 + 1, 0, none⟩) 0 0, .int .i64 g, .bool o] 28)).alloc (.cells #[.int .i64 b, .slice (some ⟨w.heap.size + 1 + 1 + 1, 0, none⟩) 0 0, .int .i64 g, .bool o] 28)).heap.size = w.heap.size + 1 + 1 + 1 by simp] at hb
    clear hWA hc hown a3 sA bA WA
    go_enter Try.func49, Try.ntmps49
    go_wp2
    refine bodyPost_ret (v := lineV b (.slice (some ⟨w.heap.size + 1 + 1 + 1, 0, none⟩) 0 0) g o) (by simp [results, Try.results49, go_sem]) rfl ⟨⟨_, rfl, rfl, .inr ⟨w.heap.size + 1 + 1 + 1, 0, #[], rfl, by omega, ?_, Nat.le_refl _, Nat.zero_le _, rfl, rfl⟩⟩, bl⟩
    exact hb
  | some ad =>
    have hnews : ∀ j u, (strVs S n)[j]? = some u → WA.cell? (ad.add j) = some u := fun j u hu => by
      have hj : j < n := by
        rcases Nat.lt_or_ge j n with h | h
        · exact h
        · rw [List.getElem?_eq_none (by rw [strVs_len]; omega)] at hu; cases hu
      rw [strVs_at S n j hj] at hu
      obtain ⟨bb, f, ho, hbb, c0⟩ := hc j hj
      obtain rfl : ad = ⟨bb, f, none⟩ := by injection ho
      rw [Addr.add_lit]
      rw [← hu]
      exact (bA.cell (p := ⟨bb, f + j, none⟩) hbb).trans c0
    have hone : ∀ u ∈ strVs S n, u.oneCell' = true := fun u hu => by
      simp only [strVs, List.mem_map] at hu
      obtain ⟨j, _, rfl⟩ := hu
      rfl
    have HN : Hid (∀ j u, (strVs S n)[j]? = some u → WA.cell? (ad.add j) = some u) := hnews
    have h63 : 0 + n ≤ maxLen := by unfold maxLen; omega
    clear hc hnews
    have e3 : H + 3 = w.heap.size + 1 + 1 + 1 := by omega
    rw [e3] at hown
    have hown2 : ((((w.alloc (.cells #[.int .i64 b, .slice (some ad) n cap, .int .i64 g, .bool o] 28)).alloc (.cells #[.int .i64 0, .slice none 0 0, .int .i64 0, .bool false] 28)).alloc (.cells #[.int .i64 b, .slice (some ad) n cap, .int .i64 g, .bool o] 28)).alloc (.cells #[] 9)).ownsRow (w.heap.size + 1 + 1 + 1) 9 1 (.slice (some ⟨w.heap.size + 1 + 1 + 1, 0, none⟩) 0 0) 0 [] := by rw [← hWA]; exact hown
    have HN2 : Hid (∀ j u, (strVs S n)[j]? = some u → ((((w.alloc (.cells #[.int .i64 b, .slice (some ad) n cap, .int .i64 g, .bool o] 28)).alloc (.cells #[.int .i64 0, .slice none 0 0, .int .i64 0, .bool false] 28)).alloc (.cells #[.int .i64 b, .slice (some ad) n cap, .int .i64 g, .bool o] 28)).alloc (.cells #[] 9)).cell? (ad.add j) = some u) := by rw [← hWA]; exact HN.out
    have a1 : WA.heap[w.heap.size + 1]? = some (.cells #[.int .i64 0, .slice none 0 0, .int .i64 0, .bool false] 28 (0, 0)) := by
      rw [hWA, Below.heap_alloc _ _ _ (by simp), Below.heap_alloc _ _ _ (by simp)]
      have := World.alloc_heap_new (w.alloc (.cells #[.int .i64 b, .slice (some ad) n cap, .int .i64 g, .bool o] 28)) (.cells #[.int .i64 0, .slice none 0 0, .int .i64 0, .bool false] 28)
      simpa using this
    have a2 : WA.heap[w.heap.size + 1 + 1]? = some (.cells #[.int .i64 b, .slice (some ad) n cap, .int .i64 g, .bool o] 28 (0, 0)) := by
      rw [hWA, Below.heap_alloc _ _ _ (by simp)]
      have := World.alloc_heap_new ((w.alloc (.cells #[.int .i64 b, .slice (some ad) n cap, .int .i64 g, .bool o] 28)).alloc (.cells #[.int .i64 0, .slice none 0 0, .int .i64 0, .bool false] 28)) (.cells #[.int .i64 b, .slice (some ad) n cap, .int .i64 g, .bool o] 28)
      simpa using this
    have A1 : Hid (((((w.alloc (.cells #[.int .i64 b, .slice (some ad) n cap, .int .i64 g, .bool o] 28)).alloc (.cells #[.int .i64 0, .slice none 0 0, .int .i64 0, .bool false] 28)).alloc (.cells #[.int .i64 b, .slice (some ad) n cap, .int .i64 g, .bool o] 28)).alloc (.cells #[] 9)).heap[w.heap.size + 1]? = some (.cells #[.int .i64 0, .slice none 0 0, .int .i64 0, .bool false] 28 (0, 0))) := by rw [← hWA]; exact a1
    have A2 : Hid (((((w.alloc (.cells #[.int .i64 b, .slice (some ad) n cap, .int .i64 g, .bool o] 28)).alloc (.cells #[.int .i64 0, .slice none 0 0, .int .i64 0, .bool false] 28)).alloc (.cells #[.int .i64 b, .slice (some ad) n cap, .int .i64 g, .bool o] 28)).alloc (.cells #[] 9)).heap[w.heap.size + 1 + 1]? = some (.cells #[.int .i64 b, .slice (some ad) n cap, .int .i64 g, .bool o] 28 (0, 0))) := by rw [← hWA]; exact a2
    have BA : Hid (Below w.heap.size w ((((w.alloc (.cells #[.int .i64 b, .slice (some ad) n cap, .int .i64 g, .bool o] 28)).alloc (.cells #[.int .i64 0, .slice none 0 0, .int .i64 0, .bool false] 28)).alloc (.cells #[.int .i64 b, .slice (some ad) n cap, .int .i64 g, .bool o] 28)).alloc (.cells #[] 9))) := by rw [← hWA]; exact bA
    clear hown HN a3 sA bA hWA WA hH HH e3 a1 a2 H
    go_enter Try.func49, Try.ntmps49
    go_wp2_with (at_builtin; refine wpList_append_own_at _ rfl _ _ _ rfl (w.heap.size + 1 + 1 + 1) 9 i0 _ 1 16 Try.underlying26 hi0 hz0 hz1 hz2 rfl (by omega) _ 0 [] rfl hown2 ad n cap (strVs S n) rfl (by rw [strVs_len]; omega) HN2.out hone h63 (by omega) (by simp) ?_; intro v' w1 hown1 hgrow hnil hat; obtain ⟨o9, c9, hv9, hO, q1, q2, bw1⟩ := copy_aux hown1 hgrow A1.out A2.out BA.out; subst hv9; have HO : Hid (Own w1 (w.heap.size + 1 + 1 + 1) (.slice o9 n c9) n S) := hO; clear hown1 hgrow hnil hat hO hown2; have m0 : w1.cell? ⟨w.heap.size + 1, 0, none⟩ = some (.int .i64 0) := cell_of w1 _ _ _ _ q1; have m1 : w1.cell? ⟨w.heap.size + 1, 1, none⟩ = some (.slice none 0 0) := cell_of w1 _ _ _ _ q1; have m2 : w1.cell? ⟨w.heap.size + 1, 2, none⟩ = some (.int .i64 0) := cell_of w1 _ _ _ _ q1; have m3 : w1.cell? ⟨w.heap.size + 1, 3, none⟩ = some (.bool false) := cell_of w1 _ _ _ _ q1; have n0 : w1.cell? ⟨w.heap.size + 1 + 1, 0, none⟩ = some (.int .i64 b) := cell_of w1 _ _ _ _ q2; have n1 : w1.cell? ⟨w.heap.size + 1 + 1, 1, none⟩ = some (.slice (some ad) n cap) := cell_of w1 _ _ _ _ q2; have n2 : w1.cell? ⟨w.heap.size + 1 + 1, 2, none⟩ = some (.int .i64 g) := cell_of w1 _ _ _ _ q2; have n3 : w1.cell? ⟨w.heap.size + 1 + 1, 3, none⟩ = some (.bool o) := cell_of w1 _ _ _ _ q2; have f1 : ∀ i, w1.frozen? ⟨w.heap.size + 1, i, none⟩ = false := fun i => (by simp [World.frozen?, q1]); have f2 : ∀ i, w1.frozen? ⟨w.heap.size + 1 + 1, i, none⟩ = false := fun i => (by simp [World.frozen?, q2]))
    have st := ((((HO.out.set ⟨w.heap.size + 1 + 1, 1, none⟩ (.slice o9 n c9) (by show w.heap.size + 1 + 1 < _; omega)).set ⟨w.heap.size + 1, 0, none⟩ (.int .i64 b) (by show w.heap.size + 1 < _; omega)).set ⟨w.heap.size + 1, 1, none⟩ (.slice o9 n c9) (by show w.heap.size + 1 < _; omega)).set ⟨w.heap.size + 1, 2, none⟩ (.int .i64 g) (by show w.heap.size + 1 < _; omega)).set ⟨w.heap.size + 1, 3, none⟩ (.bool o) (by show w.heap.size + 1 < _; omega)
    have bl := ((((bw1.setCell (p := ⟨w.heap.size + 1 + 1, 1, none⟩) (by show w.heap.size ≤ w.heap.size + 1 + 1; omega) (.slice o9 n c9)).setCell (p := ⟨w.heap.size + 1, 0, none⟩) (by show w.heap.size ≤ w.heap.size + 1; omega) (.int .i64 b)).setCell (p := ⟨w.heap.size + 1, 1, none⟩) (by show w.heap.size ≤ w.heap.size + 1; omega) (.slice o9 n c9)).setCell (p := ⟨w.heap.size + 1, 2, none⟩) (by show w.heap.size ≤ w.heap.size + 1; omega) (.int .i64 g)).setCell (p := ⟨w.heap.size + 1, 3, none⟩) (by show w.heap.size ≤ w.heap.size + 1; omega) (.bool o)
    exact bodyPost_ret (v := lineV b (.slice o9 n c9) g o) (by simp [results, Try.results49, go_sem, m0, m1, m2, m3]) rfl ⟨⟨_, rfl, st.mono (by omega)⟩, bl⟩

theorem four {W w : World} {base R B : Nat} {v : Value} {n : Nat} {S : Nat → ByteArray} (h : Own W base v n S) (hb : Below B w W) (h1 : R < base) (h2 : B ≤ R) (a0 a1 a2 a3 : Value) :
    Own ((((W.setCell ⟨R, 0, none⟩ a0).setCell ⟨R, 1, none⟩ a1).setCell ⟨R, 2, none⟩ a2).setCell ⟨R, 3, none⟩ a3) base v n S ∧ Below B w ((((W.setCell ⟨R, 0, none⟩ a0).setCell ⟨R, 1, none⟩ a1).setCell ⟨R, 2, none⟩ a2).setCell ⟨R, 3, none⟩ a3) :=
  ⟨(((h.set ⟨R, 0, none⟩ a0 h1).set ⟨R, 1, none⟩ a1 h1).set ⟨R, 2, none⟩ a2 h1).set ⟨R, 3, none⟩ a3 h1, (((hb.setCell (p := ⟨R, 0, none⟩) h2 a0).setCell (p := ⟨R, 1, none⟩) h2 a1).setCell (p := ⟨R, 2, none⟩) h2 a2).setCell (p := ⟨R, 3, none⟩) h2 a3⟩
/-- What a line is that heard one more. -/
def hearB (b g : Int) (o : Bool) (n : Nat) (S : Nat → ByteArray) : Int := if lineT b g o n S then b else 0
def hearG (b g : Int) (o : Bool) (n : Nat) (S : Nat → ByteArray) : Int := if lineT b g o n S then (g + 1) % 256 else 0
def hearO (b g : Int) (o : Bool) (n : Nat) (S : Nat → ByteArray) : Bool := lineT b g o n S && o
def hearN (b g : Int) (o : Bool) (n : Nat) (S : Nat → ByteArray) : Nat := if lineT b g o n S then n else 0

set_option maxRecDepth 100000 in
set_option maxHeartbeats 2000000 in
theorem l9Heard_any (b g : Int) (o : Bool) (q : Value) (n : Nat) (S : Nat → ByteArray) (w : World) (hm : StrAt w q n S) (hn : n ≤ 1048576) (hg : 0 ≤ g ∧ g ≤ 255) :
    Calls Try.prog 41 #[lineV b q g o] w fun e w' => (∃ q', e = .returned (lineV b q' ((g + 1) % 256) o) ∧ Own w' w.heap.size q' n S) ∧ Below w.heap.size w w' := by
  obtain ⟨o1, cap1, rfl⟩ := hm.shape
  obtain ⟨B, hB⟩ : ∃ B, B = w.heap.size := ⟨_, rfl⟩
  have e1 : IntKind.i64.wrap (g + 1) = g + 1 := by rw [IntKind.wrap_i64]; omega
  go_enter Try.func41, Try.ntmps41
  go_wp2_with fail
  obtain ⟨WA, hWA⟩ : ∃ WA, WA = (w.alloc (.cells #[.int .i64 b, .slice o1 n cap1, .int .i64 g, .bool o] 28)).alloc (.cells #[.int .i64 0, .slice none 0 0, .int .i64 0, .bool false] 28) := ⟨_, rfl⟩
  have bA : Below w.heap.size w WA := by rw [hWA]; exact ((Below.refl _ w).alloc (Nat.le_refl _) _).alloc (by simp) _
  have sA : WA.heap.size = B + 2 := by rw [hWA, hB]; simp
  have a0 : WA.heap[B]? = some (.cells #[.int .i64 b, .slice o1 n cap1, .int .i64 g, .bool o] 28 (0, 0)) := by
    rw [hWA, hB, Below.heap_alloc _ _ _ (by simp)]; exact World.alloc_heap_new w _
  have a1 : WA.heap[B + 1]? = some (.cells #[.int .i64 0, .slice none 0 0, .int .i64 0, .bool false] 28 (0, 0)) := by
    rw [hWA, hB]
    have := World.alloc_heap_new (w.alloc (.cells #[.int .i64 b, .slice o1 n cap1, .int .i64 g, .bool o] 28)) (.cells #[.int .i64 0, .slice none 0 0, .int .i64 0, .bool false] 28)
    simpa using this
  have cT := l9Copy_any b g o _ n S WA (hm.below bA) hn
  rw [← hWA, ← hB]
  rw [← hB] at bA
  have HB : Hid (B = w.heap.size) := hB
  clear hWA hm hB
  go_fit cT
  rintro e w1 ⟨⟨v1, rfl, hm1⟩, b1⟩
  obtain ⟨o3, c3, rfl⟩ := hm1.shape
  have s1 := b1.size
  have cA := bA.trans (b1.mono (by omega))
  have HM : Hid (Own w1 WA.heap.size (.slice o3 n c3) n S) := hm1
  have q0 := (b1.block B (by omega)).trans a0
  have q1 := (b1.block (B + 1) (by omega)).trans a1
  have l0 : B < w1.heap.size := by omega
  have l1 : B + 1 < w1.heap.size := by omega
  have x2 : w1.cell? ⟨B, 2, none⟩ = some (.int .i64 g) := cell_of _ _ _ _ _ q0
  have m0 : w1.cell? ⟨B + 1, 0, none⟩ = some (.int .i64 0) := cell_of _ _ _ _ _ q1
  have m1 : w1.cell? ⟨B + 1, 1, none⟩ = some (.slice none 0 0) := cell_of _ _ _ _ _ q1
  have m2 : w1.cell? ⟨B + 1, 2, none⟩ = some (.int .i64 0) := cell_of _ _ _ _ _ q1
  have m3 : w1.cell? ⟨B + 1, 3, none⟩ = some (.bool false) := cell_of _ _ _ _ _ q1
  have f1 : ∀ i, w1.frozen? ⟨B + 1, i, none⟩ = false := fun i => by simp [World.frozen?, q1]
  clear hm1 a0 a1 b1 bA cT q0 q1
  go_wp2_with fail
  obtain ⟨st, bl⟩ := four HM.out cA (R := B + 1) (by omega) (by omega) (.int .i64 b) (.slice o3 n c3) (.int .i64 ((g + 1) % 256)) (.bool o)
  refine bodyPost_ret (v := lineV b (.slice o3 n c3) ((g + 1) % 256) o) (by simp [results, Try.results41, go_sem, m0, m1, m2, m3, l1]) rfl ⟨⟨_, rfl, ((st.below (below_alloc _ _)).mono (by rw [← HB.out]; omega))⟩, ?_⟩
  rw [← HB.out]
  exact bl.alloc (Nat.le_trans (by omega : B ≤ w1.heap.size) (((((Below.refl 0 w1).setCell (p := ⟨B + 1, 0, none⟩) (Nat.zero_le _) _).setCell (p := ⟨B + 1, 1, none⟩) (Nat.zero_le _) _).setCell (p := ⟨B + 1, 2, none⟩) (Nat.zero_le _) _).setCell (p := ⟨B + 1, 3, none⟩) (Nat.zero_le _) _).size) _

set_option maxRecDepth 100000 in
set_option maxHeartbeats 2000000 in
theorem specLineHeard_any (b g : Int) (o : Bool) (q : Value) (n : Nat) (S : Nat → ByteArray) (w : World) (hm : StrAt w q n S) (hn : n ≤ 1048576) (hs : ∀ j, j < n → (S j).size ≤ 9223372036854775807) :
    Calls Try.prog 24 #[lineV b q g o] w fun e w' => (∃ q', e = .returned (lineV (hearB b g o n S) q' (hearG b g o n S) (hearO b g o n S)) ∧ Own w' w.heap.size q' (hearN b g o n S) S) ∧ Below w.heap.size w w' := by
  obtain ⟨o1, cap1, rfl⟩ := hm.shape
  obtain ⟨B, hB⟩ : ∃ B, B = w.heap.size := ⟨_, rfl⟩
  obtain ⟨WA, hWA⟩ : ∃ WA, WA = (w.alloc (.cells #[.int .i64 b, .slice o1 n cap1, .int .i64 g, .bool o] 28)).alloc (.cells #[.int .i64 0, .slice none 0 0, .int .i64 0, .bool false] 28) := ⟨_, rfl⟩
  have bA : Below w.heap.size w WA := by rw [hWA]; exact ((Below.refl _ w).alloc (Nat.le_refl _) _).alloc (by simp) _
  have sA : WA.heap.size = B + 2 := by rw [hWA, hB]; simp
  have a0 : WA.heap[B]? = some (.cells #[.int .i64 b, .slice o1 n cap1, .int .i64 g, .bool o] 28 (0, 0)) := by
    rw [hWA, hB, Below.heap_alloc _ _ _ (by simp)]; exact World.alloc_heap_new w _
  have a1 : WA.heap[B + 1]? = some (.cells #[.int .i64 0, .slice none 0 0, .int .i64 0, .bool false] 28 (0, 0)) := by
    rw [hWA, hB]
    have := World.alloc_heap_new (w.alloc (.cells #[.int .i64 b, .slice o1 n cap1, .int .i64 g, .bool o] 28)) (.cells #[.int .i64 0, .slice none 0 0, .int .i64 0, .bool false] 28)
    simpa using this
  have hm1 := hm.below bA
  have cO := l9Ok_any b g o _ n S WA hm1 hn hs
  have HM : Hid (StrAt WA (.slice o1 n cap1) n S) := hm1
  clear hm hm1 hs
  have HB : Hid (B = w.heap.size) := hB
  rw [← hB] at bA
  unfold hearB hearG hearO hearN
  cases hR : lineT b g o n S
  · rw [hR] at cO
    simp only [Bool.false_eq_true, if_false, Bool.false_and]
    clear hR
    go_enter Try.func24, Try.ntmps24
    go_wp2_with fail
    rw [← hWA, ← hB]
    clear hWA hB
    go_fit cO
    rintro e w1 ⟨rfl, b1⟩
    have s1 := b1.size
    have q1 := (b1.block (B + 1) (by omega)).trans a1
    have cA := bA.trans (b1.mono (by omega))
    have m0 : w1.cell? ⟨B + 1, 0, none⟩ = some (.int .i64 0) := cell_of _ _ _ _ _ q1
    have m1 : w1.cell? ⟨B + 1, 1, none⟩ = some (.slice none 0 0) := cell_of _ _ _ _ _ q1
    have m2 : w1.cell? ⟨B + 1, 2, none⟩ = some (.int .i64 0) := cell_of _ _ _ _ _ q1
    have m3 : w1.cell? ⟨B + 1, 3, none⟩ = some (.bool false) := cell_of _ _ _ _ _ q1
    have f1 : ∀ i, w1.frozen? ⟨B + 1, i, none⟩ = false := fun i => by simp [World.frozen?, q1]
    clear a0 a1 b1 bA cO q1
    go_wp2_with fail
    obtain ⟨st, bl⟩ := four (Own.nil w1 (B + 2) S) cA (R := B + 1) (by omega) (by omega) (.int .i64 0) (.slice none 0 0) (.int .i64 0) (.bool false)
    refine bodyPost_ret (v := lineV 0 (.slice none 0 0) 0 false) (by simp [results, Try.results24, go_sem, m0, m1, m2, m3]) rfl ⟨⟨_, rfl, Own.nil _ _ _⟩, ?_⟩
    rw [← HB.out]
    exact bl
  · obtain ⟨_, _, hg, hn8, _⟩ := lineT_parts hR
    rw [hR] at cO
    simp only [if_true, Bool.true_and]
    clear hR
    go_enter Try.func24, Try.ntmps24
    go_wp2_with fail
    rw [← hWA, ← hB]
    clear hWA hB
    go_fit cO
    rintro e w1 ⟨rfl, b1⟩
    have s1 := b1.size
    have cA := bA.trans (b1.mono (by omega))
    have cH := l9Heard_any b g o _ n S w1 (HM.out.below b1) hn hg
    have q0 := (b1.block B (by omega)).trans a0
    have q1 := (b1.block (B + 1) (by omega)).trans a1
    have y0 : w1.cell? ⟨B, 0, none⟩ = some (.int .i64 b) := cell_of _ _ _ _ _ q0
    have y1 : w1.cell? ⟨B, 1, none⟩ = some (.slice o1 n cap1) := cell_of _ _ _ _ _ q0
    have y2 : w1.cell? ⟨B, 2, none⟩ = some (.int .i64 g) := cell_of _ _ _ _ _ q0
    have y3 : w1.cell? ⟨B, 3, none⟩ = some (.bool o) := cell_of _ _ _ _ _ q0
    clear a0 a1 bA cO q0
    go_wp2_with fail
    go_fit cH
    rintro e w2 ⟨⟨v2, rfl, hm2⟩, b2⟩
    obtain ⟨o3, c3, rfl⟩ := hm2.shape
    have HM2 : Hid (Own w2 w1.heap.size (.slice o3 n c3) n S) := hm2
    have q2 := (b2.block (B + 1) (by omega)).trans q1
    have cB := cA.trans (b2.mono (by omega))
    have m0 : w2.cell? ⟨B + 1, 0, none⟩ = some (.int .i64 0) := cell_of _ _ _ _ _ q2
    have m1 : w2.cell? ⟨B + 1, 1, none⟩ = some (.slice none 0 0) := cell_of _ _ _ _ _ q2
    have m2 : w2.cell? ⟨B + 1, 2, none⟩ = some (.int .i64 0) := cell_of _ _ _ _ _ q2
    have m3 : w2.cell? ⟨B + 1, 3, none⟩ = some (.bool false) := cell_of _ _ _ _ _ q2
    have f1 : ∀ i, w2.frozen? ⟨B + 1, i, none⟩ = false := fun i => by simp [World.frozen?, q2]
    clear hm2 b1 b2 q1 q2 cH cA y0 y1 y2 y3
    go_wp2_with fail
    obtain ⟨st, bl⟩ := four HM2.out cB (R := B + 1) (by omega) (by omega) (.int .i64 b) (.slice o3 n c3) (.int .i64 ((g + 1) % 256)) (.bool o)
    refine bodyPost_ret (v := lineV b (.slice o3 n c3) ((g + 1) % 256) o) (by simp [results, Try.results24, go_sem, m0, m1, m2, m3]) rfl ⟨⟨_, rfl, st.mono (by rw [← HB.out]; omega)⟩, ?_⟩
    rw [← HB.out]
    exact bl
end Go.Proofs.Ytpicccdlaiaemaa.Hub
