/-
  What spec.l16Line draws: some line, with few small texts in memory of its own. Nothing more is said of which.
-/
import Derived.Test.YtpicccdlaiaemaaDrawB
import Derived.Test.YtpicccdlaiaemaaLineSpec
import Derived.Deep.AppendLies
namespace Go.Proofs.Ytpicccdlaiaemaa.Hub
open Go.RowKit
set_option linter.unusedVariables false

set_option maxHeartbeats 1000000 in
theorem one_any' (n₀ B p L m : Nat) (ls : List Int) (hls : ls.length = m) (hp : p ≤ 100000) (hm : 1 ≤ m) (hm2 : m ≤ 100000) (w : World) (h : Rd n₀ w B p) (hLB : L ≠ B) (hL : w.heap[L]? = some (.cells (ls.map (Value.int .i64)).toArray 3 (0, 0))) :
    Calls Try.prog 43 #[.pointer (some ⟨B, 0, none⟩), .slice (some ⟨L, 0, none⟩) m m] w fun e w' => (∃ s, s ∈ ls ∧ e = .returned (.int .i64 s)) ∧ Rd n₀ w' B (p + 1) ∧ Stepped B w w' := by
  go_enter Try.func43, Try.ntmps43
  go_wp2_with (go_at_call 44; refine (pick_any n₀ B p m hp hm hm2 _ h).mono ?_)
  rintro e w1 ⟨⟨k, hk, rfl⟩, hw⟩
  obtain ⟨hrd, hst⟩ := stepped_of h hw
  have hL1 := (hst.2.2 L hLB).trans hL
  have hk2 : k < ls.length := by omega
  have ck : w1.cell? ⟨L, k, none⟩ = some (.int .i64 ls[k]) := by simp [World.cell?, hL1, hk2]
  have hki : (k : Int) < (m : Int) := by omega
  clear hL hL1 hw
  generalize hsk : ls[k] = s at ck
  have hmem : s ∈ ls := by rw [← hsk]; exact List.getElem_mem _
  clear hsk
  go_wp2_with fail
  go_ret
  exact ⟨⟨s, hmem, rfl⟩, hrd, hst⟩

def bases : List Int := [0, 1, 5, 250, 255]
def gots : List Int := [0, 7, 255]
def offs : List Int := [-1, 256]
def tells : List ByteArray := [⟨#[60, 97, 47, 62]⟩, ⟨#[60, 98, 47, 62]⟩, ⟨#[]⟩]
theorem bases_in : ∀ b ∈ bases, 0 ≤ b ∧ b ≤ 255 := by decide
theorem gots_in : ∀ b ∈ gots, 0 ≤ b ∧ b ≤ 255 := by decide
theorem offs_in : ∀ b ∈ offs, -1 ≤ b ∧ b ≤ 256 := by decide
theorem tells_in : ∀ s ∈ tells, s.size ≤ 10 := by
  have h : (tells.all fun s => decide (s.size ≤ 10)) = true := by kernel_rfl
  exact fun s hs => of_decide_eq_true (List.all_eq_true.1 h s hs)
/-- A text more. -/
def addS (n : Nat) (S : Nat → ByteArray) (s : ByteArray) : Nat → ByteArray := fun j => if j = n then s else S j
theorem addS_vs (n : Nat) (S : Nat → ByteArray) (s : ByteArray) : strVs (addS n S s) (n + 1) = strVs S n ++ [.string s] := by
  rw [strVs_succ]
  congr 1
  · apply List.ext_getElem?
    intro j
    by_cases hj : j < n
    · rw [strVs_at _ n j hj, strVs_at _ n j hj]
      have : addS n S s j = S j := if_neg (by omega)
      rw [this]
    · rw [List.getElem?_eq_none (by rw [strVs_len]; omega), List.getElem?_eq_none (by rw [strVs_len]; omega)]
  · have : addS n S s n = s := if_pos rfl
    rw [this]
theorem addS_small (n : Nat) (S : Nat → ByteArray) (s : ByteArray) (h : ∀ j, j < n → (S j).size ≤ 10) (hs : s.size ≤ 10) : ∀ j, j < n + 1 → (addS n S s j).size ≤ 10 := fun j hj => by
  unfold addS
  split
  · exact hs
  · exact h j (by omega)

theorem rd_grown {n₀ B p : Nat} {W W' : World} {row : Option Nat} (h : Rd n₀ W B p) (hg : W.grownBy W' row) (hn : n₀ ≤ W.heap.size) (hr : ∀ q, row = some q → n₀ ≤ q ∧ q ≠ B) : Rd n₀ W' B p := by
  obtain ⟨hB2, v, m, hv, hmm, hh⟩ := h
  have bb : Below n₀ W W' := below_grown hg hn (fun q hq => (hr q hq).1)
  exact ⟨hB2, v, m, hv.below bb, hmm, (hg.block B (Array.getElem?_eq_some_iff.1 hh).1 (fun e => (hr B e.symm).2 rfl)).trans hh⟩
theorem line_fin {n₀ B p R L : Nat} {w W : World} {v : Value} {n : Nat} {S : Nat → ByteArray} (hr : Rd n₀ W B p) (hb : Below n₀ w W) (ho : Own W (L + 1) v n S) (hRL : R < L) (hRB : R ≠ B) (hnR : n₀ ≤ R) (hz : n₀ ≤ W.heap.size) (a0 a1 a2 a3 : Value) :
    Own ((((W.setCell ⟨R, 0, none⟩ a0).setCell ⟨R, 1, none⟩ a1).setCell ⟨R, 2, none⟩ a2).setCell ⟨R, 3, none⟩ a3) (L + 1) v n S ∧ Rd n₀ ((((W.setCell ⟨R, 0, none⟩ a0).setCell ⟨R, 1, none⟩ a1).setCell ⟨R, 2, none⟩ a2).setCell ⟨R, 3, none⟩ a3) B p ∧ n₀ ≤ ((((W.setCell ⟨R, 0, none⟩ a0).setCell ⟨R, 1, none⟩ a1).setCell ⟨R, 2, none⟩ a2).setCell ⟨R, 3, none⟩ a3).heap.size ∧ Below n₀ w ((((W.setCell ⟨R, 0, none⟩ a0).setCell ⟨R, 1, none⟩ a1).setCell ⟨R, 2, none⟩ a2).setCell ⟨R, 3, none⟩ a3) := by
  have step : ∀ (X : World) (i : Nat) (x : Value), Rd n₀ X B p → Rd n₀ (X.setCell ⟨R, i, none⟩ x) B p := fun X i x h => by
    obtain ⟨hB2, v, m, hv, hmm, hh⟩ := h
    exact ⟨hB2, v, m, hv.below ((Below.refl n₀ X).setCell (p := ⟨R, i, none⟩) hnR x), hmm, (Below.heap_setCell _ _ _ _ (fun e => hRB e.symm)).trans hh⟩
  obtain ⟨h1, h2⟩ := four ho hb (R := R) (by omega) hnR a0 a1 a2 a3
  refine ⟨h1, step _ _ _ (step _ _ _ (step _ _ _ (step _ _ _ hr))), ?_, h2⟩
  exact Nat.le_trans hz ((((Below.refl 0 W).setCell (p := ⟨R, 0, none⟩) (Nat.zero_le _) a0).setCell (p := ⟨R, 1, none⟩) (Nat.zero_le _) a1).setCell (p := ⟨R, 2, none⟩) (Nat.zero_le _) a2 |>.setCell (p := ⟨R, 3, none⟩) (Nat.zero_le _) a3).size

set_option maxRecDepth 100000 in
set_option maxHeartbeats 16000000 in
theorem line_any (n₀ B p : Nat) (hp : p ≤ 80000) (w : World) (hn : n₀ ≤ w.heap.size) (h : Rd n₀ w B p) :
    Calls Try.prog 28 #[.pointer (some ⟨B, 0, none⟩)] w fun e w' => (∃ b g o q n S, e = .returned (lineV b q g o) ∧ Own w' w.heap.size q n S ∧ n ≤ 9 ∧ (∀ j, j < n → (S j).size ≤ 10) ∧ (-1 ≤ b ∧ b ≤ 256) ∧ (0 ≤ g ∧ g ≤ 255)) ∧ (∃ p', Rd n₀ w' B p' ∧ p' ≤ p + 20) ∧ n₀ ≤ w'.heap.size ∧ Below n₀ w w' := by
  obtain ⟨i0, hi0, hz0, hz1, hz2⟩ := info_parts info_text
  have hB := h.1
  have hlt := rd_lt h
  obtain ⟨R, hR⟩ : ∃ R, R = w.heap.size := ⟨_, rfl⟩
  have HR : Hid (R = w.heap.size) := hR
  go_enter Try.func28, Try.ntmps28
  go_wp2_with fail
  have r0 := h.alloc hn (.cells #[.int .i64 0, .slice none 0 0, .int .i64 0, .bool false] 28)
  have n0 : n₀ ≤ (w.alloc (.cells #[.int .i64 0, .slice none 0 0, .int .i64 0, .bool false] 28)).heap.size := by simp; omega
  have r1 := r0.alloc n0 (.cells #[.int .i64 0, .int .i64 1, .int .i64 5, .int .i64 250, .int .i64 255] 3)
  have hb1 := World.alloc_heap_new (w.alloc (.cells #[.int .i64 0, .slice none 0 0, .int .i64 0, .bool false] 28)) (.cells #[.int .i64 0, .int .i64 1, .int .i64 5, .int .i64 250, .int .i64 255] 3)
  rw [show (w.alloc (.cells #[.int .i64 0, .slice none 0 0, .int .i64 0, .bool false] 28)).heap.size = w.heap.size + 1 by simp] at hb1
  obtain ⟨WA, hWA⟩ : ∃ WA, WA = (w.alloc (.cells #[.int .i64 0, .slice none 0 0, .int .i64 0, .bool false] 28)).alloc (.cells #[.int .i64 0, .int .i64 1, .int .i64 5, .int .i64 250, .int .i64 255] 3) := ⟨_, rfl⟩
  have bA : Below w.heap.size w WA := by rw [hWA]; exact ((Below.refl _ w).alloc (Nat.le_refl _) _).alloc (by simp) _
  have sA : WA.heap.size = R + 2 := by rw [hWA, hR]; simp
  have aR : WA.heap[R]? = some (.cells #[.int .i64 0, .slice none 0 0, .int .i64 0, .bool false] 28 (0, 0)) := by
    rw [hWA, hR, Below.heap_alloc _ _ _ (by simp)]; exact World.alloc_heap_new w _
  rw [← hWA] at r1 hb1 ⊢
  rw [← hR] at hb1 ⊢
  rw [← hR] at bA hlt hn
  clear hWA hR r0 n0 h
  go_fit (one_any' n₀ B p (R + 1) 5 bases rfl (by omega) (by omega) (by omega) WA r1 (by omega) hb1)
  rintro e w1 ⟨⟨b, hb, rfl⟩, rd1, st1⟩
  have hbb := bases_in b hb
  have q1 := (st1.2.2 R (by omega)).trans aR
  have s1 : w1.heap.size = R + 2 := st1.1.trans sA
  have l1 : Below n₀ w w1 := (bA.mono hn).trans (st1.2.1.mono hB)
  clear hb st1 aR sA bA r1 hb1
  have n1 : n₀ ≤ w1.heap.size := by omega
  have r2 := rd1.alloc n1 (.cells #[.int .i64 0, .int .i64 7, .int .i64 255] 3)
  have hb2 := World.alloc_heap_new w1 (.cells #[.int .i64 0, .int .i64 7, .int .i64 255] 3)
  rw [s1] at hb2
  go_wp2_with fail
  go_fit (one_any' n₀ B (p + 1) (R + 2) 3 gots rfl (by omega) (by omega) (by omega) _ r2 (by omega) hb2)
  rintro e w2 ⟨⟨g, hg, rfl⟩, rd2, st2⟩
  have hgg := gots_in g hg
  have s2 : w2.heap.size = R + 3 := by rw [st2.1]; simp; omega
  have q2 := (st2.2.2 R (by omega)).trans ((Below.heap_alloc _ _ _ (by omega)).trans q1)
  have l2 : Below n₀ w w2 := (l1.alloc n1 _).trans (st2.2.1.mono hB)
  clear hg st2 q1 r2 hb2 l1 rd1
  obtain ⟨L, hL⟩ : ∃ L, L = R + 3 := ⟨_, rfl⟩
  have n2 : n₀ ≤ w2.heap.size := by omega
  obtain ⟨W3, hW3⟩ : ∃ W3, W3 = w2.alloc (.cells #[.int .i64 b, .slice none 0 0, .int .i64 g, .bool false] 28) := ⟨_, rfl⟩
  have rd3 : Rd n₀ W3 B (p + 1 + 1) := by rw [hW3]; exact rd2.alloc n2 _
  have eL : W3.heap[L]? = some (.cells #[.int .i64 b, .slice none 0 0, .int .i64 g, .bool false] 28 (0, 0)) := by rw [hW3, hL, ← s2]; exact World.alloc_heap_new _ _
  have q3 : W3.heap[R]? = some (.cells #[.int .i64 0, .slice none 0 0, .int .i64 0, .bool false] 28 (0, 0)) := by rw [hW3, Below.heap_alloc _ _ _ (by omega)]; exact q2
  have l3 : Below n₀ w W3 := by rw [hW3]; exact l2.alloc n2 _
  have s3 : W3.heap.size = L + 1 := by rw [hW3, hL]; simp; omega
  have lL : R < L := by omega
  have lBL : B < L := by omega
  go_wp2_with fail
  rw [← hW3, ← hL]
  clear hW3 hL l2 q2 rd2 n2
  go_fit (pick_any n₀ B (p + 1 + 1) 9 (by omega) (by omega) (by omega) W3 rd3)
  rintro e w4 ⟨⟨m, hm, rfl⟩, hw4⟩
  obtain ⟨rd4, st4⟩ := stepped_of rd3 hw4
  have eL4 := (st4.2.2 L (by omega)).trans eL
  have q4 := (st4.2.2 R (by omega)).trans q3
  have l4 : Below n₀ w w4 := l3.trans (st4.2.1.mono hB)
  have s4 : w4.heap.size = L + 1 := st4.1.trans s3
  clear hw4 st4 eL q3 l3 s3 rd3 s2 s1
  go_wp2_with fail
  go_loopw [4] (fun i wr => ∃ (j k p' : Nat) (v : Value) (S : Nat → ByteArray), i = .int .i64 j ∧ k + j ≤ 8 ∧ p' + j ≤ p + 13 ∧ Rd n₀ wr B p' ∧ L + 1 ≤ wr.heap.size ∧ wr.heap[L]? = some (.cells #[.int .i64 b, v, .int .i64 g, .bool false] 28 (0, 0)) ∧ wr.heap[R]? = some (.cells #[.int .i64 0, .slice none 0 0, .int .i64 0, .bool false] 28 (0, 0)) ∧ Own wr (L + 1) v k S ∧ Hid (∀ j, j < k → (S j).size ≤ 10) ∧ Below n₀ w wr) (fun i _ => (intOf i).toNat)
  case atStart => exact ⟨m, 0, p + 1 + 1 + 1, .slice none 0 0, fun _ => ⟨#[]⟩, rfl, by omega, by omega, rd4, by omega, eL4, q4, Own.nil _ _ _, fun j hj => absurd hj (by omega), l4⟩
  case round =>
    obtain ⟨j, k, p', v, S, rfl, hkj, hpj, rd, sz, eL, eR, hown, HS, bw⟩ := hrel
    clear rd4 eL4 q4 l4 s4
    obtain ⟨o9, c9, rfl⟩ := hown.shape
    have cL1 : wr.cell? ⟨L, 1, none⟩ = some (.slice o9 k c9) := cell_of _ _ _ _ _ eL
    have fL : ∀ i, wr.frozen? ⟨L, i, none⟩ = false := fun i => by simp [World.frozen?, eL]
    have HO : Hid (Own wr (L + 1) (.slice o9 k c9) k S) := hown
    have EL : Hid (wr.heap[L]? = some (.cells #[.int .i64 b, .slice o9 k c9, .int .i64 g, .bool false] 28 (0, 0))) := eL
    have ER : Hid (wr.heap[R]? = some (.cells #[.int .i64 0, .slice none 0 0, .int .i64 0, .bool false] 28 (0, 0))) := eR
    clear hown
    by_cases hj : j = 0
    · subst hj
      have rowL := fun q hq => (HO.out.row q hq).1
      have lL1 : L < wr.heap.size := by omega
      have lR1 : R < wr.heap.size := by omega
      have cP := pick_any n₀ B p' 12 (by omega) (by omega) (by omega) wr rd
      go_wp2_with fail
      go_fit cP
      rintro e w5 ⟨⟨c, hc, rfl⟩, hw5⟩
      obtain ⟨rd5, st5⟩ := stepped_of rd hw5
      have eL5 := (st5.2.2 L (by omega)).trans eL
      have eR5 := (st5.2.2 R (by omega)).trans eR
      have b5 : Below n₀ w w5 := bw.trans (st5.2.1.mono hB)
      have O5 : Own w5 (L + 1) (.slice o9 k c9) k S := by
        refine ⟨HO.out.1, ?_⟩
        rcases HO.out.2 with h2 | ⟨g2, cap, cur, hv, hb2, hg2, rest⟩
        · exact .inl h2
        · exact .inr ⟨g2, cap, cur, hv, hb2, (st5.2.2 g2 (by omega)).trans hg2, rest⟩
      have s5 := st5.1
      have HO5 : Hid (Own w5 (L + 1) (.slice o9 k c9) k S) := O5
      have z5 : L + 1 ≤ w5.heap.size := by omega
      clear hw5 st5 O5 cL1 fL HO EL ER s5 cP
      have m0 : w5.cell? ⟨R, 0, none⟩ = some (.int .i64 0) := cell_of _ _ _ _ _ eR5
      have m1 : w5.cell? ⟨R, 1, none⟩ = some (.slice none 0 0) := cell_of _ _ _ _ _ eR5
      have m2 : w5.cell? ⟨R, 2, none⟩ = some (.int .i64 0) := cell_of _ _ _ _ _ eR5
      have m3 : w5.cell? ⟨R, 3, none⟩ = some (.bool false) := cell_of _ _ _ _ _ eR5
      have fR : ∀ i, w5.frozen? ⟨R, i, none⟩ = false := fun i => by simp [World.frozen?, eR5]
      have y0 : w5.cell? ⟨L, 0, none⟩ = some (.int .i64 b) := cell_of _ _ _ _ _ eL5
      have y1 : w5.cell? ⟨L, 1, none⟩ = some (.slice o9 k c9) := cell_of _ _ _ _ _ eL5
      have y2 : w5.cell? ⟨L, 2, none⟩ = some (.int .i64 g) := cell_of _ _ _ _ _ eL5
      have y3 : w5.cell? ⟨L, 3, none⟩ = some (.bool false) := cell_of _ _ _ _ _ eL5
      have fL5 : ∀ i, w5.frozen? ⟨L, i, none⟩ = false := fun i => by simp [World.frozen?, eL5]
      have lRL : R ≠ L := by omega
      have lLR : L ≠ R := by omega
      have RDW : Hid (∀ (W : World) (a : Addr) (x : Value) (q : Nat), Rd n₀ W B q → a.block ≠ B → n₀ ≤ a.block → Rd n₀ (W.setCell a x) B q) := fun W a x q hr h1 h2 => by
        obtain ⟨hB2, v, m, hv, hmm, hh⟩ := hr
        exact ⟨hB2, v, m, hv.below ((Below.refl n₀ W).setCell h2 x), hmm, (Below.heap_setCell _ _ _ _ (fun e => h1 e.symm)).trans hh⟩
      have SZ : Hid (∀ (W : World) (a : Addr) (x : Value), W.heap.size ≤ (W.setCell a x).heap.size) := fun W a x => ((Below.refl 0 W).setCell (Nat.zero_le _) x).size
      have HSb : Hid (∀ j, j < k → (S j).size ≤ 10) := HS
      have ER5 : Hid (w5.heap[R]? = some (.cells #[.int .i64 0, .slice none 0 0, .int .i64 0, .bool false] 28 (0, 0))) := eR5
      clear eL eR eR5
      rcases (by omega : c = 0 ∨ c = 1 ∨ c = 2 ∨ c = 3 ∨ 4 ≤ c) with rfl | rfl | rfl | rfl | hc4
      · have r6 := rd5.alloc (by omega) (.cells #[.int .i64 (-1), .int .i64 256] 3)
        have hb6 := World.alloc_heap_new w5 (.cells #[.int .i64 (-1), .int .i64 256] 3)
        have cO := one_any' n₀ B (p' + 1) w5.heap.size 2 offs rfl (by omega) (by omega) (by omega) _ r6 (by have := rd_lt rd5; omega) hb6
        have q5 : w5.heap[R]? = some (.cells #[.int .i64 0, .slice none 0 0, .int .i64 0, .bool false] 28 (0, 0)) := ER5.out
        go_wp2_with fail
        go_fit cO
        rintro e w6 ⟨⟨b2, hb2, rfl⟩, rd6, st6⟩
        have hbb2 := offs_in b2 hb2
        have eL6 := (st6.2.2 L (by omega)).trans ((Below.heap_alloc _ _ _ (by omega)).trans eL5)
        have eR6 := (st6.2.2 R (by omega)).trans ((Below.heap_alloc _ _ _ (by omega)).trans q5)
        have b6 : Below n₀ w w6 := (b5.alloc (by omega) _).trans (st6.2.1.mono hB)
        have O6 : Own w6 (L + 1) (.slice o9 k c9) k S := by
          refine ⟨HO5.out.1, ?_⟩
          rcases HO5.out.2 with h2 | ⟨g2, cap, cur, hv, hb2, hg2, rest⟩
          · exact .inl h2
          · exact .inr ⟨g2, cap, cur, hv, hb2, (st6.2.2 g2 (by omega)).trans ((Below.heap_alloc _ _ _ (Array.getElem?_eq_some_iff.1 hg2).1).trans hg2), rest⟩
        have z6 : L + 1 ≤ w6.heap.size := by rw [st6.1]; simp; omega
        have HO6 : Hid (Own w6 (L + 1) (.slice o9 k c9) k S) := O6
        have x0 : w6.cell? ⟨R, 0, none⟩ = some (.int .i64 0) := cell_of _ _ _ _ _ eR6
        have x1 : w6.cell? ⟨R, 1, none⟩ = some (.slice none 0 0) := cell_of _ _ _ _ _ eR6
        have x2 : w6.cell? ⟨R, 2, none⟩ = some (.int .i64 0) := cell_of _ _ _ _ _ eR6
        have x3 : w6.cell? ⟨R, 3, none⟩ = some (.bool false) := cell_of _ _ _ _ _ eR6
        have xf : ∀ i, w6.frozen? ⟨R, i, none⟩ = false := fun i => by simp [World.frozen?, eR6]
        have u0 : w6.cell? ⟨L, 0, none⟩ = some (.int .i64 b) := cell_of _ _ _ _ _ eL6
        have u1 : w6.cell? ⟨L, 1, none⟩ = some (.slice o9 k c9) := cell_of _ _ _ _ _ eL6
        have u2 : w6.cell? ⟨L, 2, none⟩ = some (.int .i64 g) := cell_of _ _ _ _ _ eL6
        have u3 : w6.cell? ⟨L, 3, none⟩ = some (.bool false) := cell_of _ _ _ _ _ eL6
        have uf : ∀ i, w6.frozen? ⟨L, i, none⟩ = false := fun i => by simp [World.frozen?, eL6]
        clear eL6 eR6 st6 O6 r6 hb6 cO q5 m0 m1 m2 m3 fR y0 y1 y2 y3 fL5 hb2 eL5
        go_wp2_with fail
        have rW := RDW.out w6 ⟨L, 0, none⟩ (.int .i64 b2) _ rd6 (by show L ≠ B; omega) (by show n₀ ≤ L; omega)
        have bW := b6.setCell (p := ⟨L, 0, none⟩) (by show n₀ ≤ L; omega) (.int .i64 b2)
        have oW := HO6.out.set ⟨L, 0, none⟩ (.int .i64 b2) (by show L < L + 1; omega)
        obtain ⟨oF, rF, nF, bF⟩ := line_fin (n₀ := n₀) (B := B) rW bW oW lL (by omega) (by omega) (Nat.le_trans (by omega : n₀ ≤ w6.heap.size) (SZ.out w6 ⟨L, 0, none⟩ (.int .i64 b2))) (.int .i64 b2) (.slice o9 k c9) (.int .i64 g) (.bool false)
        exact bodyPost_ret (v := lineV b2 (.slice o9 k c9) g false) (by simp [results, Try.results28, go_sem, x0, x1, x2, x3]) rfl ⟨⟨b2, g, false, _, k, S, rfl, oF.mono (by rw [← HR.out]; omega), by omega, HSb.out, hbb2, hgg⟩, ⟨_, rF, by omega⟩, nF, bF⟩
      · clear eL5
        go_wp2_with fail
        have rW := RDW.out w5 ⟨L, 3, none⟩ (.bool true) _ rd5 (by show L ≠ B; omega) (by show n₀ ≤ L; omega)
        have bW := b5.setCell (p := ⟨L, 3, none⟩) (by show n₀ ≤ L; omega) (.bool true)
        have oW := HO5.out.set ⟨L, 3, none⟩ (.bool true) (by show L < L + 1; omega)
        obtain ⟨oF, rF, nF, bF⟩ := line_fin (n₀ := n₀) (B := B) rW bW oW lL (by omega) (by omega) (Nat.le_trans (by omega : n₀ ≤ w5.heap.size) (SZ.out w5 ⟨L, 3, none⟩ (.bool true))) (.int .i64 b) (.slice o9 k c9) (.int .i64 g) (.bool true)
        exact bodyPost_ret (v := lineV b (.slice o9 k c9) g true) (by simp [results, Try.results28, go_sem, m0, m1, m2, m3]) rfl ⟨⟨b, g, true, _, k, S, rfl, oF.mono (by rw [← HR.out]; omega), by omega, HSb.out, by omega, hgg⟩, ⟨_, rF, by omega⟩, nF, bF⟩
      · clear eL5
        go_wp2_with fail
        have rW := RDW.out _ ⟨L, 1, none⟩ (.slice none 0 0) _ (RDW.out w5 ⟨L, 3, none⟩ (.bool true) _ rd5 (by show L ≠ B; omega) (by show n₀ ≤ L; omega)) (by show L ≠ B; omega) (by show n₀ ≤ L; omega)
        have bW := (b5.setCell (p := ⟨L, 3, none⟩) (by show n₀ ≤ L; omega) (.bool true)).setCell (p := ⟨L, 1, none⟩) (by show n₀ ≤ L; omega) (.slice none 0 0)
        obtain ⟨oF, rF, nF, bF⟩ := line_fin (n₀ := n₀) (B := B) rW bW (Own.nil _ (L + 1) S) lL (by omega) (by omega) (Nat.le_trans (Nat.le_trans (by omega : n₀ ≤ w5.heap.size) (SZ.out w5 ⟨L, 3, none⟩ (.bool true))) (SZ.out _ ⟨L, 1, none⟩ (.slice none 0 0))) (.int .i64 b) (.slice none 0 0) (.int .i64 g) (.bool true)
        exact bodyPost_ret (v := lineV b (.slice none 0 0) g true) (by simp [results, Try.results28, go_sem, m0, m1, m2, m3]) rfl ⟨⟨b, g, true, _, 0, S, rfl, oF.mono (by rw [← HR.out]; omega), by omega, fun j hj => absurd hj (by omega), by omega, hgg⟩, ⟨_, rF, by omega⟩, nF, bF⟩
      · have hk63 : k + 1 ≤ maxLen := by unfold maxLen; omega
        have EL5 : Hid (w5.heap[L]? = some (.cells #[.int .i64 b, .slice o9 k c9, .int .i64 g, .bool false] 28 (0, 0))) := eL5
        have l5 : L < w5.heap.size := by omega
        clear eL5
        go_wp2_with (at_builtin; refine wpList_append_lies _ rfl _ _ _ rfl (L + 1) 9 i0 _ 1 16 Try.underlying26 hi0 hz0 hz1 hz2 rfl (by omega) _ k (strVs S k) rfl (World.ownsRow.alloc HO5.out _) ⟨w5.heap.size, 0, none⟩ 1 1 [.string ⟨#[120]⟩] rfl rfl (cell_one_new w5 (.string ⟨#[120]⟩) 9) (by simp [Value.oneCell']) (by omega) hk63 (by omega) (by simp; omega) (w5.heap.size + 1) (by simp) ?_; intro gg cap w8 hown8 hgrow hat hlt8; have e8 := (hgrow.block L (by simp; omega) (fun e => (by have := rowL L e.symm; omega))).trans ((Below.heap_alloc w5 _ L l5).trans EL5.out); have e8R := (hgrow.block R (by simp; omega) (fun e => (by have := rowL R e.symm; omega))).trans ((Below.heap_alloc w5 _ R (by omega)).trans ER5.out); have x0 : w8.cell? ⟨R, 0, none⟩ = some (.int .i64 0) := cell_of _ _ _ _ _ e8R; have x1 : w8.cell? ⟨R, 1, none⟩ = some (.slice none 0 0) := cell_of _ _ _ _ _ e8R; have x2 : w8.cell? ⟨R, 2, none⟩ = some (.int .i64 0) := cell_of _ _ _ _ _ e8R; have x3 : w8.cell? ⟨R, 3, none⟩ = some (.bool false) := cell_of _ _ _ _ _ e8R; have xf : ∀ i, w8.frozen? ⟨R, i, none⟩ = false := fun i => (by simp [World.frozen?, e8R]); have u0 : w8.cell? ⟨L, 0, none⟩ = some (.int .i64 b) := cell_of _ _ _ _ _ e8; have u1 : w8.cell? ⟨L, 1, none⟩ = some (.slice o9 k c9) := cell_of _ _ _ _ _ e8; have u2 : w8.cell? ⟨L, 2, none⟩ = some (.int .i64 g) := cell_of _ _ _ _ _ e8; have u3 : w8.cell? ⟨L, 3, none⟩ = some (.bool false) := cell_of _ _ _ _ _ e8; have uf : ∀ i, w8.frozen? ⟨L, i, none⟩ = false := fun i => (by simp [World.frozen?, e8]); have HW : Hid (Own w8 (L + 1) (.slice (some ⟨gg, 0, none⟩) (k + 1) cap) (k + 1) (addS k S ⟨#[120]⟩)) := (by show Own _ _ _ _ _; unfold Own; rw [addS_vs]; exact hown8); have BG : Hid (Below n₀ w w8) := (b5.alloc (by omega) _).trans (below_grown hgrow (by simp; omega) (fun q hq => (by have := rowL q hq; omega))); have RG : Hid (Rd n₀ w8 B (p' + 1)) := rd_grown (rd5.alloc (by omega) _) hgrow (by simp; omega) (fun q hq => (by have := rowL q hq; exact ⟨(by omega), (by omega)⟩)); have ZG : Hid (n₀ ≤ w8.heap.size) := Nat.le_trans (by simp; omega) hgrow.size; clear e8 e8R hown8 hgrow hat)
        have rW := RDW.out w8 ⟨L, 1, none⟩ (.slice (some ⟨gg, 0, none⟩) (k + 1) cap) _ RG.out (by show L ≠ B; omega) (by show n₀ ≤ L; omega)
        have bW := BG.out.setCell (p := ⟨L, 1, none⟩) (by show n₀ ≤ L; omega) (.slice (some ⟨gg, 0, none⟩) (k + 1) cap)
        have oW := HW.out.set ⟨L, 1, none⟩ (.slice (some ⟨gg, 0, none⟩) (k + 1) cap) (by show L < L + 1; omega)
        obtain ⟨oF, rF, nF, bF⟩ := line_fin (n₀ := n₀) (B := B) rW bW oW lL (by omega) (by omega) (Nat.le_trans ZG.out (SZ.out w8 ⟨L, 1, none⟩ (.slice (some ⟨gg, 0, none⟩) (k + 1) cap))) (.int .i64 b) (.slice (some ⟨gg, 0, none⟩) (k + 1) cap) (.int .i64 g) (.bool false)
        exact bodyPost_ret (v := lineV b (.slice (some ⟨gg, 0, none⟩) (k + 1) cap) g false) (by simp [results, Try.results28, go_sem, x0, x1, x2, x3]) rfl ⟨⟨b, g, false, _, k + 1, _, rfl, oF.mono (by rw [← HR.out]; omega), by omega, addS_small k S ⟨#[120]⟩ HSb.out (by show 1 ≤ 10; omega), by omega, hgg⟩, ⟨_, rF, by omega⟩, nF, bF⟩
      · have c0 : ((c : Int) == 0) = false := by simp; omega
        have c1 : ((c : Int) == 1) = false := by simp; omega
        have c2 : ((c : Int) == 2) = false := by simp; omega
        have c3 : ((c : Int) == 3) = false := by simp; omega
        clear eL5
        go_wp2_with fail
        obtain ⟨oF, rF, nF, bF⟩ := line_fin (n₀ := n₀) (B := B) rd5 b5 HO5.out lL (by omega) (by omega) (by omega) (.int .i64 b) (.slice o9 k c9) (.int .i64 g) (.bool false)
        exact bodyPost_ret (v := lineV b (.slice o9 k c9) g false) (by simp [results, Try.results28, go_sem, m0, m1, m2, m3]) rfl ⟨⟨b, g, false, _, k, S, rfl, oF.mono (by rw [← HR.out]; omega), by omega, HSb.out, by omega, hgg⟩, ⟨_, rF, by omega⟩, nF, bF⟩
    · have hj1 : (0 : Int) < (j : Int) := by omega
      clear eL eR
      have nr : n₀ ≤ wr.heap.size := by omega
      have rr := (rd.alloc nr (.cells #[.string ⟨#[60, 97, 47, 62]⟩, .string ⟨#[60, 98, 47, 62]⟩, .string ⟨#[]⟩] 9)).drew
      have hbt : (wr.alloc (.cells #[.string ⟨#[60, 97, 47, 62]⟩, .string ⟨#[60, 98, 47, 62]⟩, .string ⟨#[]⟩] 9)).drew.heap[wr.heap.size]? = some (.cells (tells.map Value.string).toArray 9 (0, 0)) := World.alloc_heap_new wr _
      have cOf := of_any n₀ B p' wr.heap.size 3 tells rfl (by omega) (by omega) (by omega) _ rr (by have := rd_lt rd; omega) hbt
      have lL1 : L < wr.heap.size := by omega
      have rowL := fun q hq => (HO.out.row q hq).1
      have AF : Hid (∀ (w7 : World) (s : ByteArray), Stepped B (wr.alloc (.cells #[.string ⟨#[60, 97, 47, 62]⟩, .string ⟨#[60, 98, 47, 62]⟩, .string ⟨#[]⟩] 9)).drew w7 → w7.cell? ⟨L, 1, none⟩ = some (.slice o9 k c9) ∧ w7.heap[L]? = some (.cells #[.int .i64 b, .slice o9 k c9, .int .i64 g, .bool false] 28 (0, 0)) ∧ w7.heap[R]? = some (.cells #[.int .i64 0, .slice none 0 0, .int .i64 0, .bool false] 28 (0, 0)) ∧ Own w7 (L + 1) (.slice o9 k c9) k S ∧ Below n₀ w w7 ∧ L + 1 ≤ w7.heap.size) := fun w7 s st => by
        have e1 := (st.2.2 L (by omega)).trans ((Below.heap_alloc wr _ L lL1).trans EL.out)
        have e2 := (st.2.2 R (by omega)).trans ((Below.heap_alloc wr _ R (by omega)).trans ER.out)
        have bb : Below n₀ wr (wr.alloc (.cells #[.string ⟨#[60, 97, 47, 62]⟩, .string ⟨#[60, 98, 47, 62]⟩, .string ⟨#[]⟩] 9)).drew := ((Below.refl n₀ wr).alloc nr _).drew
        refine ⟨cell_of _ _ _ _ _ e1, e1, e2, ?_, bw.trans (bb.trans (st.2.1.mono hB)), by rw [st.1]; simp; omega⟩
        refine ⟨HO.out.1, ?_⟩
        rcases HO.out.2 with h2 | ⟨g2, cap, cur, hv, hb2, hg2, rest⟩
        · exact .inl h2
        · exact .inr ⟨g2, cap, cur, hv, hb2, (st.2.2 g2 (by omega)).trans ((Below.heap_alloc wr _ g2 (Array.getElem?_eq_some_iff.1 hg2).1).trans hg2), rest⟩
      have hk63 : k + 1 ≤ maxLen := by unfold maxLen; omega
      have RDS : Hid (∀ (W : World) (x : Value), Rd n₀ W B (p' + 1) → Rd n₀ (W.setCell ⟨L, 1, none⟩ x) B (p' + 1)) := fun W x hr => by
        obtain ⟨hB2, v, m, hv, hmm, hh⟩ := hr
        exact ⟨hB2, v, m, hv.below ((Below.refl n₀ W).setCell (p := ⟨L, 1, none⟩) (by show n₀ ≤ L; omega) x), hmm, (Below.heap_setCell _ _ _ _ (by show B ≠ L; omega)).trans hh⟩
      have RDN : Hid (∀ (W W' : World) (row : Option Nat), n₀ ≤ W.heap.size → Rd n₀ W B (p' + 1) → W.grownBy W' row → (∀ q, row = some q → L + 1 ≤ q) → Rd n₀ W' B (p' + 1)) := fun W W' row hn hr hg hrow => by
        obtain ⟨hB2, v, m, hv, hmm, hh⟩ := hr
        have bb : Below n₀ W W' := below_grown hg hn (fun q hq => by have := hrow q hq; omega)
        exact ⟨hB2, v, m, hv.below bb, hmm, (hg.block B (Array.getElem?_eq_some_iff.1 hh).1 (fun e => by have := hrow B e.symm; omega)).trans hh⟩
      go_wp2_with fail
      refine wp_region_held_drew (S := fun _ => True) (by kernel_rfl) ?_ (fun hHeld => ?_)
      · trivial
      refine wpAnyH_take (i := 0) (v := ?_) rfl (by kernel_rfl) (by kernel_rfl) (by kernel_rfl) (fun _ _ _ h => h) (Or.inl ⟨by rfl, ?takeYdl1⟩) trivial ?takeRdl1
      case takeYdl1 => (intro w hSw; go_simp; try (with_reducible rfl))
      simp only [Act.put, List.setIfInBounds_toArray, List.set_cons_zero, List.set_cons_succ, List.getElem_toArray, List.getElem_cons_zero]
      refine wpAnyH_take (i := 2) (v := ?_) rfl (by kernel_rfl) (by kernel_rfl) (by kernel_rfl) (fun _ _ _ h => h) (Or.inl ⟨by rfl, ?takeYdl2⟩) trivial ?takeRdl2
      case takeYdl2 => (intro w hSw; go_simp; try (with_reducible rfl))
      simp only [Act.put, List.setIfInBounds_toArray, List.set_cons_zero, List.set_cons_succ, List.getElem_toArray, List.getElem_cons_zero, List.getElem_cons_succ]
      refine wpAnyH_ready (rs := [1, 3]) (by kernel_rfl) (by simp) ?_
      refine (AllReadyH.cons rfl (fun K hK => ?_) (AllReadyH.cons rfl (fun K hK => ?_) AllReadyH.nil))
      · go_simp
        refine hK.out _ _ trivial (fun _ => ?_)
        clear hK K
        try simp only [Act.put, List.setIfInBounds_toArray, List.set_cons_zero, List.set_cons_succ, List.getElem_toArray, List.getElem_cons_zero, List.getElem_cons_succ]
        refine wpAnyH_ready (rs := [3]) (by kernel_rfl) (by simp) ?_
        refine (AllReadyH.cons rfl (fun K hK => ?_) AllReadyH.nil)
        go_simp
        refine hK.out _ _ trivial (fun _ => ?_)
        clear hK K
        try simp only [Act.put, List.setIfInBounds_toArray, List.set_cons_zero, List.set_cons_succ, List.getElem_toArray, List.getElem_cons_zero, List.getElem_cons_succ]
        refine wpAnyH_ready (rs := [4]) (by kernel_rfl) (by simp) ?_
        refine (AllReadyH.cons rfl (fun K hK => ?_) AllReadyH.nil)
        go_simp
        refine cOf.mono ?_
        rintro e w7 ⟨⟨s, hs, rfl⟩, rd7, st7⟩
        obtain ⟨k7, eL7, eR7, O7, B7, z7⟩ := AF.out w7 s st7
        have l7 : L < w7.heap.size := by omega
        have EL7 : Hid (w7.heap[L]? = some (.cells #[.int .i64 b, .slice o9 k c9, .int .i64 g, .bool false] 28 (0, 0))) := eL7
        have ER7 : Hid (w7.heap[R]? = some (.cells #[.int .i64 0, .slice none 0 0, .int .i64 0, .bool false] 28 (0, 0))) := eR7
        have HO7 : Hid (Own w7 (L + 1) (.slice o9 k c9) k S) := O7
        clear eL7 eR7 O7 st7
        go_wp2_with fail
        refine hK.out _ _ trivial (fun _ => ?_)
        clear hK K
        try simp only [Act.put, List.setIfInBounds_toArray, List.set_cons_zero, List.set_cons_succ, List.getElem_toArray, List.getElem_cons_zero, List.getElem_cons_succ]
        refine wpAnyH_ready (rs := [5]) (by kernel_rfl) (by simp) ?_
        refine (AllReadyH.cons rfl (fun K hK => ?_) AllReadyH.nil)
        go_simp
        refine hK.out _ _ trivial (fun _ => ?_)
        clear hK K
        try simp only [Act.put, List.setIfInBounds_toArray, List.set_cons_zero, List.set_cons_succ, List.getElem_toArray, List.getElem_cons_zero, List.getElem_cons_succ]
        refine wpAnyH_ready (rs := [6]) (by kernel_rfl) (by simp) ?_
        refine (AllReadyH.cons rfl (fun K hK => ?_) AllReadyH.nil)
        refine step_append_lies _ (by rfl) _ _ _ (by rfl) (L + 1) 9 i0 _ 1 16 Try.underlying26 hi0 hz0 hz1 hz2 rfl (by omega) (.slice o9 k c9) k (strVs S k) (by rfl) (World.ownsRow.alloc HO7.out _) ⟨w7.heap.size, 0, none⟩ 1 1 [.string s] (by rfl) (by rfl) (cell_one_new w7 (.string s) 9) (by simp [Value.oneCell']) (by omega) hk63 (by omega) (by simp; omega) (w7.heap.size + 1) (by simp) ?_
        intro gg cap w8 hown8 hgrow hat hlt8
        have e8 := (hgrow.block L (by simp; omega) (fun e => by have := rowL L e.symm; omega)).trans ((Below.heap_alloc w7 _ L l7).trans EL7.out)
        have e8R := (hgrow.block R (by simp; omega) (fun e => by have := rowL R e.symm; omega)).trans ((Below.heap_alloc w7 _ R (by omega)).trans ER7.out)
        have k81 : w8.cell? ⟨L, 1, none⟩ = some (.slice o9 k c9) := cell_of _ _ _ _ _ e8
        have f8 : ∀ i, w8.frozen? ⟨L, i, none⟩ = false := fun i => by simp [World.frozen?, e8]
        refine hK.out _ _ trivial (fun _ => ?_)
        clear hK K
        try simp only [Act.put, List.setIfInBounds_toArray, List.set_cons_zero, List.set_cons_succ, List.getElem_toArray, List.getElem_cons_zero, List.getElem_cons_succ]
        refine wpAnyH_take (i := 7) (v := ?_) rfl (by kernel_rfl) (by kernel_rfl) (by kernel_rfl) (fun _ _ _ h => h) (Or.inl ⟨by rfl, ?takeYdl3⟩) trivial ?takeRdl3
        case takeYdl3 => (intro w hSw; go_simp; try (with_reducible rfl))
        simp only [Act.put, List.setIfInBounds_toArray, List.set_cons_zero, List.set_cons_succ, List.getElem_toArray, List.getElem_cons_zero, List.getElem_cons_succ]
        refine wpAnyH_ready (rs := [8]) (by kernel_rfl) (by simp) ?_
        refine (AllReadyH.cons rfl (fun K hK => ?_) AllReadyH.nil)
        go_simp
        refine hK.out _ _ trivial (fun _ => ?_)
        clear hK K
        try simp only [Act.put, List.setIfInBounds_toArray, List.set_cons_zero, List.set_cons_succ, List.getElem_toArray, List.getElem_cons_zero, List.getElem_cons_succ]
        refine wpAnyH_done (by kernel_rfl) ?_ _
        have hgr : Below n₀ (w7.alloc (.cells #[.string s] 9)) w8 := below_grown hgrow (by simp; omega) (fun q hq => by have := rowL q hq; omega)
        have b8 : Below n₀ w w8 := (B7.alloc (by omega) _).trans hgr
        have rd8 := RDN.out _ _ _ (by simp; omega) (rd7.alloc (by omega) (.cells #[.string s] 9)) hgrow (fun q hq => by have := rowL q hq; omega)
        have hO8 : Own w8 (L + 1) (.slice (some ⟨gg, 0, none⟩) (k + 1) cap) (k + 1) (addS k S s) := by unfold Own; rw [addS_vs]; exact hown8
        have HO8 : Hid (Own w8 (L + 1) (.slice (some ⟨gg, 0, none⟩) (k + 1) cap) (k + 1) (addS k S s)) := hO8
        have z8 := hgrow.size
        have HSS : Hid (∀ j, j < k + 1 → (addS k S s j).size ≤ 10) := addS_small k S s HS.out (tells_in s hs)
        have E8 : Hid (w8.heap[L]? = some (.cells #[.int .i64 b, .slice o9 k c9, .int .i64 g, .bool false] 28 (0, 0))) := e8
        have E8R : Hid (w8.heap[R]? = some (.cells #[.int .i64 0, .slice none 0 0, .int .i64 0, .bool false] 28 (0, 0))) := e8R
        clear e8 e8R hown8 hgrow hgr hO8 hat
        go_wp2_with fail
        have st8 := HO8.out.set ⟨L, 1, none⟩ (.slice (some ⟨gg, 0, none⟩) (k + 1) cap) (by show L < L + 1; omega)
        exact ⟨⟨j - 1, k + 1, p' + 1, .slice (some ⟨gg, 0, none⟩) (k + 1) cap, addS k S s, by congr 1; omega, by omega, by omega, RDS.out _ _ rd8, by have := ((Below.refl 0 w8).setCell (p := ⟨L, 1, none⟩) (Nat.zero_le _) (.slice (some ⟨gg, 0, none⟩) (k + 1) cap)).size; simp at z8; omega, set_heap w8 L 1 _ _ _ _ E8.out, (Below.heap_setCell _ _ _ _ (by show R ≠ L; omega)).trans E8R.out, st8, HSS, b8.setCell (p := ⟨L, 1, none⟩) (by show n₀ ≤ L; omega) _⟩, by simp [intOf]; omega⟩
      · go_simp
        refine hK.out _ _ trivial (fun _ => ?_)
        clear hK K
        try simp only [Act.put, List.setIfInBounds_toArray, List.set_cons_zero, List.set_cons_succ, List.getElem_toArray, List.getElem_cons_zero, List.getElem_cons_succ]
        refine wpAnyH_ready (rs := [1, 4]) (by kernel_rfl) (by simp) ?_
        refine (AllReadyH.cons rfl (fun K hK => ?_) (AllReadyH.cons rfl (fun K hK => ?_) AllReadyH.nil))
        · go_simp
          refine hK.out _ _ trivial (fun _ => ?_)
          clear hK K
          try simp only [Act.put, List.setIfInBounds_toArray, List.set_cons_zero, List.set_cons_succ, List.getElem_toArray, List.getElem_cons_zero, List.getElem_cons_succ]
          refine wpAnyH_ready (rs := [4]) (by kernel_rfl) (by simp) ?_
          refine (AllReadyH.cons rfl (fun K hK => ?_) AllReadyH.nil)
          go_simp
          refine cOf.mono ?_
          rintro e w7 ⟨⟨s, hs, rfl⟩, rd7, st7⟩
          obtain ⟨k7, eL7, eR7, O7, B7, z7⟩ := AF.out w7 s st7
          have l7 : L < w7.heap.size := by omega
          have EL7 : Hid (w7.heap[L]? = some (.cells #[.int .i64 b, .slice o9 k c9, .int .i64 g, .bool false] 28 (0, 0))) := eL7
          have ER7 : Hid (w7.heap[R]? = some (.cells #[.int .i64 0, .slice none 0 0, .int .i64 0, .bool false] 28 (0, 0))) := eR7
          have HO7 : Hid (Own w7 (L + 1) (.slice o9 k c9) k S) := O7
          clear eL7 eR7 O7 st7
          go_wp2_with fail
          refine hK.out _ _ trivial (fun _ => ?_)
          clear hK K
          try simp only [Act.put, List.setIfInBounds_toArray, List.set_cons_zero, List.set_cons_succ, List.getElem_toArray, List.getElem_cons_zero, List.getElem_cons_succ]
          refine wpAnyH_ready (rs := [5]) (by kernel_rfl) (by simp) ?_
          refine (AllReadyH.cons rfl (fun K hK => ?_) AllReadyH.nil)
          go_simp
          refine hK.out _ _ trivial (fun _ => ?_)
          clear hK K
          try simp only [Act.put, List.setIfInBounds_toArray, List.set_cons_zero, List.set_cons_succ, List.getElem_toArray, List.getElem_cons_zero, List.getElem_cons_succ]
          refine wpAnyH_ready (rs := [6]) (by kernel_rfl) (by simp) ?_
          refine (AllReadyH.cons rfl (fun K hK => ?_) AllReadyH.nil)
          refine step_append_lies _ (by rfl) _ _ _ (by rfl) (L + 1) 9 i0 _ 1 16 Try.underlying26 hi0 hz0 hz1 hz2 rfl (by omega) (.slice o9 k c9) k (strVs S k) (by rfl) (World.ownsRow.alloc HO7.out _) ⟨w7.heap.size, 0, none⟩ 1 1 [.string s] (by rfl) (by rfl) (cell_one_new w7 (.string s) 9) (by simp [Value.oneCell']) (by omega) hk63 (by omega) (by simp; omega) (w7.heap.size + 1) (by simp) ?_
          intro gg cap w8 hown8 hgrow hat hlt8
          have e8 := (hgrow.block L (by simp; omega) (fun e => by have := rowL L e.symm; omega)).trans ((Below.heap_alloc w7 _ L l7).trans EL7.out)
          have e8R := (hgrow.block R (by simp; omega) (fun e => by have := rowL R e.symm; omega)).trans ((Below.heap_alloc w7 _ R (by omega)).trans ER7.out)
          have k81 : w8.cell? ⟨L, 1, none⟩ = some (.slice o9 k c9) := cell_of _ _ _ _ _ e8
          have f8 : ∀ i, w8.frozen? ⟨L, i, none⟩ = false := fun i => by simp [World.frozen?, e8]
          refine hK.out _ _ trivial (fun _ => ?_)
          clear hK K
          try simp only [Act.put, List.setIfInBounds_toArray, List.set_cons_zero, List.set_cons_succ, List.getElem_toArray, List.getElem_cons_zero, List.getElem_cons_succ]
          refine wpAnyH_take (i := 7) (v := ?_) rfl (by kernel_rfl) (by kernel_rfl) (by kernel_rfl) (fun _ _ _ h => h) (Or.inl ⟨by rfl, ?takeYdl4⟩) trivial ?takeRdl4
          case takeYdl4 => (intro w hSw; go_simp; try (with_reducible rfl))
          simp only [Act.put, List.setIfInBounds_toArray, List.set_cons_zero, List.set_cons_succ, List.getElem_toArray, List.getElem_cons_zero, List.getElem_cons_succ]
          refine wpAnyH_ready (rs := [8]) (by kernel_rfl) (by simp) ?_
          refine (AllReadyH.cons rfl (fun K hK => ?_) AllReadyH.nil)
          go_simp
          refine hK.out _ _ trivial (fun _ => ?_)
          clear hK K
          try simp only [Act.put, List.setIfInBounds_toArray, List.set_cons_zero, List.set_cons_succ, List.getElem_toArray, List.getElem_cons_zero, List.getElem_cons_succ]
          refine wpAnyH_done (by kernel_rfl) ?_ _
          have hgr : Below n₀ (w7.alloc (.cells #[.string s] 9)) w8 := below_grown hgrow (by simp; omega) (fun q hq => by have := rowL q hq; omega)
          have b8 : Below n₀ w w8 := (B7.alloc (by omega) _).trans hgr
          have rd8 := RDN.out _ _ _ (by simp; omega) (rd7.alloc (by omega) (.cells #[.string s] 9)) hgrow (fun q hq => by have := rowL q hq; omega)
          have hO8 : Own w8 (L + 1) (.slice (some ⟨gg, 0, none⟩) (k + 1) cap) (k + 1) (addS k S s) := by unfold Own; rw [addS_vs]; exact hown8
          have HO8 : Hid (Own w8 (L + 1) (.slice (some ⟨gg, 0, none⟩) (k + 1) cap) (k + 1) (addS k S s)) := hO8
          have z8 := hgrow.size
          have HSS : Hid (∀ j, j < k + 1 → (addS k S s j).size ≤ 10) := addS_small k S s HS.out (tells_in s hs)
          have E8 : Hid (w8.heap[L]? = some (.cells #[.int .i64 b, .slice o9 k c9, .int .i64 g, .bool false] 28 (0, 0))) := e8
          have E8R : Hid (w8.heap[R]? = some (.cells #[.int .i64 0, .slice none 0 0, .int .i64 0, .bool false] 28 (0, 0))) := e8R
          clear e8 e8R hown8 hgrow hgr hO8 hat
          go_wp2_with fail
          have st8 := HO8.out.set ⟨L, 1, none⟩ (.slice (some ⟨gg, 0, none⟩) (k + 1) cap) (by show L < L + 1; omega)
          exact ⟨⟨j - 1, k + 1, p' + 1, .slice (some ⟨gg, 0, none⟩) (k + 1) cap, addS k S s, by congr 1; omega, by omega, by omega, RDS.out _ _ rd8, by have := ((Below.refl 0 w8).setCell (p := ⟨L, 1, none⟩) (Nat.zero_le _) (.slice (some ⟨gg, 0, none⟩) (k + 1) cap)).size; simp at z8; omega, set_heap w8 L 1 _ _ _ _ E8.out, (Below.heap_setCell _ _ _ _ (by show R ≠ L; omega)).trans E8R.out, st8, HSS, b8.setCell (p := ⟨L, 1, none⟩) (by show n₀ ≤ L; omega) _⟩, by simp [intOf]; omega⟩
        · go_simp
          refine cOf.mono ?_
          rintro e w7 ⟨⟨s, hs, rfl⟩, rd7, st7⟩
          obtain ⟨k7, eL7, eR7, O7, B7, z7⟩ := AF.out w7 s st7
          have l7 : L < w7.heap.size := by omega
          have EL7 : Hid (w7.heap[L]? = some (.cells #[.int .i64 b, .slice o9 k c9, .int .i64 g, .bool false] 28 (0, 0))) := eL7
          have ER7 : Hid (w7.heap[R]? = some (.cells #[.int .i64 0, .slice none 0 0, .int .i64 0, .bool false] 28 (0, 0))) := eR7
          have HO7 : Hid (Own w7 (L + 1) (.slice o9 k c9) k S) := O7
          clear eL7 eR7 O7 st7
          go_wp2_with fail
          refine hK.out _ _ trivial (fun _ => ?_)
          clear hK K
          try simp only [Act.put, List.setIfInBounds_toArray, List.set_cons_zero, List.set_cons_succ, List.getElem_toArray, List.getElem_cons_zero, List.getElem_cons_succ]
          refine wpAnyH_ready (rs := [1, 5]) (by kernel_rfl) (by simp) ?_
          refine (AllReadyH.cons rfl (fun K hK => ?_) (AllReadyH.cons rfl (fun K hK => ?_) AllReadyH.nil))
          · go_simp
            refine hK.out _ _ trivial (fun _ => ?_)
            clear hK K
            try simp only [Act.put, List.setIfInBounds_toArray, List.set_cons_zero, List.set_cons_succ, List.getElem_toArray, List.getElem_cons_zero, List.getElem_cons_succ]
            refine wpAnyH_ready (rs := [5]) (by kernel_rfl) (by simp) ?_
            refine (AllReadyH.cons rfl (fun K hK => ?_) AllReadyH.nil)
            go_simp
            refine hK.out _ _ trivial (fun _ => ?_)
            clear hK K
            try simp only [Act.put, List.setIfInBounds_toArray, List.set_cons_zero, List.set_cons_succ, List.getElem_toArray, List.getElem_cons_zero, List.getElem_cons_succ]
            refine wpAnyH_ready (rs := [6]) (by kernel_rfl) (by simp) ?_
            refine (AllReadyH.cons rfl (fun K hK => ?_) AllReadyH.nil)
            refine step_append_lies _ (by rfl) _ _ _ (by rfl) (L + 1) 9 i0 _ 1 16 Try.underlying26 hi0 hz0 hz1 hz2 rfl (by omega) (.slice o9 k c9) k (strVs S k) (by rfl) (World.ownsRow.alloc HO7.out _) ⟨w7.heap.size, 0, none⟩ 1 1 [.string s] (by rfl) (by rfl) (cell_one_new w7 (.string s) 9) (by simp [Value.oneCell']) (by omega) hk63 (by omega) (by simp; omega) (w7.heap.size + 1) (by simp) ?_
            intro gg cap w8 hown8 hgrow hat hlt8
            have e8 := (hgrow.block L (by simp; omega) (fun e => by have := rowL L e.symm; omega)).trans ((Below.heap_alloc w7 _ L l7).trans EL7.out)
            have e8R := (hgrow.block R (by simp; omega) (fun e => by have := rowL R e.symm; omega)).trans ((Below.heap_alloc w7 _ R (by omega)).trans ER7.out)
            have k81 : w8.cell? ⟨L, 1, none⟩ = some (.slice o9 k c9) := cell_of _ _ _ _ _ e8
            have f8 : ∀ i, w8.frozen? ⟨L, i, none⟩ = false := fun i => by simp [World.frozen?, e8]
            refine hK.out _ _ trivial (fun _ => ?_)
            clear hK K
            try simp only [Act.put, List.setIfInBounds_toArray, List.set_cons_zero, List.set_cons_succ, List.getElem_toArray, List.getElem_cons_zero, List.getElem_cons_succ]
            refine wpAnyH_take (i := 7) (v := ?_) rfl (by kernel_rfl) (by kernel_rfl) (by kernel_rfl) (fun _ _ _ h => h) (Or.inl ⟨by rfl, ?takeYdl5⟩) trivial ?takeRdl5
            case takeYdl5 => (intro w hSw; go_simp; try (with_reducible rfl))
            simp only [Act.put, List.setIfInBounds_toArray, List.set_cons_zero, List.set_cons_succ, List.getElem_toArray, List.getElem_cons_zero, List.getElem_cons_succ]
            refine wpAnyH_ready (rs := [8]) (by kernel_rfl) (by simp) ?_
            refine (AllReadyH.cons rfl (fun K hK => ?_) AllReadyH.nil)
            go_simp
            refine hK.out _ _ trivial (fun _ => ?_)
            clear hK K
            try simp only [Act.put, List.setIfInBounds_toArray, List.set_cons_zero, List.set_cons_succ, List.getElem_toArray, List.getElem_cons_zero, List.getElem_cons_succ]
            refine wpAnyH_done (by kernel_rfl) ?_ _
            have hgr : Below n₀ (w7.alloc (.cells #[.string s] 9)) w8 := below_grown hgrow (by simp; omega) (fun q hq => by have := rowL q hq; omega)
            have b8 : Below n₀ w w8 := (B7.alloc (by omega) _).trans hgr
            have rd8 := RDN.out _ _ _ (by simp; omega) (rd7.alloc (by omega) (.cells #[.string s] 9)) hgrow (fun q hq => by have := rowL q hq; omega)
            have hO8 : Own w8 (L + 1) (.slice (some ⟨gg, 0, none⟩) (k + 1) cap) (k + 1) (addS k S s) := by unfold Own; rw [addS_vs]; exact hown8
            have HO8 : Hid (Own w8 (L + 1) (.slice (some ⟨gg, 0, none⟩) (k + 1) cap) (k + 1) (addS k S s)) := hO8
            have z8 := hgrow.size
            have HSS : Hid (∀ j, j < k + 1 → (addS k S s j).size ≤ 10) := addS_small k S s HS.out (tells_in s hs)
            have E8 : Hid (w8.heap[L]? = some (.cells #[.int .i64 b, .slice o9 k c9, .int .i64 g, .bool false] 28 (0, 0))) := e8
            have E8R : Hid (w8.heap[R]? = some (.cells #[.int .i64 0, .slice none 0 0, .int .i64 0, .bool false] 28 (0, 0))) := e8R
            clear e8 e8R hown8 hgrow hgr hO8 hat
            go_wp2_with fail
            have st8 := HO8.out.set ⟨L, 1, none⟩ (.slice (some ⟨gg, 0, none⟩) (k + 1) cap) (by show L < L + 1; omega)
            exact ⟨⟨j - 1, k + 1, p' + 1, .slice (some ⟨gg, 0, none⟩) (k + 1) cap, addS k S s, by congr 1; omega, by omega, by omega, RDS.out _ _ rd8, by have := ((Below.refl 0 w8).setCell (p := ⟨L, 1, none⟩) (Nat.zero_le _) (.slice (some ⟨gg, 0, none⟩) (k + 1) cap)).size; simp at z8; omega, set_heap w8 L 1 _ _ _ _ E8.out, (Below.heap_setCell _ _ _ _ (by show R ≠ L; omega)).trans E8R.out, st8, HSS, b8.setCell (p := ⟨L, 1, none⟩) (by show n₀ ≤ L; omega) _⟩, by simp [intOf]; omega⟩
          · go_simp
            refine hK.out _ _ trivial (fun _ => ?_)
            clear hK K
            try simp only [Act.put, List.setIfInBounds_toArray, List.set_cons_zero, List.set_cons_succ, List.getElem_toArray, List.getElem_cons_zero, List.getElem_cons_succ]
            refine wpAnyH_ready (rs := [1]) (by kernel_rfl) (by simp) ?_
            refine (AllReadyH.cons rfl (fun K hK => ?_) AllReadyH.nil)
            go_simp
            refine hK.out _ _ trivial (fun _ => ?_)
            clear hK K
            try simp only [Act.put, List.setIfInBounds_toArray, List.set_cons_zero, List.set_cons_succ, List.getElem_toArray, List.getElem_cons_zero, List.getElem_cons_succ]
            refine wpAnyH_ready (rs := [6]) (by kernel_rfl) (by simp) ?_
            refine (AllReadyH.cons rfl (fun K hK => ?_) AllReadyH.nil)
            refine step_append_lies _ (by rfl) _ _ _ (by rfl) (L + 1) 9 i0 _ 1 16 Try.underlying26 hi0 hz0 hz1 hz2 rfl (by omega) (.slice o9 k c9) k (strVs S k) (by rfl) (World.ownsRow.alloc HO7.out _) ⟨w7.heap.size, 0, none⟩ 1 1 [.string s] (by rfl) (by rfl) (cell_one_new w7 (.string s) 9) (by simp [Value.oneCell']) (by omega) hk63 (by omega) (by simp; omega) (w7.heap.size + 1) (by simp) ?_
            intro gg cap w8 hown8 hgrow hat hlt8
            have e8 := (hgrow.block L (by simp; omega) (fun e => by have := rowL L e.symm; omega)).trans ((Below.heap_alloc w7 _ L l7).trans EL7.out)
            have e8R := (hgrow.block R (by simp; omega) (fun e => by have := rowL R e.symm; omega)).trans ((Below.heap_alloc w7 _ R (by omega)).trans ER7.out)
            have k81 : w8.cell? ⟨L, 1, none⟩ = some (.slice o9 k c9) := cell_of _ _ _ _ _ e8
            have f8 : ∀ i, w8.frozen? ⟨L, i, none⟩ = false := fun i => by simp [World.frozen?, e8]
            refine hK.out _ _ trivial (fun _ => ?_)
            clear hK K
            try simp only [Act.put, List.setIfInBounds_toArray, List.set_cons_zero, List.set_cons_succ, List.getElem_toArray, List.getElem_cons_zero, List.getElem_cons_succ]
            refine wpAnyH_take (i := 7) (v := ?_) rfl (by kernel_rfl) (by kernel_rfl) (by kernel_rfl) (fun _ _ _ h => h) (Or.inl ⟨by rfl, ?takeYdl6⟩) trivial ?takeRdl6
            case takeYdl6 => (intro w hSw; go_simp; try (with_reducible rfl))
            simp only [Act.put, List.setIfInBounds_toArray, List.set_cons_zero, List.set_cons_succ, List.getElem_toArray, List.getElem_cons_zero, List.getElem_cons_succ]
            refine wpAnyH_ready (rs := [8]) (by kernel_rfl) (by simp) ?_
            refine (AllReadyH.cons rfl (fun K hK => ?_) AllReadyH.nil)
            go_simp
            refine hK.out _ _ trivial (fun _ => ?_)
            clear hK K
            try simp only [Act.put, List.setIfInBounds_toArray, List.set_cons_zero, List.set_cons_succ, List.getElem_toArray, List.getElem_cons_zero, List.getElem_cons_succ]
            refine wpAnyH_done (by kernel_rfl) ?_ _
            have hgr : Below n₀ (w7.alloc (.cells #[.string s] 9)) w8 := below_grown hgrow (by simp; omega) (fun q hq => by have := rowL q hq; omega)
            have b8 : Below n₀ w w8 := (B7.alloc (by omega) _).trans hgr
            have rd8 := RDN.out _ _ _ (by simp; omega) (rd7.alloc (by omega) (.cells #[.string s] 9)) hgrow (fun q hq => by have := rowL q hq; omega)
            have hO8 : Own w8 (L + 1) (.slice (some ⟨gg, 0, none⟩) (k + 1) cap) (k + 1) (addS k S s) := by unfold Own; rw [addS_vs]; exact hown8
            have HO8 : Hid (Own w8 (L + 1) (.slice (some ⟨gg, 0, none⟩) (k + 1) cap) (k + 1) (addS k S s)) := hO8
            have z8 := hgrow.size
            have HSS : Hid (∀ j, j < k + 1 → (addS k S s j).size ≤ 10) := addS_small k S s HS.out (tells_in s hs)
            have E8 : Hid (w8.heap[L]? = some (.cells #[.int .i64 b, .slice o9 k c9, .int .i64 g, .bool false] 28 (0, 0))) := e8
            have E8R : Hid (w8.heap[R]? = some (.cells #[.int .i64 0, .slice none 0 0, .int .i64 0, .bool false] 28 (0, 0))) := e8R
            clear e8 e8R hown8 hgrow hgr hO8 hat
            go_wp2_with fail
            have st8 := HO8.out.set ⟨L, 1, none⟩ (.slice (some ⟨gg, 0, none⟩) (k + 1) cap) (by show L < L + 1; omega)
            exact ⟨⟨j - 1, k + 1, p' + 1, .slice (some ⟨gg, 0, none⟩) (k + 1) cap, addS k S s, by congr 1; omega, by omega, by omega, RDS.out _ _ rd8, by have := ((Below.refl 0 w8).setCell (p := ⟨L, 1, none⟩) (Nat.zero_le _) (.slice (some ⟨gg, 0, none⟩) (k + 1) cap)).size; simp at z8; omega, set_heap w8 L 1 _ _ _ _ E8.out, (Below.heap_setCell _ _ _ _ (by show R ≠ L; omega)).trans E8R.out, st8, HSS, b8.setCell (p := ⟨L, 1, none⟩) (by show n₀ ≤ L; omega) _⟩, by simp [intOf]; omega⟩
end Go.Proofs.Ytpicccdlaiaemaa.Hub
