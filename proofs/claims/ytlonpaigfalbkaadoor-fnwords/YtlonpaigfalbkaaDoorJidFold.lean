/-
  Large letters as small ones: the program's smallLetters and the model's l4Fold: at every text of at most 2^40 bytes they answer foldT.
-/
import Derived.Test.YtlonpaigfalbkaaDoorJidCut
import Derived.Lib.ConvBytes
import Derived.Laws.BytesArg
namespace Go.Proofs.YtlonpaigfalbkaaDoor.Hub
open Go.RowKit
set_option linter.unusedVariables false

/-- A byte, small if it is a large letter. -/
def foldB (b : UInt8) : UInt8 := if 65 ≤ b.toNat ∧ b.toNat ≤ 90 then b + 32 else b
def foldT (s : ByteArray) : ByteArray := ofL (s.data.toList.map foldB)
theorem foldT_size (s : ByteArray) : (foldT s).size = s.size := by
  unfold foldT
  rw [ofL_size, List.length_map]
  rfl
theorem foldB_yes (b : UInt8) (h : 65 ≤ b.toNat ∧ b.toNat ≤ 90) : ((foldB b).toNat : Int) = (b.toNat : Int) + 32 := by
  unfold foldB
  rw [if_pos h, UInt8.toNat_add]
  have : (32 : UInt8).toNat = 32 := rfl
  omega
theorem foldB_no (b : UInt8) (h : ¬ (65 ≤ b.toNat ∧ b.toNat ≤ 90)) : foldB b = b := by
  unfold foldB
  rw [if_neg h]
/-- The cells of bytes. -/
def u8s (l : List UInt8) : List Value := l.map fun b => Value.int .u8 (b.toNat : Int)
theorem u8s_snoc (l : List UInt8) (b : UInt8) : u8s (l ++ [b]) = u8s l ++ [.int .u8 (b.toNat : Int)] := by simp [u8s]
theorem fold_take (s : ByteArray) (k : Nat) (h : k < s.size) : (s.data.toList.take (k + 1)).map foldB = (s.data.toList.take k).map foldB ++ [foldB s[k]] := by
  rw [take_snoc s k h]
  simp
theorem info_u8 : (Tryd.prog.info? 5).map (fun i => (i.zero, i.size, i.bytes)) = some (some (.int .u8 0), 1, 1) := by kernel_rfl
theorem cell_one8 (W : World) (v : Value) : ∀ (j : Nat) (u : Value), [v][j]? = some u → (W.alloc (.cells #[v] 5)).cell? ((⟨W.heap.size, 0, none⟩ : Addr).add j) = some u := by
  intro j u hj
  match j, hj with
  | 0, hj => simp at hj; subst hj; simp [Addr.add]
theorem one_cell8 (x : Int) : ∀ u ∈ [Value.int .u8 x], u.oneCell' = true := by
  intro u hu
  simp at hu
  subst hu
  rfl

set_option maxRecDepth 100000 in
set_option maxHeartbeats 1000000 in
theorem l4Fold_any (s : ByteArray) (w : World) (hs : s.size ≤ 1099511627776) :
    Calls Tryd.prog 22 #[.string s] w fun e w' => e = .returned (.string (foldT s)) ∧ Below w.heap.size w w' := by
  obtain ⟨i0, hi, hz0, hz1, hz2⟩ := info_parts info_u8
  go_enter Tryd.func22, Tryd.ntmps22
  go_wp2_with fail
  go_loopw [3, 4] (fun o i wr => ∃ k g cap : Nat, k ≤ s.size ∧ i = .int .i64 k ∧ o = .slice (some ⟨g, 0, none⟩) k cap ∧ Hid (w.heap.size ≤ g) ∧ wr.ownsRow w.heap.size 5 1 o k (u8s ((s.data.toList.take k).map foldB)) ∧ Below w.heap.size w wr) (fun _ i _ => s.size - (intOf i).toNat)
  case atStart =>
    exact ⟨0, w.heap.size, 0, by omega, rfl, rfl, Nat.le_refl w.heap.size, World.ownsRow_made w #[] 0 (Nat.le_refl _) (Nat.zero_le _) rfl, (Below.refl _ w).alloc (Nat.le_refl _) _⟩
  case round =>
    obtain ⟨k, g, cap, hk, rfl, rfl, hg, hown, hnx⟩ := hrel
    by_cases hlt : k < s.size
    · have hfin : ∀ (x : Int), x = ((foldB s[k]).toNat : Int) → ∀ (w1 : World) (g' cap' : Nat), w1.ownsRow w.heap.size 5 1 (.slice (some ⟨g', 0, none⟩) (k + 1) cap') (k + 1) (u8s ((s.data.toList.take k).map foldB) ++ [.int .u8 x]) → w1.ownsRow w.heap.size 5 1 (.slice (some ⟨g', 0, none⟩) (k + 1) cap') (k + 1) (u8s ((s.data.toList.take (k + 1)).map foldB)) := fun x hx w1 g' cap' h => by
        rw [fold_take s k hlt, u8s_snoc, ← hx]; exact h
      have HF : Hid (∀ (x : Int), x = ((foldB s[k]).toNat : Int) → ∀ (w1 : World) (g' cap' : Nat), w1.ownsRow w.heap.size 5 1 (.slice (some ⟨g', 0, none⟩) (k + 1) cap') (k + 1) (u8s ((s.data.toList.take k).map foldB) ++ [.int .u8 x]) → w1.ownsRow w.heap.size 5 1 (.slice (some ⟨g', 0, none⟩) (k + 1) cap') (k + 1) (u8s ((s.data.toList.take (k + 1)).map foldB))) := hfin
      clear hfin
      by_cases hx : 65 ≤ s[k].toNat ∧ s[k].toNat ≤ 90
      · have hy := foldB_yes _ hx
        have a1 : (65 : Int) ≤ (s[k].toNat : Int) := by omega
        have a2 : (s[k].toNat : Int) ≤ 90 := by omega
        have HY : Hid (((foldB s[k]).toNat : Int) = (s[k].toNat : Int) + 32) := hy
        clear hy hx
        go_wp2_with (at_builtin; refine wpList_append_own _ rfl _ _ 22 rfl w.heap.size 5 i0 (.int .u8 0) 1 1 Tryd.underlying22 hi hz0 hz1 hz2 rfl (by decide) _ _ _ rfl (hown.alloc _) ⟨wr.heap.size, 0, none⟩ 1 1 [.int .u8 ((s[k].toNat : Int) + 32)] rfl rfl (cell_one8 _ _) (one_cell8 _) (le_maxLen _ (by omega)) (by omega) (by have := hnx.size; simp; omega) ?_; intro v' w1 hown' hgrow hnil)
        obtain ⟨g', cap', rfl⟩ := ownsRow_succ hown'
        have hb1 := (hnx.alloc hnx.size _).grown hgrow (by have := hnx.size; simp; omega) (fun j e => by cases e; exact hg.out)
        have hg' : Hid (w.heap.size ≤ g') := by
          rcases hown'.2 with ⟨e, _⟩ | ⟨g2, c2, cur, e, h2, _⟩
          · cases e
          · cases e; exact h2
        have hown2 := HF.out _ HY.out.symm _ _ _ hown'
        clear hgrow hown hown'
        go_wp2_with fail
        go_roundw
        case rel => exact ⟨k + 1, g', cap', by omega, by go_num, rfl, hg', hown2, hb1⟩
        case measure => simp [intOf]; omega
      · have hy := foldB_no _ hx
        have HY : Hid (((foldB s[k]).toNat : Int) = (s[k].toNat : Int)) := (by rw [hy] : ((foldB s[k]).toNat : Int) = (s[k].toNat : Int))
        clear hy
        rcases (by omega : s[k].toNat < 65 ∨ (65 ≤ s[k].toNat ∧ 90 < s[k].toNat)) with a0 | ⟨a0, a3⟩
        · have a1 : decide ((65 : Int) ≤ (s[k].toNat : Int)) = false := by simp; omega
          have a2 : (s[k].toNat : Int) < 65 := by omega
          clear hx a0
          go_wp2_with (at_builtin; refine wpList_append_own _ rfl _ _ 22 rfl w.heap.size 5 i0 (.int .u8 0) 1 1 Tryd.underlying22 hi hz0 hz1 hz2 rfl (by decide) _ _ _ rfl (hown.alloc _) ⟨wr.heap.size, 0, none⟩ 1 1 [.int .u8 (s[k].toNat : Int)] rfl rfl (cell_one8 _ _) (one_cell8 _) (le_maxLen _ (by omega)) (by omega) (by have := hnx.size; simp; omega) ?_; intro v' w1 hown' hgrow hnil)
          obtain ⟨g', cap', rfl⟩ := ownsRow_succ hown'
          have hb1 := (hnx.alloc hnx.size _).grown hgrow (by have := hnx.size; simp; omega) (fun j e => by cases e; exact hg.out)
          have hg' : Hid (w.heap.size ≤ g') := by
            rcases hown'.2 with ⟨e, _⟩ | ⟨g2, c2, cur, e, h2, _⟩
            · cases e
            · cases e; exact h2
          have hown2 := HF.out _ HY.out.symm _ _ _ hown'
          clear hgrow hown hown'
          go_wp2_with fail
          go_roundw
          case rel => exact ⟨k + 1, g', cap', by omega, by go_num, rfl, hg', hown2, hb1⟩
          case measure => simp [intOf]; omega
        · have a1 : (65 : Int) ≤ (s[k].toNat : Int) := by omega
          have a2 : decide ((s[k].toNat : Int) ≤ 90) = false := by simp; omega
          have a4 : (90 : Int) < (s[k].toNat : Int) := by omega
          clear hx a0 a3
          go_wp2_with (at_builtin; refine wpList_append_own _ rfl _ _ 22 rfl w.heap.size 5 i0 (.int .u8 0) 1 1 Tryd.underlying22 hi hz0 hz1 hz2 rfl (by decide) _ _ _ rfl (hown.alloc _) ⟨wr.heap.size, 0, none⟩ 1 1 [.int .u8 (s[k].toNat : Int)] rfl rfl (cell_one8 _ _) (one_cell8 _) (le_maxLen _ (by omega)) (by omega) (by have := hnx.size; simp; omega) ?_; intro v' w1 hown' hgrow hnil)
          obtain ⟨g', cap', rfl⟩ := ownsRow_succ hown'
          have hb1 := (hnx.alloc hnx.size _).grown hgrow (by have := hnx.size; simp; omega) (fun j e => by cases e; exact hg.out)
          have hg' : Hid (w.heap.size ≤ g') := by
            rcases hown'.2 with ⟨e, _⟩ | ⟨g2, c2, cur, e, h2, _⟩
            · cases e
            · cases e; exact h2
          have hown2 := HF.out _ HY.out.symm _ _ _ hown'
          clear hgrow hown hown'
          go_wp2_with fail
          go_roundw
          case rel => exact ⟨k + 1, g', cap', by omega, by go_num, rfl, hg', hown2, hb1⟩
          case measure => simp [intOf]; omega
    · obtain rfl : k = s.size := by omega
      have hl : s.data.toList.length = s.size := rfl
      have hfl : (s.data.toList.map foldB).length = s.size := by rw [List.length_map]; rfl
      have hcv : (convert 22 9 (.slice (some ⟨g, 0, none⟩) s.size cap)).run Tryd.prog wr = .ok (.string (foldT s)) wr := by
        have := run_convert_bytes_back (P := Tryd.prog) wr 22 9 5 ⟨g, 0, none⟩ cap (s.data.toList.map foldB) Tryd.underlying22 Tryd.underlying5 Tryd.underlying9 (fun j hj => by
          rw [Addr.add_lit, Nat.zero_add]
          rw [List.take_of_length_le (by omega)] at hown
          have h2 := hown.cellAt j (by omega)
          refine h2.trans ?_
          simp only [u8s, List.getElem?_map, List.getElem?_eq_getElem hj, Option.map_some])
        rw [hfl] at this
        exact this
      obtain ⟨E, hE⟩ : ∃ E, foldT s = E := ⟨_, rfl⟩
      have HE : Hid (foldT s = E) := hE
      rw [hE] at hcv
      clear hown hE
      go_wp2_with fail
      go_ret
      exact ⟨ret_str HE.out.symm, hnx⟩

/-- The bytes of a text of which the first k are folded. -/
def halfB (s : ByteArray) (k j : Nat) (h : j < s.size) : UInt8 := if j < k then foldB s[j] else s[j]
/-- A row of bytes that may be written. -/
def RowAt (W : World) (g : Nat) (s : ByteArray) (k : Nat) : Prop := ∀ (j : Nat) (h : j < s.size), W.cell? ⟨g, j, none⟩ = some (.int .u8 ((halfB s k j h).toNat : Int)) ∧ W.frozen? ⟨g, j, none⟩ = false
theorem row_new (w : World) (s : ByteArray) : RowAt (Lib.bytesWorld w 5 s) w.heap.size s 0 := by
  intro j h
  refine ⟨?_, ?_⟩
  · rw [Lib.bytesWorld_cell w _ s j h]
    unfold halfB
    rw [if_neg (by omega)]
    have hl : s.data.toList.length = s.size := rfl
    rw [List.getD_eq_getElem?_getD, List.getElem?_eq_getElem (by omega)]
    rfl
  · have hsz : s.size ≤ (Lib.bytesCells w 5 s).size := by unfold Lib.bytesCells; rw [Array.size_append, Array.size_map]; exact Nat.le_add_right _ _
    simp [World.frozen?, Lib.bytesWorld_at_new]
    omega
theorem half_succ (s : ByteArray) (k j : Nat) (h : j < s.size) (hj : j ≠ k) : halfB s (k + 1) j h = halfB s k j h := by
  unfold halfB
  by_cases hlt : j < k
  · rw [if_pos hlt, if_pos (by omega)]
  · rw [if_neg hlt, if_neg (by omega)]
theorem row_set (W : World) (g k : Nat) (s : ByteArray) (hk : k < s.size) (x : Int) (hx : x = ((foldB s[k]).toNat : Int)) (h : RowAt W g s k) : RowAt (W.setCell ⟨g, k, none⟩ (.int .u8 x)) g s (k + 1) := by
  intro j hj
  rw [World.frozen?_setCell]
  refine ⟨?_, (h j hj).2⟩
  by_cases e : j = k
  · subst e
    rw [World.cell?_setCell_same _ _ _ (h j hj).1]
    unfold halfB
    rw [if_pos (by omega), hx]
  · rw [World.cell?_setCell_other _ _ _ _ (by intro h2; cases h2; exact e rfl), half_succ s k j hj e]
    exact (h j hj).1
theorem row_keep (W : World) (g k : Nat) (s : ByteArray) (hk : k < s.size) (hx : foldB s[k] = s[k]) (h : RowAt W g s k) : RowAt W g s (k + 1) := by
  intro j hj
  refine ⟨?_, (h j hj).2⟩
  rw [(h j hj).1]
  by_cases e : j = k
  · subst e
    unfold halfB
    rw [if_neg (by omega), if_pos (by omega), hx]
  · rw [half_succ s k j hj e]
theorem below_bytesWorld (w : World) (s : ByteArray) : Below w.heap.size w (Lib.bytesWorld w 5 s) :=
  ⟨rfl, rfl, rfl, by rw [Lib.bytesWorld_size]; omega, fun j hj => Lib.bytesWorld_at_old w _ s j hj⟩

set_option maxRecDepth 100000 in
set_option maxHeartbeats 1000000 in
theorem smallLetters_any (s : ByteArray) (w : World) (hs : s.size ≤ 1099511627776) :
    Calls Tryd.prog 13 #[.string s] w fun e w' => e = .returned (.string (foldT s)) ∧ Below w.heap.size w w' := by
  have hcv := Lib.run_convert_string_bytes (P := Tryd.prog) w 9 22 5 s Tryd.underlying9 Tryd.underlying22 Tryd.underlying5
  have hrow := row_new w s
  have hbel := below_bytesWorld w s
  have hsz := Lib.bytesWorld_size w 5 s
  obtain ⟨W0, hW0⟩ : ∃ W0, Lib.bytesWorld w 5 s = W0 := ⟨_, rfl⟩
  obtain ⟨cap, hcap⟩ : ∃ cap, grownCap w s.size 0 5 = cap := ⟨_, rfl⟩
  rw [hW0] at hcv hrow hbel hsz
  rw [hcap] at hcv
  clear hW0 hcap
  have HROW : Hid (RowAt W0 w.heap.size s 0) := hrow
  clear hrow
  go_enter Tryd.func13, Tryd.ntmps13
  go_wp2_with fail
  clear hcv
  go_loopw [10] (fun i wr => ∃ k : Nat, k ≤ s.size ∧ i = .int .i64 k ∧ Hid (RowAt wr w.heap.size s k) ∧ Below w.heap.size w wr) (fun i _ => s.size - (intOf i).toNat)
  case atStart => exact ⟨0, by omega, rfl, HROW, hbel⟩
  case round =>
    obtain ⟨k, hk, rfl, HA, hnx⟩ := hrel
    by_cases hlt : k < s.size
    · have hltI : (k : Int) < (s.size : Int) := by omega
      obtain ⟨hc, hf⟩ := HA.out k hlt
      have hh : halfB s k k hlt = s[k] := by unfold halfB; rw [if_neg (by omega)]
      rw [hh] at hc
      clear hh
      by_cases hx : 65 ≤ s[k].toNat ∧ s[k].toNat ≤ 90
      · have hy := foldB_yes _ hx
        have a1 : (65 : Int) ≤ (s[k].toNat : Int) := by omega
        have a2 : (s[k].toNat : Int) ≤ 90 := by omega
        have HY : Hid (∀ x : Int, x = (s[k].toNat : Int) + 32 → RowAt (wr.setCell ⟨w.heap.size, k, none⟩ (.int .u8 x)) w.heap.size s (k + 1)) := fun x hx => row_set wr _ k s hlt x (by rw [hx, hy]) HA.out
        clear hy hx HA
        go_wp2_with fail
        go_roundw
        case rel => exact ⟨k + 1, by omega, by go_num, HY.out _ (by omega), hnx.setCell (p := ⟨w.heap.size, k, none⟩) (Nat.le_refl _) _⟩
        case measure => simp [intOf]; omega
      · have HY : Hid (RowAt wr w.heap.size s (k + 1)) := row_keep wr _ k s hlt (foldB_no _ hx) HA.out
        rcases (by omega : s[k].toNat < 65 ∨ (65 ≤ s[k].toNat ∧ 90 < s[k].toNat)) with a0 | ⟨a0, a3⟩
        · have a1 : decide ((65 : Int) ≤ (s[k].toNat : Int)) = false := by simp; omega
          have a2 : (s[k].toNat : Int) < 65 := by omega
          clear hx a0 HA
          go_wp2_with fail
          go_roundw
          case rel => exact ⟨k + 1, by omega, by go_num, HY, hnx⟩
          case measure => simp [intOf]; omega
        · have a1 : (65 : Int) ≤ (s[k].toNat : Int) := by omega
          have a2 : decide ((s[k].toNat : Int) ≤ 90) = false := by simp; omega
          have a4 : (90 : Int) < (s[k].toNat : Int) := by omega
          clear hx a0 a3 HA
          go_wp2_with fail
          go_roundw
          case rel => exact ⟨k + 1, by omega, by go_num, HY, hnx⟩
          case measure => simp [intOf]; omega
    · obtain rfl : k = s.size := by omega
      have hfl : (s.data.toList.map foldB).length = s.size := by rw [List.length_map]; rfl
      have hcv : (convert 22 9 (.slice (some ⟨w.heap.size, 0, none⟩) s.size cap)).run Tryd.prog wr = .ok (.string (foldT s)) wr := by
        have := run_convert_bytes_back (P := Tryd.prog) wr 22 9 5 ⟨w.heap.size, 0, none⟩ cap (s.data.toList.map foldB) Tryd.underlying22 Tryd.underlying5 Tryd.underlying9 (fun j hj => by
          rw [Addr.add_lit, Nat.zero_add]
          have hj2 : j < s.size := by omega
          rw [(HA.out j hj2).1]
          unfold halfB
          rw [if_pos hj2, List.getElem_map]
          rfl)
        rw [hfl] at this
        exact this
      obtain ⟨E, hE⟩ : ∃ E, foldT s = E := ⟨_, rfl⟩
      have HE : Hid (foldT s = E) := hE
      rw [hE] at hcv
      clear HA hE
      go_wp2_with fail
      go_ret
      exact ⟨ret_str HE.out.symm, hnx⟩
end Go.Proofs.YtlonpaigfalbkaaDoor.Hub
