/-
  impl.EntryOk: at every entry it answers entT.
-/
import Derived.Test.YtgjlgddglgffmaaGreatDoorEntrySpec
namespace Go.Proofs.YtgjlgddglgffmaaGreatDoor.Hub
open Go.RowKit
set_option linter.unusedVariables false

theorem entS : Tryz.prog.underlying 37 = some (.struct (Tryz.prog.fieldsOf 37)) := by kernel_rfl
theorem entH : Tryz.prog.stoodInHeld 37 = false := by kernel_rfl
theorem entG : Tryz.prog.eqGuardType Tryz.prog.depth 37 = false := by kernel_rfl
theorem eq_entry (w : World) (r : ByteArray) (q k : Int) (u n t i f n' t' i' f' : ByteArray) (m m' : Int) :
    (Op.equalIn 10000 37 (entV r q k u n t i f m) (entV r q k u n' t' i' f' m')).run Tryz.prog w = .ok ((n.toList == n'.toList) && ((t.toList == t'.toList) && ((i.toList == i'.toList) && ((f.toList == f'.toList) && (m == m'))))) w := by
  have u3 := Tryz.underlying3
  have a3 := Tryz.isAgg3
  have z3 := Tryz.sizeOf3
  have u9 := Tryz.underlying9
  have a9 := Tryz.isAgg9
  have z9 := Tryz.sizeOf9
  rw [show (10000 : Nat) = 9999 + 1 from rfl, run_equalIn_agg w 9999 37 _ _ entS entH]
  simp only [Program.fieldsOf, Tryz.underlying37]
  go_simp
  by_cases h1 : n.toList = n'.toList <;> by_cases h2 : t.toList = t'.toList <;> by_cases h3 : i.toList = i'.toList <;> by_cases h4 : f.toList = f'.toList <;> by_cases h5 : m = m' <;> simp [h1, h2, h3, h4, h5]
/-- The entry is the one that has just what its kind has. -/
def sameT (k : Int) (n t i f : ByteArray) (m : Int) : Bool := (n.toList == (hasN k n).toList) && ((t.toList == (hasT k t).toList) && ((i.toList == (hasT k i).toList) && ((f.toList == (hasF k f).toList) && (m == hasM k m))))
theorem eqE (s : ByteArray) : (s.toList == (⟨#[]⟩ : ByteArray).toList) = noT s := by
  rcases noT_cases s with ⟨rfl, h⟩ | ⟨h1, h2⟩
  · rw [h]; simp
  · rw [h2]
    cases hs : s.toList with
    | nil => rw [hs] at h1; simp at h1
    | cons a l => rw [ByteArray.toList_eq]; rfl
theorem same_15 (k : Int) (h : k = 1 ∨ k = 2 ∨ k = 5) (n t i f : ByteArray) (m : Int) : sameT k n t i f m = (noT t && (noT i && noT f)) := by
  unfold sameT hasN hasT hasF hasM
  rw [if_pos (by omega), if_neg (by omega), if_neg (by omega), if_neg (by omega), if_pos (by omega), eqE, eqE, eqE]
  simp
theorem same_3 (n t i f : ByteArray) (m : Int) : sameT 3 n t i f m = decide (m = 0) := by
  unfold sameT hasN hasT hasF hasM
  rw [if_pos (by omega), if_pos (by omega), if_pos (by omega), if_pos (by omega), if_neg (by omega)]
  simp; rfl
theorem same_4 (n t i f : ByteArray) (m : Int) : sameT 4 n t i f m = (noT f && decide (m = 0)) := by
  unfold sameT hasN hasT hasF hasM
  rw [if_pos (by omega), if_pos (by omega), if_pos (by omega), if_neg (by omega), if_neg (by omega), eqE]
  simp; rfl
theorem same_6 (n t i f : ByteArray) (m : Int) : sameT 6 n t i f m = (noT n && (noT t && (noT i && noT f))) := by
  unfold sameT hasN hasT hasF hasM
  rw [if_neg (by omega), if_neg (by omega), if_neg (by omega), if_neg (by omega), if_pos (by omega), eqE, eqE, eqE, eqE]
  simp
/-- What is asked of an entry behind that. -/
theorem bare_no (k : Int) (n t i f : ByteArray) (m : Int) (h : sameT k n t i f m = false) : bareT k n t i f m = false := by
  rcases kinds k with rfl | rfl | rfl | rfl | rfl | rfl | h'
  · rw [same_15 1 (by omega)] at h; rw [bareT_15 1 (by omega)]
    revert h; cases noT t <;> cases noT i <;> cases noT f <;> simp
  · rw [same_15 2 (by omega)] at h; rw [bareT_2]
    revert h; cases noT t <;> cases noT i <;> cases noT f <;> simp
  · rw [same_3] at h; rw [bareT_3, h]; rfl
  · rw [same_4] at h; rw [bareT_4]
    revert h; cases noT f <;> cases decide (m = 0) <;> simp
  · rw [same_15 5 (by omega)] at h; rw [bareT_15 5 (by omega)]
    revert h; cases noT t <;> cases noT i <;> cases noT f <;> simp
  · rw [same_6] at h; rw [bareT_6]
    revert h; cases noT n <;> cases noT t <;> cases noT i <;> cases noT f <;> simp
  · exact bareT_no k h' n t i f m
theorem bare_15 (k : Int) (hk : k = 1 ∨ k = 5) (n t i f : ByteArray) (m : Int) (h : sameT k n t i f m = true) : bareT k n t i f m = (nickT n && inI m 1 3) := by
  rw [same_15 k (by omega)] at h; rw [bareT_15 k hk]
  revert h; cases noT t <;> cases noT i <;> cases noT f <;> simp
theorem bare_2 (n t i f : ByteArray) (m : Int) (h : sameT 2 n t i f m = true) : bareT 2 n t i f m = (nickT n && inI m 0 3) := by
  rw [same_15 2 (by omega)] at h; rw [bareT_2]
  revert h; cases noT t <;> cases noT i <;> cases noT f <;> simp
theorem bare_3 (n t i f : ByteArray) (m : Int) (h : sameT 3 n t i f m = true) : bareT 3 n t i f m = (nickT n && (bodyT t && (wordT i && orE wordT f))) := by
  rw [same_3] at h; rw [bareT_3, h]; rfl
theorem bare_4 (n t i f : ByteArray) (m : Int) (h : sameT 4 n t i f m = true) : bareT 4 n t i f m = (nickT n && (bodyT t && wordT i)) := by
  rw [same_4] at h; rw [bareT_4]
  revert h; cases noT f <;> cases decide (m = 0) <;> simp
theorem bare_6 (n t i f : ByteArray) (m : Int) (h : sameT 6 n t i f m = true) : bareT 6 n t i f m = inI m 0 4 := by
  rw [same_6] at h; rw [bareT_6]
  revert h; cases noT n <;> cases noT t <;> cases noT i <;> cases noT f <;> simp

set_option maxRecDepth 100000 in
set_option maxHeartbeats 8000000 in
theorem entryOk_any (r : ByteArray) (q k : Int) (u n t i f : ByteArray) (m : Int) (w : World) (hT : Tabs w) (hr : r.size ≤ 9223372036854775800) (hu : u.size ≤ 9223372036854775800) (hn : n.size ≤ 9223372036854775800) (ht : t.size ≤ 9223372036854775800) (hi : i.size ≤ 9223372036854775800) (hf : f.size ≤ 9223372036854775800) :
    Calls Tryz.prog 53 #[entV r q k u n t i f m] w fun e w' => e = .returned (.bool (entT r q k u n t i f m)) ∧ Below w.heap.size w w' := by
  obtain ⟨W0, hW0⟩ : ∃ W0, W0 = w.alloc (.cells #[.string r, .int .i64 q, .int .i64 k, .string u, .string n, .string t, .string i, .string f, .int .i64 m] 37) := ⟨_, rfl⟩
  have b0 : Below w.heap.size w W0 := by rw [hW0]; exact (Below.refl _ w).alloc (Nat.le_refl _) _
  have NEW : Hid (∀ W : World, Below W0.heap.size W0 W → Nine W w.heap.size r q k u n t i f m) := by rw [hW0]; exact nine_new w 37 r q k u n t i f m
  have eG := entG
  have hR := fun W => isUser_any r W hr
  have hU := fun W => isUser_any u W hu
  have hQ := fun W => isBetween_any q 0 9998 W
  have hA := fun W => bareEntry_any r q k u n t i f m W
  have hN := fun W (b : Below w.heap.size w W) => isNick_any n W hn (Utf8Tabs_below hT b)
  have hB := fun W (b : Below w.heap.size w W) => isBody_any t W ht (Utf8Tabs_below hT b)
  have hI := fun W => isWord_any i W hi
  have hF := fun W => isWord_any f W hf
  have hM := fun W a b => isBetween_any m a b W
  have hE : ∀ W, (Op.equalIn 10000 37 (entV r q k u n t i f m) (entV r q k u (hasN k n) (hasT k t) (hasT k i) (hasF k f) (hasM k m))).run Tryz.prog W = .ok (sameT k n t i f m) W := fun W => eq_entry W r q k u n t i f _ _ _ _ m _
  unfold entT
  obtain ⟨Rr, hRr⟩ : ∃ R, userT r = R := ⟨_, rfl⟩
  rw [hRr] at hR ⊢
  clear hRr
  cases Rr
  · go_enter Tryz.func53, Tryz.ntmps53
    go_wp2_with fail
    rw [← hW0]
    clear hW0
    refine wp_region_held_drew (S := fun W => W.cell? ⟨w.heap.size, 0, none⟩ = some (.string r) ∧ W.cell? ⟨w.heap.size, 1, none⟩ = some (.int .i64 q) ∧ W.cell? ⟨w.heap.size, 2, none⟩ = some (.int .i64 k) ∧ W.cell? ⟨w.heap.size, 3, none⟩ = some (.string u) ∧ W.cell? ⟨w.heap.size, 4, none⟩ = some (.string n) ∧ W.cell? ⟨w.heap.size, 5, none⟩ = some (.string t) ∧ W.cell? ⟨w.heap.size, 6, none⟩ = some (.string i) ∧ W.cell? ⟨w.heap.size, 7, none⟩ = some (.string f) ∧ W.cell? ⟨w.heap.size, 8, none⟩ = some (.int .i64 m)) (by kernel_rfl) ?_ (fun hHeld => ?_)
    · exact NEW.out _ (Below.refl _ W0).drew
    refine wpAnyH_take (i := 0) (v := ?_) rfl (by kernel_rfl) (by kernel_rfl) (by kernel_rfl) (fun _ _ _ h => h) (Or.inl ⟨by rfl, ?takeYr0⟩) (by assumption) ?takeRr0
    case takeYr0 => (intro w hSw; (try dsimp only at hSw); go_simp; try (with_reducible rfl))
    simp only [Act.put, List.setIfInBounds_toArray, List.set_cons_zero, List.set_cons_succ, List.getElem_toArray, List.getElem_cons_zero]
    refine wpAnyH_take (i := 1) (v := ?_) rfl (by kernel_rfl) (by kernel_rfl) (by kernel_rfl) (fun _ _ _ h => h) (Or.inl ⟨by rfl, ?takeYr1⟩) (by assumption) ?takeRr1
    case takeYr1 => (intro w hSw; (try dsimp only at hSw); go_simp; try (with_reducible rfl))
    simp only [Act.put, List.setIfInBounds_toArray, List.set_cons_zero, List.set_cons_succ, List.getElem_toArray, List.getElem_cons_zero, List.getElem_cons_succ]
    refine wpAnyH_ready (rs := [2]) (by kernel_rfl) (by simp) ?_
    refine AllReadyH.cons rfl (fun K hK => ?_) AllReadyH.nil
    go_simp
    refine (hR _).mono ?_
    rintro e w9 ⟨rfl, rfl⟩
    go_wp2_with fail
    refine hK.out _ _ hHeld (fun hHeld2 => ?_)
    clear hK K
    try simp only [Act.put, List.setIfInBounds_toArray, List.set_cons_zero, List.set_cons_succ, List.getElem_toArray, List.getElem_cons_zero, List.getElem_cons_succ]
    refine wpAnyH_take (i := 3) (v := ?_) rfl (by kernel_rfl) (by kernel_rfl) (by kernel_rfl) (fun _ _ _ h => h) (Or.inl ⟨by rfl, ?takeYr3⟩) (by assumption) ?takeRr3
    case takeYr3 => (intro w hSw; (try dsimp only at hSw); go_simp; try (with_reducible rfl))
    simp only [Act.put, List.setIfInBounds_toArray, List.set_cons_zero, List.set_cons_succ, List.getElem_toArray, List.getElem_cons_zero, List.getElem_cons_succ]
    refine wpAnyH_take (i := 4) (v := ?_) rfl (by kernel_rfl) (by kernel_rfl) (by kernel_rfl) (fun _ _ _ h => h) (Or.inl ⟨by rfl, ?takeYr4⟩) (by assumption) ?takeRr4
    case takeYr4 => (intro w hSw; (try dsimp only at hSw); go_simp; try (with_reducible rfl))
    simp only [Act.put, List.setIfInBounds_toArray, List.set_cons_zero, List.set_cons_succ, List.getElem_toArray, List.getElem_cons_zero, List.getElem_cons_succ]
    refine wpAnyH_take (i := 5) (v := undef) rfl (by kernel_rfl) (by kernel_rfl) (by kernel_rfl) (fun _ _ _ h => h) (Or.inr ⟨by rfl, rfl⟩) (by assumption) ?_
    simp only [Act.put, List.setIfInBounds_toArray, List.set_cons_zero, List.set_cons_succ, List.getElem_toArray, List.getElem_cons_zero, List.getElem_cons_succ]
    refine wpAnyH_take (i := 6) (v := undef) rfl (by kernel_rfl) (by kernel_rfl) (by kernel_rfl) (fun _ _ _ h => h) (Or.inr ⟨by rfl, rfl⟩) (by assumption) ?_
    simp only [Act.put, List.setIfInBounds_toArray, List.set_cons_zero, List.set_cons_succ, List.getElem_toArray, List.getElem_cons_zero, List.getElem_cons_succ]
    refine wpAnyH_take (i := 7) (v := undef) rfl (by kernel_rfl) (by kernel_rfl) (by kernel_rfl) (fun _ _ _ h => h) (Or.inr ⟨by rfl, rfl⟩) (by assumption) ?_
    simp only [Act.put, List.setIfInBounds_toArray, List.set_cons_zero, List.set_cons_succ, List.getElem_toArray, List.getElem_cons_zero, List.getElem_cons_succ]
    refine wpAnyH_take (i := 8) (v := undef) rfl (by kernel_rfl) (by kernel_rfl) (by kernel_rfl) (fun _ _ _ h => h) (Or.inr ⟨by rfl, rfl⟩) (by assumption) ?_
    simp only [Act.put, List.setIfInBounds_toArray, List.set_cons_zero, List.set_cons_succ, List.getElem_toArray, List.getElem_cons_zero, List.getElem_cons_succ]
    refine wpAnyH_take (i := 9) (v := ?_) rfl (by kernel_rfl) (by kernel_rfl) (by kernel_rfl) (fun _ _ _ h => h) (Or.inl ⟨by rfl, ?takeYr9⟩) (by assumption) ?takeRr9
    case takeYr9 => (intro w hSw; (try dsimp only at hSw); go_simp; try (with_reducible rfl))
    simp only [Act.put, List.setIfInBounds_toArray, List.set_cons_zero, List.set_cons_succ, List.getElem_toArray, List.getElem_cons_zero, List.getElem_cons_succ]
    refine wpAnyH_take (i := 10) (v := ?_) rfl (by kernel_rfl) (by kernel_rfl) (by kernel_rfl) (fun _ _ _ h => h) (Or.inl ⟨by rfl, ?takeYr10⟩) (by assumption) ?takeRr10
    case takeYr10 => (intro w hSw; (try dsimp only at hSw); go_simp; try (with_reducible rfl))
    simp only [Act.put, List.setIfInBounds_toArray, List.set_cons_zero, List.set_cons_succ, List.getElem_toArray, List.getElem_cons_zero, List.getElem_cons_succ]
    refine wpAnyH_take (i := 11) (v := undef) rfl (by kernel_rfl) (by kernel_rfl) (by kernel_rfl) (fun _ _ _ h => h) (Or.inr ⟨by rfl, rfl⟩) (by assumption) ?_
    simp only [Act.put, List.setIfInBounds_toArray, List.set_cons_zero, List.set_cons_succ, List.getElem_toArray, List.getElem_cons_zero, List.getElem_cons_succ]
    refine wpAnyH_take (i := 12) (v := undef) rfl (by kernel_rfl) (by kernel_rfl) (by kernel_rfl) (fun _ _ _ h => h) (Or.inr ⟨by rfl, rfl⟩) (by assumption) ?_
    simp only [Act.put, List.setIfInBounds_toArray, List.set_cons_zero, List.set_cons_succ, List.getElem_toArray, List.getElem_cons_zero, List.getElem_cons_succ]
    refine wpAnyH_take (i := 13) (v := undef) rfl (by kernel_rfl) (by kernel_rfl) (by kernel_rfl) (fun _ _ _ h => h) (Or.inr ⟨by rfl, rfl⟩) (by assumption) ?_
    simp only [Act.put, List.setIfInBounds_toArray, List.set_cons_zero, List.set_cons_succ, List.getElem_toArray, List.getElem_cons_zero, List.getElem_cons_succ]
    refine wpAnyH_take (i := 14) (v := undef) rfl (by kernel_rfl) (by kernel_rfl) (by kernel_rfl) (fun _ _ _ h => h) (Or.inr ⟨by rfl, rfl⟩) (by assumption) ?_
    simp only [Act.put, List.setIfInBounds_toArray, List.set_cons_zero, List.set_cons_succ, List.getElem_toArray, List.getElem_cons_zero, List.getElem_cons_succ]
    refine wpAnyH_take (i := 15) (v := ?_) rfl (by kernel_rfl) (by kernel_rfl) (by kernel_rfl) (fun _ _ _ h => h) (Or.inl ⟨by rfl, ?takeYr15⟩) (by assumption) ?takeRr15
    case takeYr15 => (intro w hSw; (try dsimp only at hSw); go_simp; try (with_reducible rfl))
    simp only [Act.put, List.setIfInBounds_toArray, List.set_cons_zero, List.set_cons_succ, List.getElem_toArray, List.getElem_cons_zero, List.getElem_cons_succ]
    refine wpAnyH_take (i := 16) (v := ?_) rfl (by kernel_rfl) (by kernel_rfl) (by kernel_rfl) (fun _ _ _ h => h) (Or.inl ⟨by rfl, ?takeYr16⟩) (by assumption) ?takeRr16
    case takeYr16 => (intro w hSw; (try dsimp only at hSw); go_simp; try (with_reducible rfl))
    simp only [Act.put, List.setIfInBounds_toArray, List.set_cons_zero, List.set_cons_succ, List.getElem_toArray, List.getElem_cons_zero, List.getElem_cons_succ]
    refine wpAnyH_take (i := 17) (v := undef) rfl (by kernel_rfl) (by kernel_rfl) (by kernel_rfl) (fun _ _ _ h => h) (Or.inr ⟨by rfl, rfl⟩) (by assumption) ?_
    simp only [Act.put, List.setIfInBounds_toArray, List.set_cons_zero, List.set_cons_succ, List.getElem_toArray, List.getElem_cons_zero, List.getElem_cons_succ]
    refine wpAnyH_take (i := 18) (v := undef) rfl (by kernel_rfl) (by kernel_rfl) (by kernel_rfl) (fun _ _ _ h => h) (Or.inr ⟨by rfl, rfl⟩) (by assumption) ?_
    simp only [Act.put, List.setIfInBounds_toArray, List.set_cons_zero, List.set_cons_succ, List.getElem_toArray, List.getElem_cons_zero, List.getElem_cons_succ]
    refine wpAnyH_take (i := 19) (v := undef) rfl (by kernel_rfl) (by kernel_rfl) (by kernel_rfl) (fun _ _ _ h => h) (Or.inr ⟨by rfl, rfl⟩) (by assumption) ?_
    simp only [Act.put, List.setIfInBounds_toArray, List.set_cons_zero, List.set_cons_succ, List.getElem_toArray, List.getElem_cons_zero, List.getElem_cons_succ]
    refine wpAnyH_take (i := 20) (v := undef) rfl (by kernel_rfl) (by kernel_rfl) (by kernel_rfl) (fun _ _ _ h => h) (Or.inr ⟨by rfl, rfl⟩) (by assumption) ?_
    simp only [Act.put, List.setIfInBounds_toArray, List.set_cons_zero, List.set_cons_succ, List.getElem_toArray, List.getElem_cons_zero, List.getElem_cons_succ]
    refine wpAnyH_take (i := 21) (v := ?_) rfl (by kernel_rfl) (by kernel_rfl) (by kernel_rfl) (fun _ _ _ h => h) (Or.inl ⟨by rfl, ?takeYr21⟩) (by assumption) ?takeRr21
    case takeYr21 => (intro w hSw; (try dsimp only at hSw); go_simp; try (with_reducible rfl))
    simp only [Act.put, List.setIfInBounds_toArray, List.set_cons_zero, List.set_cons_succ, List.getElem_toArray, List.getElem_cons_zero, List.getElem_cons_succ]
    refine wpAnyH_done (by kernel_rfl) ?_ _
    go_wp2_with fail
    go_ret
    exact ⟨ret_bool (by simp), b0.drew⟩
  · skip
    obtain ⟨Ru, hRu⟩ : ∃ R, userT u = R := ⟨_, rfl⟩
    rw [hRu] at hU ⊢
    clear hRu
    cases Ru
    · go_enter Tryz.func53, Tryz.ntmps53
      go_wp2_with fail
      rw [← hW0]
      clear hW0
      refine wp_region_held_drew (S := fun W => W.cell? ⟨w.heap.size, 0, none⟩ = some (.string r) ∧ W.cell? ⟨w.heap.size, 1, none⟩ = some (.int .i64 q) ∧ W.cell? ⟨w.heap.size, 2, none⟩ = some (.int .i64 k) ∧ W.cell? ⟨w.heap.size, 3, none⟩ = some (.string u) ∧ W.cell? ⟨w.heap.size, 4, none⟩ = some (.string n) ∧ W.cell? ⟨w.heap.size, 5, none⟩ = some (.string t) ∧ W.cell? ⟨w.heap.size, 6, none⟩ = some (.string i) ∧ W.cell? ⟨w.heap.size, 7, none⟩ = some (.string f) ∧ W.cell? ⟨w.heap.size, 8, none⟩ = some (.int .i64 m)) (by kernel_rfl) ?_ (fun hHeld => ?_)
      · exact NEW.out _ (Below.refl _ W0).drew
      refine wpAnyH_take (i := 0) (v := ?_) rfl (by kernel_rfl) (by kernel_rfl) (by kernel_rfl) (fun _ _ _ h => h) (Or.inl ⟨by rfl, ?takeYu0⟩) (by assumption) ?takeRu0
      case takeYu0 => (intro w hSw; (try dsimp only at hSw); go_simp; try (with_reducible rfl))
      simp only [Act.put, List.setIfInBounds_toArray, List.set_cons_zero, List.set_cons_succ, List.getElem_toArray, List.getElem_cons_zero]
      refine wpAnyH_take (i := 1) (v := ?_) rfl (by kernel_rfl) (by kernel_rfl) (by kernel_rfl) (fun _ _ _ h => h) (Or.inl ⟨by rfl, ?takeYu1⟩) (by assumption) ?takeRu1
      case takeYu1 => (intro w hSw; (try dsimp only at hSw); go_simp; try (with_reducible rfl))
      simp only [Act.put, List.setIfInBounds_toArray, List.set_cons_zero, List.set_cons_succ, List.getElem_toArray, List.getElem_cons_zero, List.getElem_cons_succ]
      refine wpAnyH_ready (rs := [2]) (by kernel_rfl) (by simp) ?_
      refine AllReadyH.cons rfl (fun K hK => ?_) AllReadyH.nil
      go_simp
      refine (hR _).mono ?_
      rintro e w9 ⟨rfl, rfl⟩
      go_wp2_with fail
      refine hK.out _ _ hHeld (fun hHeld2 => ?_)
      clear hK K
      try simp only [Act.put, List.setIfInBounds_toArray, List.set_cons_zero, List.set_cons_succ, List.getElem_toArray, List.getElem_cons_zero, List.getElem_cons_succ]
      refine wpAnyH_take (i := 3) (v := ?_) rfl (by kernel_rfl) (by kernel_rfl) (by kernel_rfl) (fun _ _ _ h => h) (Or.inl ⟨by rfl, ?takeYu3⟩) (by assumption) ?takeRu3
      case takeYu3 => (intro w hSw; (try dsimp only at hSw); go_simp; try (with_reducible rfl))
      simp only [Act.put, List.setIfInBounds_toArray, List.set_cons_zero, List.set_cons_succ, List.getElem_toArray, List.getElem_cons_zero, List.getElem_cons_succ]
      refine wpAnyH_take (i := 4) (v := ?_) rfl (by kernel_rfl) (by kernel_rfl) (by kernel_rfl) (fun _ _ _ h => h) (Or.inl ⟨by rfl, ?takeYu4⟩) (by assumption) ?takeRu4
      case takeYu4 => (intro w hSw; (try dsimp only at hSw); go_simp; try (with_reducible rfl))
      simp only [Act.put, List.setIfInBounds_toArray, List.set_cons_zero, List.set_cons_succ, List.getElem_toArray, List.getElem_cons_zero, List.getElem_cons_succ]
      refine wpAnyH_take (i := 5) (v := ?_) rfl (by kernel_rfl) (by kernel_rfl) (by kernel_rfl) (fun _ _ _ h => h) (Or.inl ⟨by rfl, ?takeYu5⟩) (by assumption) ?takeRu5
      case takeYu5 => (intro w hSw; (try dsimp only at hSw); go_simp; try (with_reducible rfl))
      simp only [Act.put, List.setIfInBounds_toArray, List.set_cons_zero, List.set_cons_succ, List.getElem_toArray, List.getElem_cons_zero, List.getElem_cons_succ]
      refine wpAnyH_take (i := 6) (v := ?_) rfl (by kernel_rfl) (by kernel_rfl) (by kernel_rfl) (fun _ _ _ h => h) (Or.inl ⟨by rfl, ?takeYu6⟩) (by assumption) ?takeRu6
      case takeYu6 => (intro w hSw; (try dsimp only at hSw); go_simp; try (with_reducible rfl))
      simp only [Act.put, List.setIfInBounds_toArray, List.set_cons_zero, List.set_cons_succ, List.getElem_toArray, List.getElem_cons_zero, List.getElem_cons_succ]
      refine wpAnyH_ready (rs := [7]) (by kernel_rfl) (by simp) ?_
      refine AllReadyH.cons rfl (fun K hK => ?_) AllReadyH.nil
      go_simp
      refine (hU _).mono ?_
      rintro e w9 ⟨rfl, rfl⟩
      go_wp2_with fail
      refine hK.out _ _ hHeld (fun hHeld7 => ?_)
      clear hK K
      try simp only [Act.put, List.setIfInBounds_toArray, List.set_cons_zero, List.set_cons_succ, List.getElem_toArray, List.getElem_cons_zero, List.getElem_cons_succ]
      refine wpAnyH_take (i := 8) (v := ?_) rfl (by kernel_rfl) (by kernel_rfl) (by kernel_rfl) (fun _ _ _ h => h) (Or.inl ⟨by rfl, ?takeYu8⟩) (by assumption) ?takeRu8
      case takeYu8 => (intro w hSw; (try dsimp only at hSw); go_simp; try (with_reducible rfl))
      simp only [Act.put, List.setIfInBounds_toArray, List.set_cons_zero, List.set_cons_succ, List.getElem_toArray, List.getElem_cons_zero, List.getElem_cons_succ]
      refine wpAnyH_take (i := 9) (v := ?_) rfl (by kernel_rfl) (by kernel_rfl) (by kernel_rfl) (fun _ _ _ h => h) (Or.inl ⟨by rfl, ?takeYu9⟩) (by assumption) ?takeRu9
      case takeYu9 => (intro w hSw; (try dsimp only at hSw); go_simp; try (with_reducible rfl))
      simp only [Act.put, List.setIfInBounds_toArray, List.set_cons_zero, List.set_cons_succ, List.getElem_toArray, List.getElem_cons_zero, List.getElem_cons_succ]
      refine wpAnyH_take (i := 10) (v := ?_) rfl (by kernel_rfl) (by kernel_rfl) (by kernel_rfl) (fun _ _ _ h => h) (Or.inl ⟨by rfl, ?takeYu10⟩) (by assumption) ?takeRu10
      case takeYu10 => (intro w hSw; (try dsimp only at hSw); go_simp; try (with_reducible rfl))
      simp only [Act.put, List.setIfInBounds_toArray, List.set_cons_zero, List.set_cons_succ, List.getElem_toArray, List.getElem_cons_zero, List.getElem_cons_succ]
      refine wpAnyH_take (i := 11) (v := undef) rfl (by kernel_rfl) (by kernel_rfl) (by kernel_rfl) (fun _ _ _ h => h) (Or.inr ⟨by rfl, rfl⟩) (by assumption) ?_
      simp only [Act.put, List.setIfInBounds_toArray, List.set_cons_zero, List.set_cons_succ, List.getElem_toArray, List.getElem_cons_zero, List.getElem_cons_succ]
      refine wpAnyH_take (i := 12) (v := undef) rfl (by kernel_rfl) (by kernel_rfl) (by kernel_rfl) (fun _ _ _ h => h) (Or.inr ⟨by rfl, rfl⟩) (by assumption) ?_
      simp only [Act.put, List.setIfInBounds_toArray, List.set_cons_zero, List.set_cons_succ, List.getElem_toArray, List.getElem_cons_zero, List.getElem_cons_succ]
      refine wpAnyH_take (i := 13) (v := undef) rfl (by kernel_rfl) (by kernel_rfl) (by kernel_rfl) (fun _ _ _ h => h) (Or.inr ⟨by rfl, rfl⟩) (by assumption) ?_
      simp only [Act.put, List.setIfInBounds_toArray, List.set_cons_zero, List.set_cons_succ, List.getElem_toArray, List.getElem_cons_zero, List.getElem_cons_succ]
      refine wpAnyH_take (i := 14) (v := undef) rfl (by kernel_rfl) (by kernel_rfl) (by kernel_rfl) (fun _ _ _ h => h) (Or.inr ⟨by rfl, rfl⟩) (by assumption) ?_
      simp only [Act.put, List.setIfInBounds_toArray, List.set_cons_zero, List.set_cons_succ, List.getElem_toArray, List.getElem_cons_zero, List.getElem_cons_succ]
      refine wpAnyH_take (i := 15) (v := ?_) rfl (by kernel_rfl) (by kernel_rfl) (by kernel_rfl) (fun _ _ _ h => h) (Or.inl ⟨by rfl, ?takeYu15⟩) (by assumption) ?takeRu15
      case takeYu15 => (intro w hSw; (try dsimp only at hSw); go_simp; try (with_reducible rfl))
      simp only [Act.put, List.setIfInBounds_toArray, List.set_cons_zero, List.set_cons_succ, List.getElem_toArray, List.getElem_cons_zero, List.getElem_cons_succ]
      refine wpAnyH_take (i := 16) (v := ?_) rfl (by kernel_rfl) (by kernel_rfl) (by kernel_rfl) (fun _ _ _ h => h) (Or.inl ⟨by rfl, ?takeYu16⟩) (by assumption) ?takeRu16
      case takeYu16 => (intro w hSw; (try dsimp only at hSw); go_simp; try (with_reducible rfl))
      simp only [Act.put, List.setIfInBounds_toArray, List.set_cons_zero, List.set_cons_succ, List.getElem_toArray, List.getElem_cons_zero, List.getElem_cons_succ]
      refine wpAnyH_take (i := 17) (v := undef) rfl (by kernel_rfl) (by kernel_rfl) (by kernel_rfl) (fun _ _ _ h => h) (Or.inr ⟨by rfl, rfl⟩) (by assumption) ?_
      simp only [Act.put, List.setIfInBounds_toArray, List.set_cons_zero, List.set_cons_succ, List.getElem_toArray, List.getElem_cons_zero, List.getElem_cons_succ]
      refine wpAnyH_take (i := 18) (v := undef) rfl (by kernel_rfl) (by kernel_rfl) (by kernel_rfl) (fun _ _ _ h => h) (Or.inr ⟨by rfl, rfl⟩) (by assumption) ?_
      simp only [Act.put, List.setIfInBounds_toArray, List.set_cons_zero, List.set_cons_succ, List.getElem_toArray, List.getElem_cons_zero, List.getElem_cons_succ]
      refine wpAnyH_take (i := 19) (v := undef) rfl (by kernel_rfl) (by kernel_rfl) (by kernel_rfl) (fun _ _ _ h => h) (Or.inr ⟨by rfl, rfl⟩) (by assumption) ?_
      simp only [Act.put, List.setIfInBounds_toArray, List.set_cons_zero, List.set_cons_succ, List.getElem_toArray, List.getElem_cons_zero, List.getElem_cons_succ]
      refine wpAnyH_take (i := 20) (v := undef) rfl (by kernel_rfl) (by kernel_rfl) (by kernel_rfl) (fun _ _ _ h => h) (Or.inr ⟨by rfl, rfl⟩) (by assumption) ?_
      simp only [Act.put, List.setIfInBounds_toArray, List.set_cons_zero, List.set_cons_succ, List.getElem_toArray, List.getElem_cons_zero, List.getElem_cons_succ]
      refine wpAnyH_take (i := 21) (v := ?_) rfl (by kernel_rfl) (by kernel_rfl) (by kernel_rfl) (fun _ _ _ h => h) (Or.inl ⟨by rfl, ?takeYu21⟩) (by assumption) ?takeRu21
      case takeYu21 => (intro w hSw; (try dsimp only at hSw); go_simp; try (with_reducible rfl))
      simp only [Act.put, List.setIfInBounds_toArray, List.set_cons_zero, List.set_cons_succ, List.getElem_toArray, List.getElem_cons_zero, List.getElem_cons_succ]
      refine wpAnyH_done (by kernel_rfl) ?_ _
      go_wp2_with fail
      go_ret
      exact ⟨ret_bool (by simp), b0.drew⟩
    · skip
      obtain ⟨Rq, hRq⟩ : ∃ R, inI q 0 9998 = R := ⟨_, rfl⟩
      rw [hRq] at hQ ⊢
      clear hRq
      cases Rq
      · go_enter Tryz.func53, Tryz.ntmps53
        go_wp2_with fail
        rw [← hW0]
        clear hW0
        refine wp_region_held_drew (S := fun W => W.cell? ⟨w.heap.size, 0, none⟩ = some (.string r) ∧ W.cell? ⟨w.heap.size, 1, none⟩ = some (.int .i64 q) ∧ W.cell? ⟨w.heap.size, 2, none⟩ = some (.int .i64 k) ∧ W.cell? ⟨w.heap.size, 3, none⟩ = some (.string u) ∧ W.cell? ⟨w.heap.size, 4, none⟩ = some (.string n) ∧ W.cell? ⟨w.heap.size, 5, none⟩ = some (.string t) ∧ W.cell? ⟨w.heap.size, 6, none⟩ = some (.string i) ∧ W.cell? ⟨w.heap.size, 7, none⟩ = some (.string f) ∧ W.cell? ⟨w.heap.size, 8, none⟩ = some (.int .i64 m)) (by kernel_rfl) ?_ (fun hHeld => ?_)
        · exact NEW.out _ (Below.refl _ W0).drew
        refine wpAnyH_take (i := 0) (v := ?_) rfl (by kernel_rfl) (by kernel_rfl) (by kernel_rfl) (fun _ _ _ h => h) (Or.inl ⟨by rfl, ?takeYq0⟩) (by assumption) ?takeRq0
        case takeYq0 => (intro w hSw; (try dsimp only at hSw); go_simp; try (with_reducible rfl))
        simp only [Act.put, List.setIfInBounds_toArray, List.set_cons_zero, List.set_cons_succ, List.getElem_toArray, List.getElem_cons_zero]
        refine wpAnyH_take (i := 1) (v := ?_) rfl (by kernel_rfl) (by kernel_rfl) (by kernel_rfl) (fun _ _ _ h => h) (Or.inl ⟨by rfl, ?takeYq1⟩) (by assumption) ?takeRq1
        case takeYq1 => (intro w hSw; (try dsimp only at hSw); go_simp; try (with_reducible rfl))
        simp only [Act.put, List.setIfInBounds_toArray, List.set_cons_zero, List.set_cons_succ, List.getElem_toArray, List.getElem_cons_zero, List.getElem_cons_succ]
        refine wpAnyH_ready (rs := [2]) (by kernel_rfl) (by simp) ?_
        refine AllReadyH.cons rfl (fun K hK => ?_) AllReadyH.nil
        go_simp
        refine (hR _).mono ?_
        rintro e w9 ⟨rfl, rfl⟩
        go_wp2_with fail
        refine hK.out _ _ hHeld (fun hHeld2 => ?_)
        clear hK K
        try simp only [Act.put, List.setIfInBounds_toArray, List.set_cons_zero, List.set_cons_succ, List.getElem_toArray, List.getElem_cons_zero, List.getElem_cons_succ]
        refine wpAnyH_take (i := 3) (v := ?_) rfl (by kernel_rfl) (by kernel_rfl) (by kernel_rfl) (fun _ _ _ h => h) (Or.inl ⟨by rfl, ?takeYq3⟩) (by assumption) ?takeRq3
        case takeYq3 => (intro w hSw; (try dsimp only at hSw); go_simp; try (with_reducible rfl))
        simp only [Act.put, List.setIfInBounds_toArray, List.set_cons_zero, List.set_cons_succ, List.getElem_toArray, List.getElem_cons_zero, List.getElem_cons_succ]
        refine wpAnyH_take (i := 4) (v := ?_) rfl (by kernel_rfl) (by kernel_rfl) (by kernel_rfl) (fun _ _ _ h => h) (Or.inl ⟨by rfl, ?takeYq4⟩) (by assumption) ?takeRq4
        case takeYq4 => (intro w hSw; (try dsimp only at hSw); go_simp; try (with_reducible rfl))
        simp only [Act.put, List.setIfInBounds_toArray, List.set_cons_zero, List.set_cons_succ, List.getElem_toArray, List.getElem_cons_zero, List.getElem_cons_succ]
        refine wpAnyH_take (i := 5) (v := ?_) rfl (by kernel_rfl) (by kernel_rfl) (by kernel_rfl) (fun _ _ _ h => h) (Or.inl ⟨by rfl, ?takeYq5⟩) (by assumption) ?takeRq5
        case takeYq5 => (intro w hSw; (try dsimp only at hSw); go_simp; try (with_reducible rfl))
        simp only [Act.put, List.setIfInBounds_toArray, List.set_cons_zero, List.set_cons_succ, List.getElem_toArray, List.getElem_cons_zero, List.getElem_cons_succ]
        refine wpAnyH_take (i := 6) (v := ?_) rfl (by kernel_rfl) (by kernel_rfl) (by kernel_rfl) (fun _ _ _ h => h) (Or.inl ⟨by rfl, ?takeYq6⟩) (by assumption) ?takeRq6
        case takeYq6 => (intro w hSw; (try dsimp only at hSw); go_simp; try (with_reducible rfl))
        simp only [Act.put, List.setIfInBounds_toArray, List.set_cons_zero, List.set_cons_succ, List.getElem_toArray, List.getElem_cons_zero, List.getElem_cons_succ]
        refine wpAnyH_ready (rs := [7]) (by kernel_rfl) (by simp) ?_
        refine AllReadyH.cons rfl (fun K hK => ?_) AllReadyH.nil
        go_simp
        refine (hU _).mono ?_
        rintro e w9 ⟨rfl, rfl⟩
        go_wp2_with fail
        refine hK.out _ _ hHeld (fun hHeld7 => ?_)
        clear hK K
        try simp only [Act.put, List.setIfInBounds_toArray, List.set_cons_zero, List.set_cons_succ, List.getElem_toArray, List.getElem_cons_zero, List.getElem_cons_succ]
        refine wpAnyH_take (i := 8) (v := ?_) rfl (by kernel_rfl) (by kernel_rfl) (by kernel_rfl) (fun _ _ _ h => h) (Or.inl ⟨by rfl, ?takeYq8⟩) (by assumption) ?takeRq8
        case takeYq8 => (intro w hSw; (try dsimp only at hSw); go_simp; try (with_reducible rfl))
        simp only [Act.put, List.setIfInBounds_toArray, List.set_cons_zero, List.set_cons_succ, List.getElem_toArray, List.getElem_cons_zero, List.getElem_cons_succ]
        refine wpAnyH_take (i := 9) (v := ?_) rfl (by kernel_rfl) (by kernel_rfl) (by kernel_rfl) (fun _ _ _ h => h) (Or.inl ⟨by rfl, ?takeYq9⟩) (by assumption) ?takeRq9
        case takeYq9 => (intro w hSw; (try dsimp only at hSw); go_simp; try (with_reducible rfl))
        simp only [Act.put, List.setIfInBounds_toArray, List.set_cons_zero, List.set_cons_succ, List.getElem_toArray, List.getElem_cons_zero, List.getElem_cons_succ]
        refine wpAnyH_take (i := 10) (v := ?_) rfl (by kernel_rfl) (by kernel_rfl) (by kernel_rfl) (fun _ _ _ h => h) (Or.inl ⟨by rfl, ?takeYq10⟩) (by assumption) ?takeRq10
        case takeYq10 => (intro w hSw; (try dsimp only at hSw); go_simp; try (with_reducible rfl))
        simp only [Act.put, List.setIfInBounds_toArray, List.set_cons_zero, List.set_cons_succ, List.getElem_toArray, List.getElem_cons_zero, List.getElem_cons_succ]
        refine wpAnyH_take (i := 11) (v := ?_) rfl (by kernel_rfl) (by kernel_rfl) (by kernel_rfl) (fun _ _ _ h => h) (Or.inl ⟨by rfl, ?takeYq11⟩) (by assumption) ?takeRq11
        case takeYq11 => (intro w hSw; (try dsimp only at hSw); go_simp; try (with_reducible rfl))
        simp only [Act.put, List.setIfInBounds_toArray, List.set_cons_zero, List.set_cons_succ, List.getElem_toArray, List.getElem_cons_zero, List.getElem_cons_succ]
        refine wpAnyH_take (i := 12) (v := ?_) rfl (by kernel_rfl) (by kernel_rfl) (by kernel_rfl) (fun _ _ _ h => h) (Or.inl ⟨by rfl, ?takeYq12⟩) (by assumption) ?takeRq12
        case takeYq12 => (intro w hSw; (try dsimp only at hSw); go_simp; try (with_reducible rfl))
        simp only [Act.put, List.setIfInBounds_toArray, List.set_cons_zero, List.set_cons_succ, List.getElem_toArray, List.getElem_cons_zero, List.getElem_cons_succ]
        refine wpAnyH_ready (rs := [13]) (by kernel_rfl) (by simp) ?_
        refine AllReadyH.cons rfl (fun K hK => ?_) AllReadyH.nil
        go_simp
        refine (hQ _).mono ?_
        rintro e w9 ⟨rfl, rfl⟩
        go_wp2_with fail
        refine hK.out _ _ hHeld (fun hHeld13 => ?_)
        clear hK K
        try simp only [Act.put, List.setIfInBounds_toArray, List.set_cons_zero, List.set_cons_succ, List.getElem_toArray, List.getElem_cons_zero, List.getElem_cons_succ]
        refine wpAnyH_take (i := 14) (v := ?_) rfl (by kernel_rfl) (by kernel_rfl) (by kernel_rfl) (fun _ _ _ h => h) (Or.inl ⟨by rfl, ?takeYq14⟩) (by assumption) ?takeRq14
        case takeYq14 => (intro w hSw; (try dsimp only at hSw); go_simp; try (with_reducible rfl))
        simp only [Act.put, List.setIfInBounds_toArray, List.set_cons_zero, List.set_cons_succ, List.getElem_toArray, List.getElem_cons_zero, List.getElem_cons_succ]
        refine wpAnyH_take (i := 15) (v := ?_) rfl (by kernel_rfl) (by kernel_rfl) (by kernel_rfl) (fun _ _ _ h => h) (Or.inl ⟨by rfl, ?takeYq15⟩) (by assumption) ?takeRq15
        case takeYq15 => (intro w hSw; (try dsimp only at hSw); go_simp; try (with_reducible rfl))
        simp only [Act.put, List.setIfInBounds_toArray, List.set_cons_zero, List.set_cons_succ, List.getElem_toArray, List.getElem_cons_zero, List.getElem_cons_succ]
        refine wpAnyH_take (i := 16) (v := ?_) rfl (by kernel_rfl) (by kernel_rfl) (by kernel_rfl) (fun _ _ _ h => h) (Or.inl ⟨by rfl, ?takeYq16⟩) (by assumption) ?takeRq16
        case takeYq16 => (intro w hSw; (try dsimp only at hSw); go_simp; try (with_reducible rfl))
        simp only [Act.put, List.setIfInBounds_toArray, List.set_cons_zero, List.set_cons_succ, List.getElem_toArray, List.getElem_cons_zero, List.getElem_cons_succ]
        refine wpAnyH_take (i := 17) (v := undef) rfl (by kernel_rfl) (by kernel_rfl) (by kernel_rfl) (fun _ _ _ h => h) (Or.inr ⟨by rfl, rfl⟩) (by assumption) ?_
        simp only [Act.put, List.setIfInBounds_toArray, List.set_cons_zero, List.set_cons_succ, List.getElem_toArray, List.getElem_cons_zero, List.getElem_cons_succ]
        refine wpAnyH_take (i := 18) (v := undef) rfl (by kernel_rfl) (by kernel_rfl) (by kernel_rfl) (fun _ _ _ h => h) (Or.inr ⟨by rfl, rfl⟩) (by assumption) ?_
        simp only [Act.put, List.setIfInBounds_toArray, List.set_cons_zero, List.set_cons_succ, List.getElem_toArray, List.getElem_cons_zero, List.getElem_cons_succ]
        refine wpAnyH_take (i := 19) (v := undef) rfl (by kernel_rfl) (by kernel_rfl) (by kernel_rfl) (fun _ _ _ h => h) (Or.inr ⟨by rfl, rfl⟩) (by assumption) ?_
        simp only [Act.put, List.setIfInBounds_toArray, List.set_cons_zero, List.set_cons_succ, List.getElem_toArray, List.getElem_cons_zero, List.getElem_cons_succ]
        refine wpAnyH_take (i := 20) (v := undef) rfl (by kernel_rfl) (by kernel_rfl) (by kernel_rfl) (fun _ _ _ h => h) (Or.inr ⟨by rfl, rfl⟩) (by assumption) ?_
        simp only [Act.put, List.setIfInBounds_toArray, List.set_cons_zero, List.set_cons_succ, List.getElem_toArray, List.getElem_cons_zero, List.getElem_cons_succ]
        refine wpAnyH_take (i := 21) (v := ?_) rfl (by kernel_rfl) (by kernel_rfl) (by kernel_rfl) (fun _ _ _ h => h) (Or.inl ⟨by rfl, ?takeYq21⟩) (by assumption) ?takeRq21
        case takeYq21 => (intro w hSw; (try dsimp only at hSw); go_simp; try (with_reducible rfl))
        simp only [Act.put, List.setIfInBounds_toArray, List.set_cons_zero, List.set_cons_succ, List.getElem_toArray, List.getElem_cons_zero, List.getElem_cons_succ]
        refine wpAnyH_done (by kernel_rfl) ?_ _
        go_wp2_with fail
        go_ret
        exact ⟨ret_bool (by simp), b0.drew⟩
      · skip
        obtain ⟨Rs, hRs⟩ : ∃ R, sameT k n t i f m = R := ⟨_, rfl⟩
        rw [hRs] at hE
        go_enter Tryz.func53, Tryz.ntmps53
        go_wp2_with fail
        rw [← hW0]
        clear hW0
        refine wp_region_held_drew (S := fun W => W.cell? ⟨w.heap.size, 0, none⟩ = some (.string r) ∧ W.cell? ⟨w.heap.size, 1, none⟩ = some (.int .i64 q) ∧ W.cell? ⟨w.heap.size, 2, none⟩ = some (.int .i64 k) ∧ W.cell? ⟨w.heap.size, 3, none⟩ = some (.string u) ∧ W.cell? ⟨w.heap.size, 4, none⟩ = some (.string n) ∧ W.cell? ⟨w.heap.size, 5, none⟩ = some (.string t) ∧ W.cell? ⟨w.heap.size, 6, none⟩ = some (.string i) ∧ W.cell? ⟨w.heap.size, 7, none⟩ = some (.string f) ∧ W.cell? ⟨w.heap.size, 8, none⟩ = some (.int .i64 m)) (by kernel_rfl) ?_ (fun hHeld => ?_)
        · exact NEW.out _ (Below.refl _ W0).drew
        refine wpAnyH_take (i := 0) (v := ?_) rfl (by kernel_rfl) (by kernel_rfl) (by kernel_rfl) (fun _ _ _ h => h) (Or.inl ⟨by rfl, ?takeYs0⟩) (by assumption) ?takeRs0
        case takeYs0 => (intro w hSw; (try dsimp only at hSw); go_simp; try (with_reducible rfl))
        simp only [Act.put, List.setIfInBounds_toArray, List.set_cons_zero, List.set_cons_succ, List.getElem_toArray, List.getElem_cons_zero]
        refine wpAnyH_take (i := 1) (v := ?_) rfl (by kernel_rfl) (by kernel_rfl) (by kernel_rfl) (fun _ _ _ h => h) (Or.inl ⟨by rfl, ?takeYs1⟩) (by assumption) ?takeRs1
        case takeYs1 => (intro w hSw; (try dsimp only at hSw); go_simp; try (with_reducible rfl))
        simp only [Act.put, List.setIfInBounds_toArray, List.set_cons_zero, List.set_cons_succ, List.getElem_toArray, List.getElem_cons_zero, List.getElem_cons_succ]
        refine wpAnyH_ready (rs := [2]) (by kernel_rfl) (by simp) ?_
        refine AllReadyH.cons rfl (fun K hK => ?_) AllReadyH.nil
        go_simp
        refine (hR _).mono ?_
        rintro e w9 ⟨rfl, rfl⟩
        go_wp2_with fail
        refine hK.out _ _ hHeld (fun hHeld2 => ?_)
        clear hK K
        try simp only [Act.put, List.setIfInBounds_toArray, List.set_cons_zero, List.set_cons_succ, List.getElem_toArray, List.getElem_cons_zero, List.getElem_cons_succ]
        refine wpAnyH_take (i := 3) (v := ?_) rfl (by kernel_rfl) (by kernel_rfl) (by kernel_rfl) (fun _ _ _ h => h) (Or.inl ⟨by rfl, ?takeYs3⟩) (by assumption) ?takeRs3
        case takeYs3 => (intro w hSw; (try dsimp only at hSw); go_simp; try (with_reducible rfl))
        simp only [Act.put, List.setIfInBounds_toArray, List.set_cons_zero, List.set_cons_succ, List.getElem_toArray, List.getElem_cons_zero, List.getElem_cons_succ]
        refine wpAnyH_take (i := 4) (v := ?_) rfl (by kernel_rfl) (by kernel_rfl) (by kernel_rfl) (fun _ _ _ h => h) (Or.inl ⟨by rfl, ?takeYs4⟩) (by assumption) ?takeRs4
        case takeYs4 => (intro w hSw; (try dsimp only at hSw); go_simp; try (with_reducible rfl))
        simp only [Act.put, List.setIfInBounds_toArray, List.set_cons_zero, List.set_cons_succ, List.getElem_toArray, List.getElem_cons_zero, List.getElem_cons_succ]
        refine wpAnyH_take (i := 5) (v := ?_) rfl (by kernel_rfl) (by kernel_rfl) (by kernel_rfl) (fun _ _ _ h => h) (Or.inl ⟨by rfl, ?takeYs5⟩) (by assumption) ?takeRs5
        case takeYs5 => (intro w hSw; (try dsimp only at hSw); go_simp; try (with_reducible rfl))
        simp only [Act.put, List.setIfInBounds_toArray, List.set_cons_zero, List.set_cons_succ, List.getElem_toArray, List.getElem_cons_zero, List.getElem_cons_succ]
        refine wpAnyH_take (i := 6) (v := ?_) rfl (by kernel_rfl) (by kernel_rfl) (by kernel_rfl) (fun _ _ _ h => h) (Or.inl ⟨by rfl, ?takeYs6⟩) (by assumption) ?takeRs6
        case takeYs6 => (intro w hSw; (try dsimp only at hSw); go_simp; try (with_reducible rfl))
        simp only [Act.put, List.setIfInBounds_toArray, List.set_cons_zero, List.set_cons_succ, List.getElem_toArray, List.getElem_cons_zero, List.getElem_cons_succ]
        refine wpAnyH_ready (rs := [7]) (by kernel_rfl) (by simp) ?_
        refine AllReadyH.cons rfl (fun K hK => ?_) AllReadyH.nil
        go_simp
        refine (hU _).mono ?_
        rintro e w9 ⟨rfl, rfl⟩
        go_wp2_with fail
        refine hK.out _ _ hHeld (fun hHeld7 => ?_)
        clear hK K
        try simp only [Act.put, List.setIfInBounds_toArray, List.set_cons_zero, List.set_cons_succ, List.getElem_toArray, List.getElem_cons_zero, List.getElem_cons_succ]
        refine wpAnyH_take (i := 8) (v := ?_) rfl (by kernel_rfl) (by kernel_rfl) (by kernel_rfl) (fun _ _ _ h => h) (Or.inl ⟨by rfl, ?takeYs8⟩) (by assumption) ?takeRs8
        case takeYs8 => (intro w hSw; (try dsimp only at hSw); go_simp; try (with_reducible rfl))
        simp only [Act.put, List.setIfInBounds_toArray, List.set_cons_zero, List.set_cons_succ, List.getElem_toArray, List.getElem_cons_zero, List.getElem_cons_succ]
        refine wpAnyH_take (i := 9) (v := ?_) rfl (by kernel_rfl) (by kernel_rfl) (by kernel_rfl) (fun _ _ _ h => h) (Or.inl ⟨by rfl, ?takeYs9⟩) (by assumption) ?takeRs9
        case takeYs9 => (intro w hSw; (try dsimp only at hSw); go_simp; try (with_reducible rfl))
        simp only [Act.put, List.setIfInBounds_toArray, List.set_cons_zero, List.set_cons_succ, List.getElem_toArray, List.getElem_cons_zero, List.getElem_cons_succ]
        refine wpAnyH_take (i := 10) (v := ?_) rfl (by kernel_rfl) (by kernel_rfl) (by kernel_rfl) (fun _ _ _ h => h) (Or.inl ⟨by rfl, ?takeYs10⟩) (by assumption) ?takeRs10
        case takeYs10 => (intro w hSw; (try dsimp only at hSw); go_simp; try (with_reducible rfl))
        simp only [Act.put, List.setIfInBounds_toArray, List.set_cons_zero, List.set_cons_succ, List.getElem_toArray, List.getElem_cons_zero, List.getElem_cons_succ]
        refine wpAnyH_take (i := 11) (v := ?_) rfl (by kernel_rfl) (by kernel_rfl) (by kernel_rfl) (fun _ _ _ h => h) (Or.inl ⟨by rfl, ?takeYs11⟩) (by assumption) ?takeRs11
        case takeYs11 => (intro w hSw; (try dsimp only at hSw); go_simp; try (with_reducible rfl))
        simp only [Act.put, List.setIfInBounds_toArray, List.set_cons_zero, List.set_cons_succ, List.getElem_toArray, List.getElem_cons_zero, List.getElem_cons_succ]
        refine wpAnyH_take (i := 12) (v := ?_) rfl (by kernel_rfl) (by kernel_rfl) (by kernel_rfl) (fun _ _ _ h => h) (Or.inl ⟨by rfl, ?takeYs12⟩) (by assumption) ?takeRs12
        case takeYs12 => (intro w hSw; (try dsimp only at hSw); go_simp; try (with_reducible rfl))
        simp only [Act.put, List.setIfInBounds_toArray, List.set_cons_zero, List.set_cons_succ, List.getElem_toArray, List.getElem_cons_zero, List.getElem_cons_succ]
        refine wpAnyH_ready (rs := [13]) (by kernel_rfl) (by simp) ?_
        refine AllReadyH.cons rfl (fun K hK => ?_) AllReadyH.nil
        go_simp
        refine (hQ _).mono ?_
        rintro e w9 ⟨rfl, rfl⟩
        go_wp2_with fail
        refine hK.out _ _ hHeld (fun hHeld13 => ?_)
        clear hK K
        try simp only [Act.put, List.setIfInBounds_toArray, List.set_cons_zero, List.set_cons_succ, List.getElem_toArray, List.getElem_cons_zero, List.getElem_cons_succ]
        refine wpAnyH_take (i := 14) (v := ?_) rfl (by kernel_rfl) (by kernel_rfl) (by kernel_rfl) (fun _ _ _ h => h) (Or.inl ⟨by rfl, ?takeYs14⟩) (by assumption) ?takeRs14
        case takeYs14 => (intro w hSw; (try dsimp only at hSw); go_simp; try (with_reducible rfl))
        simp only [Act.put, List.setIfInBounds_toArray, List.set_cons_zero, List.set_cons_succ, List.getElem_toArray, List.getElem_cons_zero, List.getElem_cons_succ]
        refine wpAnyH_take (i := 15) (v := ?_) rfl (by kernel_rfl) (by kernel_rfl) (by kernel_rfl) (fun _ _ _ h => h) (Or.inl ⟨by rfl, ?takeYs15⟩) (by assumption) ?takeRs15
        case takeYs15 => (intro w hSw; (try dsimp only at hSw); go_simp; try (with_reducible rfl))
        simp only [Act.put, List.setIfInBounds_toArray, List.set_cons_zero, List.set_cons_succ, List.getElem_toArray, List.getElem_cons_zero, List.getElem_cons_succ]
        refine wpAnyH_take (i := 16) (v := ?_) rfl (by kernel_rfl) (by kernel_rfl) (by kernel_rfl) (fun _ _ _ h => h) (Or.inl ⟨by rfl, ?takeYs16⟩) (by assumption) ?takeRs16
        case takeYs16 => (intro w hSw; (try dsimp only at hSw); go_simp; try (with_reducible rfl))
        simp only [Act.put, List.setIfInBounds_toArray, List.set_cons_zero, List.set_cons_succ, List.getElem_toArray, List.getElem_cons_zero, List.getElem_cons_succ]
        refine wpAnyH_take (i := 17) (v := ?_) rfl (by kernel_rfl) (by kernel_rfl) (by kernel_rfl) (fun _ _ _ h => h) (Or.inl ⟨by rfl, ?takeYs17⟩) (by assumption) ?takeRs17
        case takeYs17 => (intro w hSw; (try dsimp only at hSw); go_simp; try (with_reducible rfl))
        simp only [Act.put, List.setIfInBounds_toArray, List.set_cons_zero, List.set_cons_succ, List.getElem_toArray, List.getElem_cons_zero, List.getElem_cons_succ]
        refine wpAnyH_take (i := 18) (v := ?_) rfl (by kernel_rfl) (by kernel_rfl) (by kernel_rfl) (fun _ _ _ h => h) (Or.inl ⟨by rfl, ?takeYs18⟩) (by assumption) ?takeRs18
        case takeYs18 => (intro w hSw; (try dsimp only at hSw); go_simp; try (with_reducible rfl))
        simp only [Act.put, List.setIfInBounds_toArray, List.set_cons_zero, List.set_cons_succ, List.getElem_toArray, List.getElem_cons_zero, List.getElem_cons_succ]
        refine wpAnyH_ready (rs := [19]) (by kernel_rfl) (by simp) ?_
        refine AllReadyH.cons rfl (fun K hK => ?_) AllReadyH.nil
        go_simp
        refine (hA _).mono ?_
        rintro e w1 ⟨rfl, b1⟩
        have d1 : Below W0.heap.size W0 w1 := (Below.refl _ W0).drew.trans b1
        go_wp2_with fail
        refine hK.out _ _ (NEW.out w1 d1) (fun hHeld19 => ?_)
        clear hK K
        try simp only [Act.put, List.setIfInBounds_toArray, List.set_cons_zero, List.set_cons_succ, List.getElem_toArray, List.getElem_cons_zero, List.getElem_cons_succ]
        clear hHeld
        refine wpAnyH_take (i := 20) (v := ?_) rfl (by kernel_rfl) (by kernel_rfl) (by kernel_rfl) (fun _ _ _ h => h) (Or.inl ⟨by rfl, ?takeYs20⟩) (by assumption) ?takeRs20
        case takeYs20 => (intro w hSw; (try dsimp only at hSw); go_simp; try (with_reducible rfl))
        simp only [Act.put, List.setIfInBounds_toArray, List.set_cons_zero, List.set_cons_succ, List.getElem_toArray, List.getElem_cons_zero, List.getElem_cons_succ]
        refine wpAnyH_take (i := 21) (v := ?_) rfl (by kernel_rfl) (by kernel_rfl) (by kernel_rfl) (fun _ _ _ h => h) (Or.inl ⟨by rfl, ?takeYs21⟩) (by assumption) ?takeRs21
        case takeYs21 => (intro w hSw; (try dsimp only at hSw); go_simp; try (with_reducible rfl))
        simp only [Act.put, List.setIfInBounds_toArray, List.set_cons_zero, List.set_cons_succ, List.getElem_toArray, List.getElem_cons_zero, List.getElem_cons_succ]
        refine wpAnyH_done (by kernel_rfl) ?_ _
        clear hE hR hU hQ hA
        have c1 : Below w.heap.size w w1 := b0.trans (d1.mono b0.size)
        obtain ⟨y0, y1, y2, y3, y4, y5, y6, y7, y8⟩ := NEW.out w1 d1
        cases Rs
        · go_wp2_with fail
          go_ret
          exact ⟨ret_bool (by rw [bare_no k n t i f m hRs]; simp), c1⟩
        · rcases kinds k with rfl | rfl | rfl | rfl | rfl | rfl | ⟨h1, h2, h3, h4, h5, h6⟩
          · skip
            cases hRn : nickT n
            · rw [hRn] at hN
              go_wp2_with (first | (go_at_call 71; go_fit (hN _ c1); rintro e w2 ⟨rfl, b2⟩; have c2 := c1.trans (b2.mono c1.size); have d2 := d1.trans (b2.mono d1.size); clear y0 y1 y2 y3 y4 y5 y6 y7 y8; obtain ⟨y0, y1, y2, y3, y4, y5, y6, y7, y8⟩ := NEW.out w2 d2))
              go_ret
              exact ⟨ret_bool (by rw [bare_15 1 (by omega) n t i f m hRs, hRn]; simp), c2⟩
            · rw [hRn] at hN
              go_wp2_with (first | (go_at_call 71; go_fit (hN _ c1); rintro e w2 ⟨rfl, b2⟩; have c2 := c1.trans (b2.mono c1.size); have d2 := d1.trans (b2.mono d1.size); clear y0 y1 y2 y3 y4 y5 y6 y7 y8; obtain ⟨y0, y1, y2, y3, y4, y5, y6, y7, y8⟩ := NEW.out w2 d2) | (go_at_call 46; go_fit (hM _ _ _); rintro e w9 ⟨rfl, rfl⟩))
              go_ret
              exact ⟨ret_bool (by rw [bare_15 1 (by omega) n t i f m hRs, hRn]; simp), c2⟩
          · skip
            cases hRn : nickT n
            · rw [hRn] at hN
              go_wp2_with (first | (go_at_call 71; go_fit (hN _ c1); rintro e w2 ⟨rfl, b2⟩; have c2 := c1.trans (b2.mono c1.size); have d2 := d1.trans (b2.mono d1.size); clear y0 y1 y2 y3 y4 y5 y6 y7 y8; obtain ⟨y0, y1, y2, y3, y4, y5, y6, y7, y8⟩ := NEW.out w2 d2))
              go_ret
              exact ⟨ret_bool (by rw [bare_2 n t i f m hRs, hRn]; simp), c2⟩
            · rw [hRn] at hN
              go_wp2_with (first | (go_at_call 71; go_fit (hN _ c1); rintro e w2 ⟨rfl, b2⟩; have c2 := c1.trans (b2.mono c1.size); have d2 := d1.trans (b2.mono d1.size); clear y0 y1 y2 y3 y4 y5 y6 y7 y8; obtain ⟨y0, y1, y2, y3, y4, y5, y6, y7, y8⟩ := NEW.out w2 d2) | (go_at_call 46; go_fit (hM _ _ _); rintro e w9 ⟨rfl, rfl⟩))
              go_ret
              exact ⟨ret_bool (by rw [bare_2 n t i f m hRs, hRn]; simp), c2⟩
          · skip
            cases hRn : nickT n
            · rw [hRn] at hN
              go_wp2_with (first | (go_at_call 71; go_fit (hN _ c1); rintro e w2 ⟨rfl, b2⟩; have c2 := c1.trans (b2.mono c1.size); have d2 := d1.trans (b2.mono d1.size); clear y0 y1 y2 y3 y4 y5 y6 y7 y8; obtain ⟨y0, y1, y2, y3, y4, y5, y6, y7, y8⟩ := NEW.out w2 d2))
              go_ret
              exact ⟨ret_bool (by rw [bare_3 n t i f m hRs, hRn]; simp), c2⟩
            · rw [hRn] at hN
              cases hRt : bodyT t
              · rw [hRt] at hB
                go_wp2_with (first | (go_at_call 71; go_fit (hN _ c1); rintro e w2 ⟨rfl, b2⟩; have c2 := c1.trans (b2.mono c1.size); have d2 := d1.trans (b2.mono d1.size); clear y0 y1 y2 y3 y4 y5 y6 y7 y8; obtain ⟨y0, y1, y2, y3, y4, y5, y6, y7, y8⟩ := NEW.out w2 d2) | (go_at_call 47; go_fit (hB _ c2); rintro e w3 ⟨rfl, b3⟩; have c3 := c2.trans (b3.mono c2.size); clear y0 y1 y2 y3 y4 y5 y6 y7 y8; obtain ⟨y0, y1, y2, y3, y4, y5, y6, y7, y8⟩ := NEW.out w3 (d2.trans (b3.mono d2.size))))
                go_ret
                exact ⟨ret_bool (by rw [bare_3 n t i f m hRs, hRn, hRt]; simp), c3⟩
              · rw [hRt] at hB
                cases hRi : wordT i
                · rw [hRi] at hI
                  go_wp2_with (first | (go_at_call 71; go_fit (hN _ c1); rintro e w2 ⟨rfl, b2⟩; have c2 := c1.trans (b2.mono c1.size); have d2 := d1.trans (b2.mono d1.size); clear y0 y1 y2 y3 y4 y5 y6 y7 y8; obtain ⟨y0, y1, y2, y3, y4, y5, y6, y7, y8⟩ := NEW.out w2 d2) | (go_at_call 47; go_fit (hB _ c2); rintro e w3 ⟨rfl, b3⟩; have c3 := c2.trans (b3.mono c2.size); clear y0 y1 y2 y3 y4 y5 y6 y7 y8; obtain ⟨y0, y1, y2, y3, y4, y5, y6, y7, y8⟩ := NEW.out w3 (d2.trans (b3.mono d2.size))) | (go_at_call 75; go_fit (hI _); rintro e w9 ⟨rfl, rfl⟩))
                  go_ret
                  exact ⟨ret_bool (by rw [bare_3 n t i f m hRs, hRn, hRt, hRi]; simp), c3⟩
                · rw [hRi] at hI
                  rcases orE_cases wordT f with ⟨xf, of⟩ | ⟨xf, tf, of⟩ | ⟨xf, tf, of⟩
                  · subst xf
                    go_wp2_with (first | (go_at_call 71; go_fit (hN _ c1); rintro e w2 ⟨rfl, b2⟩; have c2 := c1.trans (b2.mono c1.size); have d2 := d1.trans (b2.mono d1.size); clear y0 y1 y2 y3 y4 y5 y6 y7 y8; obtain ⟨y0, y1, y2, y3, y4, y5, y6, y7, y8⟩ := NEW.out w2 d2) | (go_at_call 47; go_fit (hB _ c2); rintro e w3 ⟨rfl, b3⟩; have c3 := c2.trans (b3.mono c2.size); clear y0 y1 y2 y3 y4 y5 y6 y7 y8; obtain ⟨y0, y1, y2, y3, y4, y5, y6, y7, y8⟩ := NEW.out w3 (d2.trans (b3.mono d2.size))) | (go_at_call 75; go_fit (hI _); rintro e w9 ⟨rfl, rfl⟩))
                    go_ret
                    exact ⟨ret_bool (by rw [bare_3 n t i _ m hRs, hRn, hRt, hRi, of]; simp), c3⟩
                  · rw [tf] at hF
                    go_wp2_with (first | (go_at_call 71; go_fit (hN _ c1); rintro e w2 ⟨rfl, b2⟩; have c2 := c1.trans (b2.mono c1.size); have d2 := d1.trans (b2.mono d1.size); clear y0 y1 y2 y3 y4 y5 y6 y7 y8; obtain ⟨y0, y1, y2, y3, y4, y5, y6, y7, y8⟩ := NEW.out w2 d2) | (go_at_call 47; go_fit (hB _ c2); rintro e w3 ⟨rfl, b3⟩; have c3 := c2.trans (b3.mono c2.size); clear y0 y1 y2 y3 y4 y5 y6 y7 y8; obtain ⟨y0, y1, y2, y3, y4, y5, y6, y7, y8⟩ := NEW.out w3 (d2.trans (b3.mono d2.size))) | (go_at_call 75; go_fit (hI _); rintro e w9 ⟨rfl, rfl⟩) | (go_at_call 75; go_fit (hF _); rintro e w9 ⟨rfl, rfl⟩))
                    go_ret
                    exact ⟨ret_bool (by rw [bare_3 n t i _ m hRs, hRn, hRt, hRi, of]; simp), c3⟩
                  · rw [tf] at hF
                    go_wp2_with (first | (go_at_call 71; go_fit (hN _ c1); rintro e w2 ⟨rfl, b2⟩; have c2 := c1.trans (b2.mono c1.size); have d2 := d1.trans (b2.mono d1.size); clear y0 y1 y2 y3 y4 y5 y6 y7 y8; obtain ⟨y0, y1, y2, y3, y4, y5, y6, y7, y8⟩ := NEW.out w2 d2) | (go_at_call 47; go_fit (hB _ c2); rintro e w3 ⟨rfl, b3⟩; have c3 := c2.trans (b3.mono c2.size); clear y0 y1 y2 y3 y4 y5 y6 y7 y8; obtain ⟨y0, y1, y2, y3, y4, y5, y6, y7, y8⟩ := NEW.out w3 (d2.trans (b3.mono d2.size))) | (go_at_call 75; go_fit (hI _); rintro e w9 ⟨rfl, rfl⟩) | (go_at_call 75; go_fit (hF _); rintro e w9 ⟨rfl, rfl⟩))
                    go_ret
                    exact ⟨ret_bool (by rw [bare_3 n t i _ m hRs, hRn, hRt, hRi, of]; simp), c3⟩
          · skip
            cases hRn : nickT n
            · rw [hRn] at hN
              go_wp2_with (first | (go_at_call 71; go_fit (hN _ c1); rintro e w2 ⟨rfl, b2⟩; have c2 := c1.trans (b2.mono c1.size); have d2 := d1.trans (b2.mono d1.size); clear y0 y1 y2 y3 y4 y5 y6 y7 y8; obtain ⟨y0, y1, y2, y3, y4, y5, y6, y7, y8⟩ := NEW.out w2 d2))
              go_ret
              exact ⟨ret_bool (by rw [bare_4 n t i f m hRs, hRn]; simp), c2⟩
            · rw [hRn] at hN
              cases hRt : bodyT t
              · rw [hRt] at hB
                go_wp2_with (first | (go_at_call 71; go_fit (hN _ c1); rintro e w2 ⟨rfl, b2⟩; have c2 := c1.trans (b2.mono c1.size); have d2 := d1.trans (b2.mono d1.size); clear y0 y1 y2 y3 y4 y5 y6 y7 y8; obtain ⟨y0, y1, y2, y3, y4, y5, y6, y7, y8⟩ := NEW.out w2 d2) | (go_at_call 47; go_fit (hB _ c2); rintro e w3 ⟨rfl, b3⟩; have c3 := c2.trans (b3.mono c2.size); clear y0 y1 y2 y3 y4 y5 y6 y7 y8; obtain ⟨y0, y1, y2, y3, y4, y5, y6, y7, y8⟩ := NEW.out w3 (d2.trans (b3.mono d2.size))))
                go_ret
                exact ⟨ret_bool (by rw [bare_4 n t i f m hRs, hRn, hRt]; simp), c3⟩
              · rw [hRt] at hB
                go_wp2_with (first | (go_at_call 71; go_fit (hN _ c1); rintro e w2 ⟨rfl, b2⟩; have c2 := c1.trans (b2.mono c1.size); have d2 := d1.trans (b2.mono d1.size); clear y0 y1 y2 y3 y4 y5 y6 y7 y8; obtain ⟨y0, y1, y2, y3, y4, y5, y6, y7, y8⟩ := NEW.out w2 d2) | (go_at_call 47; go_fit (hB _ c2); rintro e w3 ⟨rfl, b3⟩; have c3 := c2.trans (b3.mono c2.size); clear y0 y1 y2 y3 y4 y5 y6 y7 y8; obtain ⟨y0, y1, y2, y3, y4, y5, y6, y7, y8⟩ := NEW.out w3 (d2.trans (b3.mono d2.size))) | (go_at_call 75; go_fit (hI _); rintro e w9 ⟨rfl, rfl⟩))
                go_ret
                exact ⟨ret_bool (by rw [bare_4 n t i f m hRs, hRn, hRt]; simp), c3⟩
          · skip
            cases hRn : nickT n
            · rw [hRn] at hN
              go_wp2_with (first | (go_at_call 71; go_fit (hN _ c1); rintro e w2 ⟨rfl, b2⟩; have c2 := c1.trans (b2.mono c1.size); have d2 := d1.trans (b2.mono d1.size); clear y0 y1 y2 y3 y4 y5 y6 y7 y8; obtain ⟨y0, y1, y2, y3, y4, y5, y6, y7, y8⟩ := NEW.out w2 d2))
              go_ret
              exact ⟨ret_bool (by rw [bare_15 5 (by omega) n t i f m hRs, hRn]; simp), c2⟩
            · rw [hRn] at hN
              go_wp2_with (first | (go_at_call 71; go_fit (hN _ c1); rintro e w2 ⟨rfl, b2⟩; have c2 := c1.trans (b2.mono c1.size); have d2 := d1.trans (b2.mono d1.size); clear y0 y1 y2 y3 y4 y5 y6 y7 y8; obtain ⟨y0, y1, y2, y3, y4, y5, y6, y7, y8⟩ := NEW.out w2 d2) | (go_at_call 46; go_fit (hM _ _ _); rintro e w9 ⟨rfl, rfl⟩))
              go_ret
              exact ⟨ret_bool (by rw [bare_15 5 (by omega) n t i f m hRs, hRn]; simp), c2⟩
          · skip
            go_wp2_with (first | (go_at_call 46; go_fit (hM _ _ _); rintro e w9 ⟨rfl, rfl⟩))
            go_ret
            exact ⟨ret_bool (by rw [bare_6 n t i f m hRs]; simp), c1⟩
          · have q1 : (k == 1) = false := beq_eq_false_iff_ne.2 h1
            have q2 : (k == 2) = false := beq_eq_false_iff_ne.2 h2
            have q3 : (k == 3) = false := beq_eq_false_iff_ne.2 h3
            have q4 : (k == 4) = false := beq_eq_false_iff_ne.2 h4
            have q5 : (k == 5) = false := beq_eq_false_iff_ne.2 h5
            have q6 : (k == 6) = false := beq_eq_false_iff_ne.2 h6
            go_wp2_with fail
            go_ret
            exact ⟨ret_bool (by rw [bareT_no k ⟨h1, h2, h3, h4, h5, h6⟩]; simp), c1⟩
end Go.Proofs.YtgjlgddglgffmaaGreatDoor.Hub
