/-
  How the model cuts a text at its bars, and reads a number.
-/
import Derived.Test.YtjknjlaabppooaaDoorGetPlain
import Derived.Test.YtjknjlaabppooaaDoorJidCut
import Derived.WalkKit
import Derived.Deep.RegionHeld3
namespace Go.Proofs.YtjknjlaabppooaaDoor.Hub
open Go.RowKit
set_option linter.unusedVariables false

set_option maxRecDepth 100000 in
set_option maxHeartbeats 2000000 in
theorem l8Fields_any (s : ByteArray) (hs : s.size ≤ 1048576) (w : World) :
    Calls Tryd.prog 11 #[.string s] w fun e w' => Parts w.heap.size (fldL [] s.data.toList) w e w' := by
  obtain ⟨R, hR⟩ : ∃ R, fldL [] s.data.toList = R := ⟨_, rfl⟩
  have HR : Hid (fldL [] s.data.toList = R) := hR
  rw [hR]
  clear hR
  obtain ⟨i0, hi, hz0, hz1, hz2⟩ := info_parts info_str
  go_enter Tryd.func11, Tryd.ntmps11
  go_wp2_with fail
  go_loopw [3, 4] (fun o i wr => ∃ (ps : List (List UInt8)) (acc : List UInt8) (k g cap n : Nat), k ≤ s.size ∧ i = .int .i64 k ∧ Hid (n = ps.length + 1) ∧ ps.length ≤ k ∧ acc.length ≤ k ∧ o = .slice (some ⟨g, 0, none⟩) n cap ∧ Hid (w.heap.size ≤ g) ∧ wr.ownsRow w.heap.size 9 1 o n (strs (ps ++ [acc])) ∧ Hid (ps ++ fldL acc (s.data.toList.drop k) = R) ∧ Below w.heap.size w wr) (fun _ i _ => s.size - (intOf i).toNat)
  case atStart =>
    refine ⟨[], [], 0, w.heap.size, 1, 1, by omega, rfl, rfl, by simp, by simp, rfl, Nat.le_refl w.heap.size, ?_, ?_, (Below.refl _ w).alloc (Nat.le_refl _) _⟩
    · exact World.ownsRow_lit w #[.string ⟨#[]⟩] 1 (Nat.le_refl _) (le_maxLen _ (by omega)) rfl
    · show [] ++ fldL [] (s.data.toList.drop 0) = R
      rw [List.nil_append, List.drop_zero]
      exact HR.out
  case round =>
    obtain ⟨ps, acc, k, g, cap, n, hk, rfl, hn, hpk, hak, rfl, hg, hown, HA, hnx⟩ := hrel
    by_cases hlt : k < s.size
    · obtain ⟨m, hm⟩ : ∃ m, m = ps.length := ⟨_, rfl⟩
      have hn0 : n = m + 1 := by rw [hm]; exact hn.out
      have hcell : wr.cell? ⟨g, m, none⟩ = some (.string (ofL acc)) := by
        rw [World.ownsRow.cellAt hown m (by omega), hm]
        unfold strs
        simp
      have hfz : wr.frozen? ⟨g, m, none⟩ = false := World.ownsRow.frozenAt hown m
      have e1 : IntKind.i64.wrap ((n : Int) - 1) = (m : Int) := by rw [IntKind.wrap_i64]; omega
      have hmn : (m : Int) < (n : Int) := by omega
      have hmk : m ≤ k := by omega
      have HM : Hid (m = ps.length) := hm
      clear hm
      by_cases h1 : s[k] = 124
      · have g1 : ((s[k].toNat : Int) == 124) = true := by rw [h1]; rfl
        have HB : Hid (ps ++ [acc] ++ fldL [] (s.data.toList.drop (k + 1)) = R) := by
          have := HA.out
          rw [drop_cons s k hlt, h1, fld_bar] at this
          show _ = R
          rw [← this, List.append_assoc]
          rfl
        clear HA HR h1 hcell hfz
        go_wp2_with (at_builtin; refine wpList_append_own _ rfl _ _ 28 rfl w.heap.size 9 i0 (.string ⟨#[]⟩) 1 16 Tryd.underlying28 hi hz0 hz1 hz2 rfl (by decide) _ _ _ rfl (hown.alloc _) ⟨wr.heap.size, 0, none⟩ 1 1 [.string ⟨#[]⟩] rfl rfl (cell_one _ _) (one_cell _) (le_maxLen _ (by omega)) (by omega) (by have := hnx.size; simp; omega) ?_; intro v' w1 hown' hgrow hnil)
        obtain ⟨g', cap', rfl⟩ := ownsRow_succ hown'
        have hb1 := (hnx.alloc hnx.size _).grown hgrow (by have := hnx.size; simp; omega) (fun j e => by cases e; exact hg.out)
        have hg' : Hid (w.heap.size ≤ g') := by
          rcases hown'.2 with ⟨e, _⟩ | ⟨g2, c2, cur, e, h2, _⟩
          · cases e
          · cases e; exact h2
        clear hgrow hown
        go_wp2_with fail
        go_roundw
        case rel =>
          refine ⟨ps ++ [acc], [], k + 1, g', cap', n + 1, by omega, by go_num, ?_, by rw [List.length_append]; show _ + 1 ≤ _; omega, by simp, rfl, hg', ?_, HB, hb1⟩
          · show n + 1 = (ps ++ [acc]).length + 1
            rw [hn.out, List.length_append]; rfl
          · rw [strs_snoc]
            exact hown'
        case measure => simp [intOf]; omega
      · have g1 : ((s[k].toNat : Int) == 124) = false := beq_eq_false_iff_ne.2 (fun e => h1 (UInt8.toNat_inj.1 (by have : (124 : UInt8).toNat = 124 := rfl; omega)))
        have hAs : (ofL acc).size ≤ k := hak
        have hcd : wr.drew.cell? ⟨g, m, none⟩ = some (.string (ofL acc)) := hcell
        have hfd : wr.drew.frozen? ⟨g, m, none⟩ = false := hfz
        obtain ⟨k1, hk1⟩ : ∃ k1, k1 = k + 1 := ⟨_, rfl⟩
        have e3 : IntKind.i64.wrap ((k : Int) + 1) = (k1 : Int) := by rw [IntKind.wrap_i64]; omega
        have i1 : (k : Int) ≤ (k1 : Int) := by omega
        have i2 : (k1 : Int) ≤ (s.size : Int) := by omega
        have i0' : (0 : Int) ≤ (k : Int) := by omega
        have i3 : (0 : Int) ≤ (k1 : Int) := by omega
        have Hk1 : Hid (k1 = k + 1) := hk1
        by_cases h2 : s[k] = 92
        · have g2 : ((s[k].toNat : Int) == 92) = true := by rw [h2]; rfl
          by_cases h3 : k1 < s.size
          · have h3I : (k1 : Int) < (s.size : Int) := by omega
            have HB0 : ps ++ fldL (acc ++ [s[k1]]) (s.data.toList.drop (k1 + 1)) = R := by
              subst hk1
              have := HA.out
              rw [drop_cons s k hlt, drop_cons s (k + 1) h3, h2, fld_esc] at this
              exact this
            obtain ⟨k2, hk2⟩ : ∃ k2, k2 = k1 + 1 := ⟨_, rfl⟩
            have e4 : IntKind.i64.wrap ((k1 : Int) + 1) = (k2 : Int) := by rw [IntKind.wrap_i64]; omega
            have i4 : (k1 : Int) ≤ (k2 : Int) := by omega
            have i5 : (k2 : Int) ≤ (s.size : Int) := by omega
            have hAs' : (ofL acc).size ≤ k2 := by omega
            have Hk2 : Hid (k2 = k1 + 1) := hk2
            rw [← hk2] at HB0
            have HB : Hid (ps ++ fldL (acc ++ [s[k1]]) (s.data.toList.drop k2) = R) := HB0
            have z9 : s.size - k2 < s.size - k ∧ k2 ≤ s.size ∧ k + 1 ≤ k2 ∧ k1 < k2 := by omega
            clear HA h1 h2 HB0 hk2 hk1 hn0
            have HX : Hid (ofL acc ++ s.extract k1 k2 = ofL (acc ++ [s[k1]])) := by
              show _ = _
              rw [Hk2.out]
              apply WideShapes.bytes_inj
              rw [ByteArray.data_append, Array.toList_append, ← sub_ofL, sub_succ s k1 k1 (Nat.le_refl _) (by omega), sub_self]
              rfl
            have hxs : (s.extract k1 k2).size ≤ 1 := by rw [ByteArray.size_extract, Hk2.out]; omega
            generalize hAcc : ofL acc = A at *
            have HAcc : Hid (ofL acc = A) := hAcc
            clear hAcc
            have OWN : Hid (wr.drew.ownsRow w.heap.size 9 1 (.slice (some ⟨g, 0, none⟩) n cap) n (strs (ps ++ [acc]))) := hown.drew
            have NX : Hid (Below w.heap.size w wr.drew) := hnx.drew
            clear hown hnx HR hcell hfz
            go_wp2_with fail
            refine wp_region_held_drew (S := fun _ => True) (by kernel_rfl) trivial (fun hHeld => ?_)
            refine wpAnyH_take (i := 0) (v := ?_) rfl (by kernel_rfl) (by kernel_rfl) (by kernel_rfl) (fun _ _ _ h => h) (Or.inl ⟨by rfl, ?takeYfa0⟩) trivial ?takeRfa0
            case takeYfa0 => (intro w hSw; go_simp; try (with_reducible rfl))
            simp only [Act.put, List.setIfInBounds_toArray, List.set_cons_zero, List.set_cons_succ, List.getElem_toArray, List.getElem_cons_zero]
            refine wpAnyH_take (i := 1) (v := ?_) rfl (by kernel_rfl) (by kernel_rfl) (by kernel_rfl) (fun _ _ _ h => h) (Or.inl ⟨by rfl, ?takeYfa1⟩) trivial ?takeRfa1
            case takeYfa1 => (intro w hSw; go_simp; try (with_reducible rfl))
            simp only [Act.put, List.setIfInBounds_toArray, List.set_cons_zero, List.set_cons_succ, List.getElem_toArray, List.getElem_cons_zero, List.getElem_cons_succ]
            refine wpAnyH_take (i := 2) (v := ?_) rfl (by kernel_rfl) (by kernel_rfl) (by kernel_rfl) (fun _ _ _ h => h) (Or.inl ⟨by rfl, ?takeYfa2⟩) trivial ?takeRfa2
            case takeYfa2 => (intro w hSw; go_simp; try (with_reducible rfl))
            simp only [Act.put, List.setIfInBounds_toArray, List.set_cons_zero, List.set_cons_succ, List.getElem_toArray, List.getElem_cons_zero, List.getElem_cons_succ]
            refine wpAnyH_take (i := 3) (v := ?_) rfl (by kernel_rfl) (by kernel_rfl) (by kernel_rfl) (fun _ _ _ h => h) (Or.inl ⟨by rfl, ?takeYfa3⟩) trivial ?takeRfa3
            case takeYfa3 => (intro w hSw; go_simp; try (with_reducible rfl))
            simp only [Act.put, List.setIfInBounds_toArray, List.set_cons_zero, List.set_cons_succ, List.getElem_toArray, List.getElem_cons_zero, List.getElem_cons_succ]
            refine wpAnyH_take (i := 6) (v := ?_) rfl (by kernel_rfl) (by kernel_rfl) (by kernel_rfl) (fun _ _ _ h => h) (Or.inl ⟨by rfl, ?takeYfa6⟩) trivial ?takeRfa6
            case takeYfa6 => (intro w hSw; go_simp; try (with_reducible rfl))
            simp only [Act.put, List.setIfInBounds_toArray, List.set_cons_zero, List.set_cons_succ, List.getElem_toArray, List.getElem_cons_zero, List.getElem_cons_succ]
            refine wpAnyH_take (i := 7) (v := ?_) rfl (by kernel_rfl) (by kernel_rfl) (by kernel_rfl) (fun _ _ _ h => h) (Or.inl ⟨by rfl, ?takeYfa7⟩) trivial ?takeRfa7
            case takeYfa7 => (intro w hSw; go_simp; try (with_reducible rfl))
            simp only [Act.put, List.setIfInBounds_toArray, List.set_cons_zero, List.set_cons_succ, List.getElem_toArray, List.getElem_cons_zero, List.getElem_cons_succ]
            refine wpAnyH_take (i := 8) (v := ?_) rfl (by kernel_rfl) (by kernel_rfl) (by kernel_rfl) (fun _ _ _ h => h) (Or.inl ⟨by rfl, ?takeYfa8⟩) trivial ?takeRfa8
            case takeYfa8 => (intro w hSw; go_simp; try (with_reducible rfl))
            simp only [Act.put, List.setIfInBounds_toArray, List.set_cons_zero, List.set_cons_succ, List.getElem_toArray, List.getElem_cons_zero, List.getElem_cons_succ]
            refine wpAnyH_take (i := 4) (v := ?_) rfl (by kernel_rfl) (by kernel_rfl) (by kernel_rfl) (fun _ _ _ h => h) (Or.inl ⟨by rfl, ?takeYfa4⟩) trivial ?takeRfa4
            case takeYfa4 => (intro w hSw; go_simp; try (with_reducible rfl))
            simp only [Act.put, List.setIfInBounds_toArray, List.set_cons_zero, List.set_cons_succ, List.getElem_toArray, List.getElem_cons_zero, List.getElem_cons_succ]
            refine wpAnyH_take (i := 9) (v := ?_) rfl (by kernel_rfl) (by kernel_rfl) (by kernel_rfl) (fun _ _ _ h => h) (Or.inl ⟨by rfl, ?takeYfa9⟩) trivial ?takeRfa9
            case takeYfa9 => (intro w hSw; go_simp; try (with_reducible rfl))
            simp only [Act.put, List.setIfInBounds_toArray, List.set_cons_zero, List.set_cons_succ, List.getElem_toArray, List.getElem_cons_zero, List.getElem_cons_succ]
            refine wpAnyH_take (i := 10) (v := ?_) rfl (by kernel_rfl) (by kernel_rfl) (by kernel_rfl) (fun _ _ _ h => h) (Or.inl ⟨by rfl, ?takeYfa10⟩) trivial ?takeRfa10
            case takeYfa10 => (intro w hSw; go_simp; try (with_reducible rfl))
            simp only [Act.put, List.setIfInBounds_toArray, List.set_cons_zero, List.set_cons_succ, List.getElem_toArray, List.getElem_cons_zero, List.getElem_cons_succ]
            refine wpAnyH_ready (rs := [5]) (by kernel_rfl) (by simp) ?_
            refine AllReadyH.cons rfl (fun K hK => ?_) AllReadyH.nil
            go_simp
            refine hK.out _ _ trivial (fun _ => ?_)
            clear hK K
            try simp only [Act.put, List.setIfInBounds_toArray, List.set_cons_zero, List.set_cons_succ, List.getElem_toArray, List.getElem_cons_zero, List.getElem_cons_succ]
            refine wpAnyH_take (i := 11) (v := ?_) rfl (by kernel_rfl) (by kernel_rfl) (by kernel_rfl) (fun _ _ _ h => h) (Or.inl ⟨by rfl, ?takeYfa11⟩) trivial ?takeRfa11
            case takeYfa11 => (intro w hSw; go_simp; rw [if_neg (by omega)])
            simp only [Act.put, List.setIfInBounds_toArray, List.set_cons_zero, List.set_cons_succ, List.getElem_toArray, List.getElem_cons_zero, List.getElem_cons_succ]
            refine wpAnyH_take (i := 12) (v := ?_) rfl (by kernel_rfl) (by kernel_rfl) (by kernel_rfl) (fun _ _ _ h => h) (Or.inl ⟨by rfl, ?takeYfa12⟩) trivial ?takeRfa12
            case takeYfa12 => (intro w hSw; go_simp; try (with_reducible rfl))
            simp only [Act.put, List.setIfInBounds_toArray, List.set_cons_zero, List.set_cons_succ, List.getElem_toArray, List.getElem_cons_zero, List.getElem_cons_succ]
            refine wpAnyH_ready (rs := [13]) (by kernel_rfl) (by simp) ?_
            refine AllReadyH.cons rfl (fun K hK => ?_) AllReadyH.nil
            go_simp
            refine hK.out _ _ trivial (fun _ => ?_)
            clear hK K
            try simp only [Act.put, List.setIfInBounds_toArray, List.set_cons_zero, List.set_cons_succ, List.getElem_toArray, List.getElem_cons_zero, List.getElem_cons_succ]
            refine wpAnyH_done (by kernel_rfl) ?_ _
            have ST := World.ownsRow.stored OWN.out m (.string (A ++ s.extract k1 k2))
            have BL := NX.out.setCell (p := ⟨g, m, none⟩) hg.out (.string (A ++ s.extract k1 k2))
            go_wp2_with fail
            go_roundw
            case rel =>
              refine ⟨ps, acc ++ [s[k1]], k2, g, cap, n, by omega, rfl, hn, by omega, by rw [List.length_append]; show _ + 1 ≤ _; omega, rfl, hg, ?_, HB, BL⟩
              have e9 : (strs (ps ++ [acc])).set m (.string (A ++ s.extract k1 k2)) = strs (ps ++ [acc ++ [s[k1]]]) := by
                rw [HX.out, HM.out, strs_snoc, strs_snoc, List.set_append_right _ _ (by rw [strs_len]; exact Nat.le_refl _), strs_len, Nat.sub_self]
                rfl
              rw [← e9]
              exact ST.1
            case measure => simp [intOf]; omega
          · have h3I : ¬ (k1 : Int) < (s.size : Int) := by omega
            have HB : Hid (ps ++ fldL (acc ++ [s[k]]) (s.data.toList.drop k1) = R) := by
              have := HA.out
              have hd : s.data.toList.drop k1 = [] := List.drop_eq_nil_of_le (show s.data.toList.length ≤ k1 by have : s.data.toList.length = s.size := rfl; omega)
              rw [drop_cons s k hlt, ← hk1, hd, h2, fld_end] at this
              show _ = R
              rw [hd, h2]
              exact this
            have z9 : s.size - k1 < s.size - k ∧ k1 ≤ s.size ∧ k + 1 ≤ k1 := by omega
            clear HA h1 h2 hk1 hn0
            have HX : Hid (ofL acc ++ s.extract k k1 = ofL (acc ++ [s[k]])) := by
              show _ = _
              rw [Hk1.out]
              apply WideShapes.bytes_inj
              rw [ByteArray.data_append, Array.toList_append, ← sub_ofL, sub_succ s k k (Nat.le_refl _) (by omega), sub_self]
              rfl
            have hxs : (s.extract k k1).size ≤ 1 := by rw [ByteArray.size_extract, Hk1.out]; omega
            generalize hAcc : ofL acc = A at *
            have HAcc : Hid (ofL acc = A) := hAcc
            clear hAcc
            have OWN : Hid (wr.drew.ownsRow w.heap.size 9 1 (.slice (some ⟨g, 0, none⟩) n cap) n (strs (ps ++ [acc]))) := hown.drew
            have NX : Hid (Below w.heap.size w wr.drew) := hnx.drew
            clear hown hnx HR hcell hfz
            go_wp2_with fail
            refine wp_region_held_drew (S := fun _ => True) (by kernel_rfl) trivial (fun hHeld => ?_)
            refine wpAnyH_take (i := 0) (v := ?_) rfl (by kernel_rfl) (by kernel_rfl) (by kernel_rfl) (fun _ _ _ h => h) (Or.inl ⟨by rfl, ?takeYfb0⟩) trivial ?takeRfb0
            case takeYfb0 => (intro w hSw; go_simp; try (with_reducible rfl))
            simp only [Act.put, List.setIfInBounds_toArray, List.set_cons_zero, List.set_cons_succ, List.getElem_toArray, List.getElem_cons_zero]
            refine wpAnyH_take (i := 1) (v := ?_) rfl (by kernel_rfl) (by kernel_rfl) (by kernel_rfl) (fun _ _ _ h => h) (Or.inl ⟨by rfl, ?takeYfb1⟩) trivial ?takeRfb1
            case takeYfb1 => (intro w hSw; go_simp; try (with_reducible rfl))
            simp only [Act.put, List.setIfInBounds_toArray, List.set_cons_zero, List.set_cons_succ, List.getElem_toArray, List.getElem_cons_zero, List.getElem_cons_succ]
            refine wpAnyH_take (i := 2) (v := ?_) rfl (by kernel_rfl) (by kernel_rfl) (by kernel_rfl) (fun _ _ _ h => h) (Or.inl ⟨by rfl, ?takeYfb2⟩) trivial ?takeRfb2
            case takeYfb2 => (intro w hSw; go_simp; try (with_reducible rfl))
            simp only [Act.put, List.setIfInBounds_toArray, List.set_cons_zero, List.set_cons_succ, List.getElem_toArray, List.getElem_cons_zero, List.getElem_cons_succ]
            refine wpAnyH_take (i := 3) (v := ?_) rfl (by kernel_rfl) (by kernel_rfl) (by kernel_rfl) (fun _ _ _ h => h) (Or.inl ⟨by rfl, ?takeYfb3⟩) trivial ?takeRfb3
            case takeYfb3 => (intro w hSw; go_simp; try (with_reducible rfl))
            simp only [Act.put, List.setIfInBounds_toArray, List.set_cons_zero, List.set_cons_succ, List.getElem_toArray, List.getElem_cons_zero, List.getElem_cons_succ]
            refine wpAnyH_take (i := 6) (v := ?_) rfl (by kernel_rfl) (by kernel_rfl) (by kernel_rfl) (fun _ _ _ h => h) (Or.inl ⟨by rfl, ?takeYfb6⟩) trivial ?takeRfb6
            case takeYfb6 => (intro w hSw; go_simp; try (with_reducible rfl))
            simp only [Act.put, List.setIfInBounds_toArray, List.set_cons_zero, List.set_cons_succ, List.getElem_toArray, List.getElem_cons_zero, List.getElem_cons_succ]
            refine wpAnyH_take (i := 7) (v := ?_) rfl (by kernel_rfl) (by kernel_rfl) (by kernel_rfl) (fun _ _ _ h => h) (Or.inl ⟨by rfl, ?takeYfb7⟩) trivial ?takeRfb7
            case takeYfb7 => (intro w hSw; go_simp; try (with_reducible rfl))
            simp only [Act.put, List.setIfInBounds_toArray, List.set_cons_zero, List.set_cons_succ, List.getElem_toArray, List.getElem_cons_zero, List.getElem_cons_succ]
            refine wpAnyH_take (i := 8) (v := ?_) rfl (by kernel_rfl) (by kernel_rfl) (by kernel_rfl) (fun _ _ _ h => h) (Or.inl ⟨by rfl, ?takeYfb8⟩) trivial ?takeRfb8
            case takeYfb8 => (intro w hSw; go_simp; try (with_reducible rfl))
            simp only [Act.put, List.setIfInBounds_toArray, List.set_cons_zero, List.set_cons_succ, List.getElem_toArray, List.getElem_cons_zero, List.getElem_cons_succ]
            refine wpAnyH_take (i := 4) (v := ?_) rfl (by kernel_rfl) (by kernel_rfl) (by kernel_rfl) (fun _ _ _ h => h) (Or.inl ⟨by rfl, ?takeYfb4⟩) trivial ?takeRfb4
            case takeYfb4 => (intro w hSw; go_simp; try (with_reducible rfl))
            simp only [Act.put, List.setIfInBounds_toArray, List.set_cons_zero, List.set_cons_succ, List.getElem_toArray, List.getElem_cons_zero, List.getElem_cons_succ]
            refine wpAnyH_take (i := 9) (v := ?_) rfl (by kernel_rfl) (by kernel_rfl) (by kernel_rfl) (fun _ _ _ h => h) (Or.inl ⟨by rfl, ?takeYfb9⟩) trivial ?takeRfb9
            case takeYfb9 => (intro w hSw; go_simp; try (with_reducible rfl))
            simp only [Act.put, List.setIfInBounds_toArray, List.set_cons_zero, List.set_cons_succ, List.getElem_toArray, List.getElem_cons_zero, List.getElem_cons_succ]
            refine wpAnyH_take (i := 10) (v := ?_) rfl (by kernel_rfl) (by kernel_rfl) (by kernel_rfl) (fun _ _ _ h => h) (Or.inl ⟨by rfl, ?takeYfb10⟩) trivial ?takeRfb10
            case takeYfb10 => (intro w hSw; go_simp; try (with_reducible rfl))
            simp only [Act.put, List.setIfInBounds_toArray, List.set_cons_zero, List.set_cons_succ, List.getElem_toArray, List.getElem_cons_zero, List.getElem_cons_succ]
            refine wpAnyH_ready (rs := [5]) (by kernel_rfl) (by simp) ?_
            refine AllReadyH.cons rfl (fun K hK => ?_) AllReadyH.nil
            go_simp
            refine hK.out _ _ trivial (fun _ => ?_)
            clear hK K
            try simp only [Act.put, List.setIfInBounds_toArray, List.set_cons_zero, List.set_cons_succ, List.getElem_toArray, List.getElem_cons_zero, List.getElem_cons_succ]
            refine wpAnyH_take (i := 11) (v := ?_) rfl (by kernel_rfl) (by kernel_rfl) (by kernel_rfl) (fun _ _ _ h => h) (Or.inl ⟨by rfl, ?takeYfb11⟩) trivial ?takeRfb11
            case takeYfb11 => (intro w hSw; go_simp; rw [if_neg (by omega)])
            simp only [Act.put, List.setIfInBounds_toArray, List.set_cons_zero, List.set_cons_succ, List.getElem_toArray, List.getElem_cons_zero, List.getElem_cons_succ]
            refine wpAnyH_take (i := 12) (v := ?_) rfl (by kernel_rfl) (by kernel_rfl) (by kernel_rfl) (fun _ _ _ h => h) (Or.inl ⟨by rfl, ?takeYfb12⟩) trivial ?takeRfb12
            case takeYfb12 => (intro w hSw; go_simp; try (with_reducible rfl))
            simp only [Act.put, List.setIfInBounds_toArray, List.set_cons_zero, List.set_cons_succ, List.getElem_toArray, List.getElem_cons_zero, List.getElem_cons_succ]
            refine wpAnyH_ready (rs := [13]) (by kernel_rfl) (by simp) ?_
            refine AllReadyH.cons rfl (fun K hK => ?_) AllReadyH.nil
            go_simp
            refine hK.out _ _ trivial (fun _ => ?_)
            clear hK K
            try simp only [Act.put, List.setIfInBounds_toArray, List.set_cons_zero, List.set_cons_succ, List.getElem_toArray, List.getElem_cons_zero, List.getElem_cons_succ]
            refine wpAnyH_done (by kernel_rfl) ?_ _
            have ST := World.ownsRow.stored OWN.out m (.string (A ++ s.extract k k1))
            have BL := NX.out.setCell (p := ⟨g, m, none⟩) hg.out (.string (A ++ s.extract k k1))
            go_wp2_with fail
            go_roundw
            case rel =>
              refine ⟨ps, acc ++ [s[k]], k1, g, cap, n, by omega, rfl, hn, by omega, by rw [List.length_append]; show _ + 1 ≤ _; omega, rfl, hg, ?_, HB, BL⟩
              have e9 : (strs (ps ++ [acc])).set m (.string (A ++ s.extract k k1)) = strs (ps ++ [acc ++ [s[k]]]) := by
                rw [HX.out, HM.out, strs_snoc, strs_snoc, List.set_append_right _ _ (by rw [strs_len]; exact Nat.le_refl _), strs_len, Nat.sub_self]
                rfl
              rw [← e9]
              exact ST.1
            case measure => simp [intOf]; omega
        · have g2 : ((s[k].toNat : Int) == 92) = false := beq_eq_false_iff_ne.2 (fun e => h2 (UInt8.toNat_inj.1 (by have : (92 : UInt8).toNat = 92 := rfl; omega)))
          have HB : Hid (ps ++ fldL (acc ++ [s[k]]) (s.data.toList.drop k1) = R) := by
            have := HA.out
            rw [drop_cons s k hlt, fld_oth _ _ _ h1 h2, ← hk1] at this
            exact this
          have z9 : s.size - k1 < s.size - k ∧ k1 ≤ s.size ∧ k + 1 ≤ k1 := by omega
          clear HA h1 h2 hk1 hn0
          have HX : Hid (ofL acc ++ s.extract k k1 = ofL (acc ++ [s[k]])) := by
            show _ = _
            rw [Hk1.out]
            apply WideShapes.bytes_inj
            rw [ByteArray.data_append, Array.toList_append, ← sub_ofL, sub_succ s k k (Nat.le_refl _) (by omega), sub_self]
            rfl
          have hxs : (s.extract k k1).size ≤ 1 := by rw [ByteArray.size_extract, Hk1.out]; omega
          generalize hAcc : ofL acc = A at *
          have HAcc : Hid (ofL acc = A) := hAcc
          clear hAcc
          have OWN : Hid (wr.drew.ownsRow w.heap.size 9 1 (.slice (some ⟨g, 0, none⟩) n cap) n (strs (ps ++ [acc]))) := hown.drew
          have NX : Hid (Below w.heap.size w wr.drew) := hnx.drew
          clear hown hnx HR hcell hfz
          go_wp2_with fail
          refine wp_region_held_drew (S := fun _ => True) (by kernel_rfl) trivial (fun hHeld => ?_)
          refine wpAnyH_take (i := 0) (v := ?_) rfl (by kernel_rfl) (by kernel_rfl) (by kernel_rfl) (fun _ _ _ h => h) (Or.inl ⟨by rfl, ?takeYfc0⟩) trivial ?takeRfc0
          case takeYfc0 => (intro w hSw; go_simp; try (with_reducible rfl))
          simp only [Act.put, List.setIfInBounds_toArray, List.set_cons_zero, List.set_cons_succ, List.getElem_toArray, List.getElem_cons_zero]
          refine wpAnyH_take (i := 1) (v := ?_) rfl (by kernel_rfl) (by kernel_rfl) (by kernel_rfl) (fun _ _ _ h => h) (Or.inl ⟨by rfl, ?takeYfc1⟩) trivial ?takeRfc1
          case takeYfc1 => (intro w hSw; go_simp; try (with_reducible rfl))
          simp only [Act.put, List.setIfInBounds_toArray, List.set_cons_zero, List.set_cons_succ, List.getElem_toArray, List.getElem_cons_zero, List.getElem_cons_succ]
          refine wpAnyH_take (i := 2) (v := ?_) rfl (by kernel_rfl) (by kernel_rfl) (by kernel_rfl) (fun _ _ _ h => h) (Or.inl ⟨by rfl, ?takeYfc2⟩) trivial ?takeRfc2
          case takeYfc2 => (intro w hSw; go_simp; try (with_reducible rfl))
          simp only [Act.put, List.setIfInBounds_toArray, List.set_cons_zero, List.set_cons_succ, List.getElem_toArray, List.getElem_cons_zero, List.getElem_cons_succ]
          refine wpAnyH_take (i := 3) (v := ?_) rfl (by kernel_rfl) (by kernel_rfl) (by kernel_rfl) (fun _ _ _ h => h) (Or.inl ⟨by rfl, ?takeYfc3⟩) trivial ?takeRfc3
          case takeYfc3 => (intro w hSw; go_simp; try (with_reducible rfl))
          simp only [Act.put, List.setIfInBounds_toArray, List.set_cons_zero, List.set_cons_succ, List.getElem_toArray, List.getElem_cons_zero, List.getElem_cons_succ]
          refine wpAnyH_take (i := 6) (v := ?_) rfl (by kernel_rfl) (by kernel_rfl) (by kernel_rfl) (fun _ _ _ h => h) (Or.inl ⟨by rfl, ?takeYfc6⟩) trivial ?takeRfc6
          case takeYfc6 => (intro w hSw; go_simp; try (with_reducible rfl))
          simp only [Act.put, List.setIfInBounds_toArray, List.set_cons_zero, List.set_cons_succ, List.getElem_toArray, List.getElem_cons_zero, List.getElem_cons_succ]
          refine wpAnyH_take (i := 7) (v := ?_) rfl (by kernel_rfl) (by kernel_rfl) (by kernel_rfl) (fun _ _ _ h => h) (Or.inl ⟨by rfl, ?takeYfc7⟩) trivial ?takeRfc7
          case takeYfc7 => (intro w hSw; go_simp; try (with_reducible rfl))
          simp only [Act.put, List.setIfInBounds_toArray, List.set_cons_zero, List.set_cons_succ, List.getElem_toArray, List.getElem_cons_zero, List.getElem_cons_succ]
          refine wpAnyH_take (i := 8) (v := ?_) rfl (by kernel_rfl) (by kernel_rfl) (by kernel_rfl) (fun _ _ _ h => h) (Or.inl ⟨by rfl, ?takeYfc8⟩) trivial ?takeRfc8
          case takeYfc8 => (intro w hSw; go_simp; try (with_reducible rfl))
          simp only [Act.put, List.setIfInBounds_toArray, List.set_cons_zero, List.set_cons_succ, List.getElem_toArray, List.getElem_cons_zero, List.getElem_cons_succ]
          refine wpAnyH_take (i := 4) (v := ?_) rfl (by kernel_rfl) (by kernel_rfl) (by kernel_rfl) (fun _ _ _ h => h) (Or.inl ⟨by rfl, ?takeYfc4⟩) trivial ?takeRfc4
          case takeYfc4 => (intro w hSw; go_simp; try (with_reducible rfl))
          simp only [Act.put, List.setIfInBounds_toArray, List.set_cons_zero, List.set_cons_succ, List.getElem_toArray, List.getElem_cons_zero, List.getElem_cons_succ]
          refine wpAnyH_take (i := 9) (v := ?_) rfl (by kernel_rfl) (by kernel_rfl) (by kernel_rfl) (fun _ _ _ h => h) (Or.inl ⟨by rfl, ?takeYfc9⟩) trivial ?takeRfc9
          case takeYfc9 => (intro w hSw; go_simp; try (with_reducible rfl))
          simp only [Act.put, List.setIfInBounds_toArray, List.set_cons_zero, List.set_cons_succ, List.getElem_toArray, List.getElem_cons_zero, List.getElem_cons_succ]
          refine wpAnyH_take (i := 10) (v := ?_) rfl (by kernel_rfl) (by kernel_rfl) (by kernel_rfl) (fun _ _ _ h => h) (Or.inl ⟨by rfl, ?takeYfc10⟩) trivial ?takeRfc10
          case takeYfc10 => (intro w hSw; go_simp; try (with_reducible rfl))
          simp only [Act.put, List.setIfInBounds_toArray, List.set_cons_zero, List.set_cons_succ, List.getElem_toArray, List.getElem_cons_zero, List.getElem_cons_succ]
          refine wpAnyH_ready (rs := [5]) (by kernel_rfl) (by simp) ?_
          refine AllReadyH.cons rfl (fun K hK => ?_) AllReadyH.nil
          go_simp
          refine hK.out _ _ trivial (fun _ => ?_)
          clear hK K
          try simp only [Act.put, List.setIfInBounds_toArray, List.set_cons_zero, List.set_cons_succ, List.getElem_toArray, List.getElem_cons_zero, List.getElem_cons_succ]
          refine wpAnyH_take (i := 11) (v := ?_) rfl (by kernel_rfl) (by kernel_rfl) (by kernel_rfl) (fun _ _ _ h => h) (Or.inl ⟨by rfl, ?takeYfc11⟩) trivial ?takeRfc11
          case takeYfc11 => (intro w hSw; go_simp; rw [if_neg (by omega)])
          simp only [Act.put, List.setIfInBounds_toArray, List.set_cons_zero, List.set_cons_succ, List.getElem_toArray, List.getElem_cons_zero, List.getElem_cons_succ]
          refine wpAnyH_take (i := 12) (v := ?_) rfl (by kernel_rfl) (by kernel_rfl) (by kernel_rfl) (fun _ _ _ h => h) (Or.inl ⟨by rfl, ?takeYfc12⟩) trivial ?takeRfc12
          case takeYfc12 => (intro w hSw; go_simp; try (with_reducible rfl))
          simp only [Act.put, List.setIfInBounds_toArray, List.set_cons_zero, List.set_cons_succ, List.getElem_toArray, List.getElem_cons_zero, List.getElem_cons_succ]
          refine wpAnyH_ready (rs := [13]) (by kernel_rfl) (by simp) ?_
          refine AllReadyH.cons rfl (fun K hK => ?_) AllReadyH.nil
          go_simp
          refine hK.out _ _ trivial (fun _ => ?_)
          clear hK K
          try simp only [Act.put, List.setIfInBounds_toArray, List.set_cons_zero, List.set_cons_succ, List.getElem_toArray, List.getElem_cons_zero, List.getElem_cons_succ]
          refine wpAnyH_done (by kernel_rfl) ?_ _
          have ST := World.ownsRow.stored OWN.out m (.string (A ++ s.extract k k1))
          have BL := NX.out.setCell (p := ⟨g, m, none⟩) hg.out (.string (A ++ s.extract k k1))
          go_wp2_with fail
          go_roundw
          case rel =>
            refine ⟨ps, acc ++ [s[k]], k1, g, cap, n, by omega, rfl, hn, by omega, by rw [List.length_append]; show _ + 1 ≤ _; omega, rfl, hg, ?_, HB, BL⟩
            have e9 : (strs (ps ++ [acc])).set m (.string (A ++ s.extract k k1)) = strs (ps ++ [acc ++ [s[k]]]) := by
              rw [HX.out, HM.out, strs_snoc, strs_snoc, List.set_append_right _ _ (by rw [strs_len]; exact Nat.le_refl _), strs_len, Nat.sub_self]
              rfl
            rw [← e9]
            exact ST.1
          case measure => simp [intOf]; omega
    · obtain rfl : k = s.size := by omega
      have HF : ps ++ [acc] = R := by
        have := HA.out
        rw [List.drop_eq_nil_of_le (show s.data.toList.length ≤ s.size from Nat.le_refl _)] at this
        exact this
      have hnl : n = R.length := by rw [← HF, List.length_append]; exact hn.out
      rw [HF] at hown
      clear hn HA HR HF
      subst hnl
      go_wp2_with fail
      go_ret
      exact ⟨g, cap, rfl, hown, hnx⟩

set_option maxRecDepth 100000 in
theorem l1Figure_any (b : UInt8) (w : World) :
    Calls Tryd.prog 23 #[.int .u8 (b.toNat : Int)] w fun e w' => e = .returned (.bool (figB b)) ∧ w' = w := by
  unfold figB
  by_cases h1 : 48 ≤ b.toNat
  · by_cases h2 : b.toNat ≤ 57
    · rw [decide_eq_true ⟨h1, h2⟩]
      have j1 : (48 : Int) ≤ (b.toNat : Int) := by omega
      have j2 : (b.toNat : Int) ≤ 57 := by omega
      go_enter Tryd.func23, Tryd.ntmps23
      go_wp2_with fail
      go_ret
      exact ⟨rfl, rfl⟩
    · rw [decide_eq_false (fun h => h2 h.2)]
      have j1 : (48 : Int) ≤ (b.toNat : Int) := by omega
      have j2 : ¬ (b.toNat : Int) ≤ 57 := by omega
      go_enter Tryd.func23, Tryd.ntmps23
      go_wp2_with fail
      go_ret
      exact ⟨rfl, rfl⟩
  · rw [decide_eq_false (fun h => h1 h.1)]
    have j1 : ¬ (48 : Int) ≤ (b.toNat : Int) := by omega
    go_enter Tryd.func23, Tryd.ntmps23
    go_wp2_with fail
    go_ret
    exact ⟨rfl, rfl⟩

theorem numPre_lt (l : List UInt8) : ∀ acc k : Nat, acc < 10 ^ k → l.all figB = true → numPre acc l < 10 ^ (k + l.length) := by
  induction l with
  | nil => intro acc k h _; exact h
  | cons x l ih =>
    intro acc k h hf
    rw [List.all_cons, Bool.and_eq_true] at hf
    have hx : 48 ≤ x.toNat ∧ x.toNat ≤ 57 := of_decide_eq_true hf.1
    have := ih (acc * 10 + (x.toNat - 48)) (k + 1) (by rw [Nat.pow_succ]; omega) hf.2
    rw [List.length_cons, show k + (l.length + 1) = k + 1 + l.length by omega]
    exact this
theorem numT_bad (l : List UInt8) (h : l.all figB = false ∨ 9 < l.length) : numT l = -1 := by
  unfold numT
  rw [if_neg]
  rintro ⟨h1, h2, h3, h4⟩
  rcases h with h | h
  · rw [h1] at h; cases h
  · omega

set_option maxRecDepth 100000 in
set_option maxHeartbeats 2000000 in
theorem l1Num_any (s : ByteArray) (hs : s.size ≤ 1048576) (w : World) :
    Calls Tryd.prog 12 #[.string s] w fun e w' => e = .returned (.int .i64 (numT s.data.toList)) ∧ w' = w := by
  have hl : s.data.toList.length = s.size := rfl
  obtain ⟨V, hV⟩ : ∃ V, numT s.data.toList = V := ⟨_, rfl⟩
  have HV : Hid (numT s.data.toList = V) := hV
  rw [hV]
  clear hV
  go_enter Tryd.func12, Tryd.ntmps12
  go_wp2_with fail
  go_loop [3, 4] (fun n i => ∃ k a : Nat, k ≤ s.size ∧ k ≤ 9 ∧ i = .int .i64 k ∧ n = .int .i64 a ∧ a < 1000000000 ∧ Hid (numPre 0 (s.data.toList.take k) = a ∧ (s.data.toList.take k).all figB = true)) (fun _ i => s.size - (intOf i).toNat)
  case atStart => exact ⟨0, 0, Nat.zero_le _, by omega, rfl, rfl, by omega, ⟨rfl, rfl⟩⟩
  case round =>
    obtain ⟨k, a, hk, hk9, rfl, rfl, ha, HP⟩ := hrel
    by_cases hlt : k < s.size
    · have hd := drop_cons s k hlt
      cases hf : figB s[k]
      · have hV : V = -1 := by
          rw [← HV.out]
          apply numT_bad
          left
          rw [List.all_eq_false]
          exact ⟨s[k], by show s.data.toList[k]'(by omega) ∈ _; exact List.getElem_mem _, by rw [hf]; decide⟩
        subst hV
        clear HP hd hl HV
        go_wp2_with (go_at_call 23; refine (l1Figure_any _ _).mono ?_; rw [hf]; rintro e w' ⟨rfl, rfl⟩)
        go_ret
        exact ⟨rfl, rfl⟩
      · by_cases h9 : k < 9
        · have h9I : ¬ (9 : Int) ≤ (k : Int) := by omega
          have hx : 48 ≤ s[k].toNat ∧ s[k].toNat ≤ 57 := of_decide_eq_true hf
          have e1 : IntKind.i64.wrap ((k : Int) + 1) = ((k + 1 : Nat) : Int) := by rw [IntKind.wrap_i64]; omega
          have htk : s.data.toList.take (k + 1) = s.data.toList.take k ++ [s[k]] := by
            rw [List.take_succ_eq_append_getElem (by omega)]; rfl
          have HP2 : Hid (numPre 0 (s.data.toList.take (k + 1)) = a * 10 + (s[k].toNat - 48) ∧ (s.data.toList.take (k + 1)).all figB = true) := by
            show _ ∧ _
            rw [htk, numPre_append, HP.out.1, List.all_append, HP.out.2]
            exact ⟨rfl, by simp [hf]⟩
          have hb : a * 10 + (s[k].toNat - 48) < 1000000000 := by
            have h0 := numPre_lt (s.data.toList.take (k + 1)) 0 0 (by omega) HP2.out.2
            rw [HP2.out.1, List.length_take, Nat.min_eq_left (by omega)] at h0
            have : (10 : Nat) ^ (0 + (k + 1)) ≤ 10 ^ 9 := Nat.pow_le_pow_right (by omega) (by omega)
            omega
          have e2 : IntKind.u8.wrap ((s[k].toNat : Int) - 48) = (s[k].toNat : Int) - 48 := by show ((s[k].toNat : Int) - 48) % 256 = _; omega
          have e3 : IntKind.i64.wrap ((a : Int) * 10) = (a : Int) * 10 := by rw [IntKind.wrap_i64]; omega
          have e4 : IntKind.i64.wrap ((a : Int) * 10 + ((s[k].toNat : Int) - 48)) = ((a * 10 + (s[k].toNat - 48) : Nat) : Int) := by rw [IntKind.wrap_i64]; omega
          have e5 : IntKind.i64.wrap ((s[k].toNat : Int) - 48) = (s[k].toNat : Int) - 48 := by rw [IntKind.wrap_i64]; omega
          clear HP hd hl HV
          go_wp2_with (go_at_call 23; refine (l1Figure_any _ _).mono ?_; rw [hf]; rintro e w' ⟨rfl, rfl⟩)
          exact ⟨⟨k + 1, _, by omega, by omega, rfl, rfl, hb, HP2⟩, by simp [intOf]; omega⟩
        · have h9I : (9 : Int) ≤ (k : Int) := by omega
          have hV : V = -1 := by
            rw [← HV.out]
            exact numT_bad _ (.inr (by omega))
          subst hV
          clear HP hd hl HV
          go_wp2_with (go_at_call 23; refine (l1Figure_any _ _).mono ?_; rw [hf]; rintro e w' ⟨rfl, rfl⟩)
          go_ret
          exact ⟨rfl, rfl⟩
    · obtain rfl : k = s.size := by omega
      have ht : s.data.toList.take s.size = s.data.toList := List.take_of_length_le (by omega)
      have hP := HP.out
      rw [ht] at hP
      by_cases h0 : s.size = 0
      · have hV : V = -1 := by
          rw [← HV.out]
          unfold numT
          rw [if_neg]
          rintro ⟨-, h2, -⟩
          omega
        subst hV
        have g0 : ((s.size : Int) == 0) = true := beq_iff_eq.2 (by omega)
        clear HP hl HV ht hP
        go_wp2_with fail
        go_ret
        exact ⟨rfl, rfl⟩
      have g0 : ((s.size : Int) == 0) = false := beq_eq_false_iff_ne.2 (by omega)
      by_cases h1 : s.size = 1
      · have hV : V = (a : Int) := by
          rw [← HV.out]
          unfold numT
          rw [if_pos ⟨hP.2, by omega, by omega, .inl (by omega)⟩, hP.1]
        subst hV
        have g1 : ¬ (1 : Int) < (s.size : Int) := by omega
        clear HP hl HV ht hP
        go_wp2_with fail
        go_ret
        exact ⟨rfl, rfl⟩
      have g1 : (1 : Int) < (s.size : Int) := by omega
      have hhd : s.data.toList.head? = some (s[0]'(by omega)) := by
        have := drop_cons s 0 (by omega)
        rw [List.drop_zero] at this
        rw [this]
        rfl
      by_cases h2 : s[0]'(by omega) = 48
      · have hV : V = -1 := by
          rw [← HV.out]
          unfold numT
          rw [if_neg]
          rintro ⟨-, -, -, h4⟩
          rcases h4 with h4 | h4
          · omega
          · rw [hhd, h2] at h4; exact h4 rfl
        subst hV
        have g2 : (((s[0]'(by omega)).toNat : Int) == 48) = true := by rw [h2]; rfl
        have z0 : (0 : Int) < (s.size : Int) := by omega
        clear HP HV ht hP hhd h2
        go_wp2_with fail
        go_ret
        exact ⟨rfl, rfl⟩
      · have hV : V = (a : Int) := by
          rw [← HV.out]
          unfold numT
          rw [if_pos ⟨hP.2, by omega, by omega, .inr (by rw [hhd]; intro e; exact h2 (Option.some.inj e))⟩, hP.1]
        subst hV
        have g2 : (((s[0]'(by omega)).toNat : Int) == 48) = false := beq_eq_false_iff_ne.2 (fun e => h2 (UInt8.toNat_inj.1 (by have : (48 : UInt8).toNat = 48 := rfl; omega)))
        have z0 : (0 : Int) < (s.size : Int) := by omega
        clear HP HV ht hP hhd h2
        go_wp2_with fail
        go_ret
        exact ⟨rfl, rfl⟩
end Go.Proofs.YtjknjlaabppooaaDoor.Hub
