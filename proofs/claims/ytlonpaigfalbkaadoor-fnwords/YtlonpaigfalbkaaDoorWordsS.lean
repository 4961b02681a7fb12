/-
  The words of a text, by the model.
-/
import Derived.Test.YtlonpaigfalbkaaDoorWordS
import Derived.Test.YtlonpaigfalbkaaDoorJidCut
namespace Go.Proofs.YtlonpaigfalbkaaDoor.Hub
open Go.RowKit
set_option linter.unusedVariables false
set_option linter.unusedSimpArgs false

def gt (L : List ByteArray) (j : Nat) : ByteArray := L.getD j ⟨#[]⟩
theorem strVs_gt (L : List ByteArray) (x : ByteArray) : strVs (gt (L ++ [x])) (L ++ [x]).length = strVs (gt L) L.length ++ [.string x] := by
  apply List.ext_getElem?
  intro j
  unfold strVs gt
  by_cases h : j < L.length
  · rw [List.getElem?_append_left (by simpa using h)]
    simp [h, Nat.lt_succ_of_lt h, List.getElem?_append_left h]
  · by_cases h2 : j = L.length
    · subst h2; simp
    · rw [List.getElem?_eq_none (by simp; omega), List.getElem?_eq_none (by simp; omega)]
def addW (L : List ByteArray) (x : ByteArray) : List ByteArray := if x = ⟨#[]⟩ then L else if findW (gt L) x L.length 0 < 0 then L ++ [x] else L
def letAt (s : ByteArray) (k : Nat) : Bool := match s.data[k]? with | some b => letB b | none => false
def runEnd (s : ByteArray) : Nat → Nat → Nat
  | 0, k => k
  | f + 1, k => if letAt s k then runEnd s f (k + 1) else k
theorem runEnd_le (s : ByteArray) : ∀ f k, k ≤ runEnd s f k ∧ runEnd s f k ≤ k + f
  | 0, k => by unfold runEnd; omega
  | f + 1, k => by
    unfold runEnd
    have := runEnd_le s f (k + 1)
    split <;> omega
theorem letAt_in (s : ByteArray) (k : Nat) (h : k < s.size) : letAt s k = letB s[k] := by
  have hd : s.data[k]? = some s[k] := by rw [Array.getElem?_eq_getElem (by exact h)]; rfl
  unfold letAt
  rw [hd]
theorem run_go (s : ByteArray) (k : Nat) (h : k < s.size) (hb : letB s[k] = true) : runEnd s (s.size - k) k = runEnd s (s.size - (k + 1)) (k + 1) := by
  obtain ⟨f, hf⟩ : ∃ f, s.size - k = f + 1 := ⟨s.size - k - 1, by omega⟩
  rw [hf, runEnd, letAt_in s k h, if_pos hb]
  congr 1
  omega
theorem run_stop (s : ByteArray) (k : Nat) (h : k < s.size) (hb : letB s[k] = false) : runEnd s (s.size - k) k = k := by
  obtain ⟨f, hf⟩ : ∃ f, s.size - k = f + 1 := ⟨s.size - k - 1, by omega⟩
  rw [hf, runEnd, letAt_in s k h, if_neg (by rw [hb]; decide)]
theorem run_end (s : ByteArray) : runEnd s (s.size - s.size) s.size = s.size := by rw [Nat.sub_self]; rfl
def wordsF (s : ByteArray) : Nat → Nat → List ByteArray → List ByteArray
  | 0, _, L => L
  | f + 1, k, L => if k < s.size then wordsF s f (if runEnd s (s.size - k) k = k then k + 1 else runEnd s (s.size - k) k) (addW L (foldT (s.extract k (runEnd s (s.size - k) k)))) else L
def wordsT (s : ByteArray) : List ByteArray := wordsF s s.size 0 []
theorem noE {a : ByteArray} (h : ¬ a = ⟨#[]⟩) : (a.toList == []) = false := by
  rw [beq_eq_false_iff_ne]
  intro e
  apply h
  rw [ByteArray.toList_eq] at e
  cases a with | mk d => congr; exact Array.toList_eq_nil_iff.1 e

set_option maxRecDepth 100000 in
set_option maxHeartbeats 40000000 in
theorem l14Words_any (s : ByteArray) (hs : s.size ≤ 1048576) (w : World) :
    Calls Tryd.prog 14 #[.string s] w fun e w' => ∃ v, e = .returned v ∧ Own w' w.heap.size v (wordsT s).length (gt (wordsT s)) ∧ Below w.heap.size w w' := by
  obtain ⟨R, hR⟩ : ∃ R, wordsT s = R := ⟨_, rfl⟩
  have HR : Hid (wordsF s s.size 0 [] = R) := hR
  rw [hR]
  clear hR
  obtain ⟨i0, hi, hz0, hz1, hz2⟩ := info_parts info_str
  go_enter Tryd.func14, Tryd.ntmps14
  go_wp2_with fail
  go_loopw [3, 4] (fun o i wr => ∃ (k f cap g : Nat) (L : List ByteArray), k ≤ s.size ∧ i = .int .i64 k ∧ s.size - k ≤ f ∧ L.length ≤ k ∧ o = .slice (some ⟨g, 0, none⟩) L.length cap ∧ Hid (w.heap.size ≤ g) ∧ Hid (Own wr w.heap.size o L.length (gt L)) ∧ Hid (wordsF s f k L = R) ∧ Below w.heap.size w wr) (fun _ i _ => s.size - (intOf i).toNat)
  case atStart =>
    exact ⟨0, s.size, 0, w.heap.size, [], by omega, rfl, by omega, Nat.le_refl _, rfl, Nat.le_refl w.heap.size, World.ownsRow_made w #[] 0 (Nat.le_refl _) (Nat.zero_le _) rfl, HR.out, (Below.refl _ w).alloc (Nat.le_refl _) _⟩
  case round =>
    obtain ⟨k, f, cap, g, L, hk, rfl, hf, hL, rfl, hg, hown, HA, hnx⟩ := hrel
    clear HR
    by_cases hlt : k < s.size
    · obtain ⟨f1, rfl⟩ : ∃ f1, f = f1 + 1 := ⟨f - 1, by omega⟩
      have hr := runEnd_le s (s.size - k) k
      obtain ⟨E, hE⟩ : ∃ E, runEnd s (s.size - k) k = E := ⟨_, rfl⟩
      obtain ⟨X, hX⟩ : ∃ X, foldT (s.extract k E) = X := ⟨_, rfl⟩
      have hXs : X.size ≤ 1048576 := by rw [← hX, foldT_size, ByteArray.size_extract]; omega
      have cF := fun W => l4Fold_any (s.extract k E) W (by rw [ByteArray.size_extract]; omega)
      rw [hX] at cF
      have HB : Hid (wordsF s f1 (if E = k then k + 1 else E) (addW L X) = R) := by
        show _ = _
        rw [← HA.out, wordsF, if_pos hlt, hE, hX]
      have HE : Hid (runEnd s (s.size - k) k = E) := hE
      rw [hE] at hr
      have CF : Hid (∀ W : World, Calls Tryd.prog 22 #[.string (s.extract k E)] W fun e w' => e = .returned (.string X) ∧ Below W.heap.size W w') := cF
      clear hE HA hX cF
      obtain ⟨hr1, hr2⟩ := hr
      have hr3 : E ≤ s.size := by omega
      clear hr2
      go_wp2_with fail
      go_loopw [4] (fun i wi => ∃ j : Nat, k ≤ j ∧ j ≤ s.size ∧ i = .int .i64 j ∧ Hid (runEnd s (s.size - j) j = E) ∧ wi = wr) (fun i _ => s.size - (intOf i).toNat)
      case atStart => exact ⟨k, Nat.le_refl _, hk, rfl, HE.out, rfl⟩
      case round =>
        obtain ⟨j, hkj, hj, rfl, HJ, hwi⟩ := hrel
        subst hwi
        clear HE
        by_cases hltj : j < s.size
        · have cW := fun W => l14Word_any s[j] W
          cases hb : letB s[j]
          · have hEj : j = E := by rw [← HJ.out]; exact (run_stop s j hltj hb).symm
            rw [hb] at cW
            clear HJ hb
            subst hEj
            go_wp2_with (go_at_call 21; go_fit (cW _); rintro e w9 ⟨rfl, rfl⟩)
            refine (CF.out _).mono ?_
            rintro e w2 ⟨rfl, b2⟩
            have own2 : Hid (Own w2 w.heap.size (.slice (some ⟨g, 0, none⟩) L.length cap) L.length (gt L)) := hown.out.below b2
            have hn2 := hnx.trans (b2.mono hnx.size)
            clear hown b2
            by_cases hX0 : X = ⟨#[]⟩
            · have HL9 : Hid (addW L X = L) := by show _ = _; unfold addW; rw [if_pos hX0]
              subst hX0
              by_cases hEk : j = k
              · have HC : Hid (wordsF s f1 (k + 1) (L) = R) := by show _ = _; rw [← HB.out, if_pos hEk, HL9.out]
                have hEI : (j : Int) = (k : Int) := by omega
                have hEB : ((j : Int) == (k : Int)) = true := by simp; omega
                go_wp2_with fail
                go_roundw
                case rel => exact ⟨k + 1, f1, cap, g, L, by omega, by go_num, by omega, by first | omega | (simp only [List.length_append]; show _ + 1 ≤ _; omega), by first | rfl | (simp only [List.length_append]; rfl), hg, own2, HC, hn2⟩
                case measure => simp [intOf]; omega
              · have HC : Hid (wordsF s f1 (j) (L) = R) := by show _ = _; rw [← HB.out, if_neg hEk, HL9.out]
                have hEI : ¬ (j : Int) = (k : Int) := by omega
                have hEB : ((j : Int) == (k : Int)) = false := by simp; omega
                go_wp2_with fail
                go_roundw
                case rel => exact ⟨j, f1, cap, g, L, by omega, by go_num, by omega, by first | omega | (simp only [List.length_append]; show _ + 1 ≤ _; omega), by first | rfl | (simp only [List.length_append]; rfl), hg, own2, HC, hn2⟩
                case measure => simp [intOf]; omega
            · have hne := noE hX0
              have cL := l5FindW_any (.slice (some ⟨g, 0, none⟩) L.length cap) L.length (gt L) X w2 own2.out.strAt (by omega)
              obtain ⟨q, hq⟩ : ∃ q, findW (gt L) X L.length 0 = q := ⟨_, rfl⟩
              have HQ : Hid (findW (gt L) X L.length 0 = q) := hq
              rw [hq] at cL
              clear hq
              by_cases hq0 : q < 0
              · have HL9 : Hid (addW L X = L ++ [X]) := by show _ = _; unfold addW; rw [if_neg hX0, HQ.out, if_pos hq0]
                have own3 := own2.out
                unfold Own at own3
                by_cases hEk : j = k
                · have HC : Hid (wordsF s f1 (k + 1) ((L ++ [X])) = R) := by show _ = _; rw [← HB.out, if_pos hEk, HL9.out]
                  have hEI : (j : Int) = (k : Int) := by omega
                  have hEB : ((j : Int) == (k : Int)) = true := by simp; omega
                  go_wp2_with first | (go_at_call 23; go_fit cL; rintro e w3 ⟨rfl, rfl⟩) | (at_builtin; refine wpList_append_own _ rfl _ _ 24 rfl w.heap.size 9 i0 (.string ⟨#[]⟩) 1 16 Tryd.underlying24 hi hz0 hz1 hz2 rfl (by decide) _ _ _ rfl (own3.alloc _) ⟨w3.heap.size, 0, none⟩ 1 1 [.string X] rfl rfl (cell_one _ _) (one_cell _) (le_maxLen _ (by omega)) (by omega) (by have := hn2.size; simp; omega) ?_; intro v' w4 hown' hgrow hnil)
                  obtain ⟨g', cap', rfl⟩ := ownsRow_succ hown'
                  have hb1 := (hn2.alloc hn2.size _).grown hgrow (by have := hn2.size; simp; omega) (fun j e => by cases e; exact hg.out)
                  have hg' : Hid (w.heap.size ≤ g') := by
                    rcases hown'.2 with ⟨e, _⟩ | ⟨g2, c2, cur, e, h2, _⟩
                    · cases e
                    · cases e; exact h2
                  have own5 : Hid (Own w4 w.heap.size (.slice (some ⟨g', 0, none⟩) (L.length + 1) cap') (L ++ [X]).length (gt (L ++ [X]))) := by
                    have e : (L ++ [X]).length = L.length + 1 := by simp
                    show Own _ _ _ _ _
                    unfold Own
                    rw [strVs_gt, e]
                    exact hown'
                  clear hgrow hown' own3 own2
                  go_roundw
                  case rel => exact ⟨k + 1, f1, cap', g', (L ++ [X]), by omega, by go_num, by omega, by first | omega | (simp only [List.length_append]; show _ + 1 ≤ _; omega), by first | rfl | (simp only [List.length_append]; rfl), hg', own5, HC, hb1⟩
                  case measure => simp [intOf]; omega
                · have HC : Hid (wordsF s f1 (j) ((L ++ [X])) = R) := by show _ = _; rw [← HB.out, if_neg hEk, HL9.out]
                  have hEI : ¬ (j : Int) = (k : Int) := by omega
                  have hEB : ((j : Int) == (k : Int)) = false := by simp; omega
                  go_wp2_with first | (go_at_call 23; go_fit cL; rintro e w3 ⟨rfl, rfl⟩) | (at_builtin; refine wpList_append_own _ rfl _ _ 24 rfl w.heap.size 9 i0 (.string ⟨#[]⟩) 1 16 Tryd.underlying24 hi hz0 hz1 hz2 rfl (by decide) _ _ _ rfl (own3.alloc _) ⟨w3.heap.size, 0, none⟩ 1 1 [.string X] rfl rfl (cell_one _ _) (one_cell _) (le_maxLen _ (by omega)) (by omega) (by have := hn2.size; simp; omega) ?_; intro v' w4 hown' hgrow hnil)
                  obtain ⟨g', cap', rfl⟩ := ownsRow_succ hown'
                  have hb1 := (hn2.alloc hn2.size _).grown hgrow (by have := hn2.size; simp; omega) (fun j e => by cases e; exact hg.out)
                  have hg' : Hid (w.heap.size ≤ g') := by
                    rcases hown'.2 with ⟨e, _⟩ | ⟨g2, c2, cur, e, h2, _⟩
                    · cases e
                    · cases e; exact h2
                  have own5 : Hid (Own w4 w.heap.size (.slice (some ⟨g', 0, none⟩) (L.length + 1) cap') (L ++ [X]).length (gt (L ++ [X]))) := by
                    have e : (L ++ [X]).length = L.length + 1 := by simp
                    show Own _ _ _ _ _
                    unfold Own
                    rw [strVs_gt, e]
                    exact hown'
                  clear hgrow hown' own3 own2
                  go_roundw
                  case rel => exact ⟨j, f1, cap', g', (L ++ [X]), by omega, by go_num, by omega, by first | omega | (simp only [List.length_append]; show _ + 1 ≤ _; omega), by first | rfl | (simp only [List.length_append]; rfl), hg', own5, HC, hb1⟩
                  case measure => simp [intOf]; omega
              · have HL9 : Hid (addW L X = L) := by show _ = _; unfold addW; rw [if_neg hX0, HQ.out, if_neg hq0]
                by_cases hEk : j = k
                · have HC : Hid (wordsF s f1 (k + 1) (L) = R) := by show _ = _; rw [← HB.out, if_pos hEk, HL9.out]
                  have hEI : (j : Int) = (k : Int) := by omega
                  have hEB : ((j : Int) == (k : Int)) = true := by simp; omega
                  go_wp2_with (go_at_call 23; go_fit cL; rintro e w3 ⟨rfl, rfl⟩)
                  go_roundw
                  case rel => exact ⟨k + 1, f1, cap, g, L, by omega, by go_num, by omega, by first | omega | (simp only [List.length_append]; show _ + 1 ≤ _; omega), by first | rfl | (simp only [List.length_append]; rfl), hg, own2, HC, hn2⟩
                  case measure => simp [intOf]; omega
                · have HC : Hid (wordsF s f1 (j) (L) = R) := by show _ = _; rw [← HB.out, if_neg hEk, HL9.out]
                  have hEI : ¬ (j : Int) = (k : Int) := by omega
                  have hEB : ((j : Int) == (k : Int)) = false := by simp; omega
                  go_wp2_with (go_at_call 23; go_fit cL; rintro e w3 ⟨rfl, rfl⟩)
                  go_roundw
                  case rel => exact ⟨j, f1, cap, g, L, by omega, by go_num, by omega, by first | omega | (simp only [List.length_append]; show _ + 1 ≤ _; omega), by first | rfl | (simp only [List.length_append]; rfl), hg, own2, HC, hn2⟩
                  case measure => simp [intOf]; omega
          · have HJ2 : Hid (runEnd s (s.size - (j + 1)) (j + 1) = E) := (run_go s j hltj hb).symm.trans HJ.out
            rw [hb] at cW
            clear HJ hb
            go_wp2_with (go_at_call 21; go_fit (cW _); rintro e w9 ⟨rfl, rfl⟩)
            go_roundw
            case rel => exact ⟨j + 1, by omega, by omega, by go_num, HJ2, by first | rfl | trivial⟩
            case measure => simp [intOf]; omega
        · obtain rfl : j = s.size := by omega
          have hEj : s.size = E := by rw [← HJ.out, run_end]
          clear HJ hltj
          subst hEj
          go_wp2_with fail
          refine (CF.out _).mono ?_
          rintro e w2 ⟨rfl, b2⟩
          have own2 : Hid (Own w2 w.heap.size (.slice (some ⟨g, 0, none⟩) L.length cap) L.length (gt L)) := hown.out.below b2
          have hn2 := hnx.trans (b2.mono hnx.size)
          clear hown b2
          by_cases hX0 : X = ⟨#[]⟩
          · have HL9 : Hid (addW L X = L) := by show _ = _; unfold addW; rw [if_pos hX0]
            subst hX0
            by_cases hEk : s.size = k
            · exact absurd hEk (by omega)
            · have HC : Hid (wordsF s f1 (s.size) (L) = R) := by show _ = _; rw [← HB.out, if_neg hEk, HL9.out]
              have hEI : ¬ (s.size : Int) = (k : Int) := by omega
              have hEB : ((s.size : Int) == (k : Int)) = false := by simp; omega
              go_wp2_with fail
              go_roundw
              case rel => exact ⟨s.size, f1, cap, g, L, by omega, by go_num, by omega, by first | omega | (simp only [List.length_append]; show _ + 1 ≤ _; omega), by first | rfl | (simp only [List.length_append]; rfl), hg, own2, HC, hn2⟩
              case measure => simp [intOf]; omega
          · have hne := noE hX0
            have cL := l5FindW_any (.slice (some ⟨g, 0, none⟩) L.length cap) L.length (gt L) X w2 own2.out.strAt (by omega)
            obtain ⟨q, hq⟩ : ∃ q, findW (gt L) X L.length 0 = q := ⟨_, rfl⟩
            have HQ : Hid (findW (gt L) X L.length 0 = q) := hq
            rw [hq] at cL
            clear hq
            by_cases hq0 : q < 0
            · have HL9 : Hid (addW L X = L ++ [X]) := by show _ = _; unfold addW; rw [if_neg hX0, HQ.out, if_pos hq0]
              have own3 := own2.out
              unfold Own at own3
              by_cases hEk : s.size = k
              · exact absurd hEk (by omega)
              · have HC : Hid (wordsF s f1 (s.size) ((L ++ [X])) = R) := by show _ = _; rw [← HB.out, if_neg hEk, HL9.out]
                have hEI : ¬ (s.size : Int) = (k : Int) := by omega
                have hEB : ((s.size : Int) == (k : Int)) = false := by simp; omega
                go_wp2_with first | (go_at_call 23; go_fit cL; rintro e w3 ⟨rfl, rfl⟩) | (at_builtin; refine wpList_append_own _ rfl _ _ 24 rfl w.heap.size 9 i0 (.string ⟨#[]⟩) 1 16 Tryd.underlying24 hi hz0 hz1 hz2 rfl (by decide) _ _ _ rfl (own3.alloc _) ⟨w3.heap.size, 0, none⟩ 1 1 [.string X] rfl rfl (cell_one _ _) (one_cell _) (le_maxLen _ (by omega)) (by omega) (by have := hn2.size; simp; omega) ?_; intro v' w4 hown' hgrow hnil)
                obtain ⟨g', cap', rfl⟩ := ownsRow_succ hown'
                have hb1 := (hn2.alloc hn2.size _).grown hgrow (by have := hn2.size; simp; omega) (fun j e => by cases e; exact hg.out)
                have hg' : Hid (w.heap.size ≤ g') := by
                  rcases hown'.2 with ⟨e, _⟩ | ⟨g2, c2, cur, e, h2, _⟩
                  · cases e
                  · cases e; exact h2
                have own5 : Hid (Own w4 w.heap.size (.slice (some ⟨g', 0, none⟩) (L.length + 1) cap') (L ++ [X]).length (gt (L ++ [X]))) := by
                  have e : (L ++ [X]).length = L.length + 1 := by simp
                  show Own _ _ _ _ _
                  unfold Own
                  rw [strVs_gt, e]
                  exact hown'
                clear hgrow hown' own3 own2
                go_roundw
                case rel => exact ⟨s.size, f1, cap', g', (L ++ [X]), by omega, by go_num, by omega, by first | omega | (simp only [List.length_append]; show _ + 1 ≤ _; omega), by first | rfl | (simp only [List.length_append]; rfl), hg', own5, HC, hb1⟩
                case measure => simp [intOf]; omega
            · have HL9 : Hid (addW L X = L) := by show _ = _; unfold addW; rw [if_neg hX0, HQ.out, if_neg hq0]
              by_cases hEk : s.size = k
              · exact absurd hEk (by omega)
              · have HC : Hid (wordsF s f1 (s.size) (L) = R) := by show _ = _; rw [← HB.out, if_neg hEk, HL9.out]
                have hEI : ¬ (s.size : Int) = (k : Int) := by omega
                have hEB : ((s.size : Int) == (k : Int)) = false := by simp; omega
                go_wp2_with (go_at_call 23; go_fit cL; rintro e w3 ⟨rfl, rfl⟩)
                go_roundw
                case rel => exact ⟨s.size, f1, cap, g, L, by omega, by go_num, by omega, by first | omega | (simp only [List.length_append]; show _ + 1 ≤ _; omega), by first | rfl | (simp only [List.length_append]; rfl), hg, own2, HC, hn2⟩
                case measure => simp [intOf]; omega
    · obtain rfl : k = s.size := by omega
      have hRL : R = L := by
        rw [← HA.out]
        cases f with
        | zero => rfl
        | succ f => rw [wordsF, if_neg (by omega)]
      subst hRL
      go_wp2_with fail
      go_ret
      exact ⟨_, rfl, hown.out, hnx⟩
set_option maxRecDepth 100000 in
theorem specWordsOf_any (s : ByteArray) (hs : s.size ≤ 1048576) (w : World) :
    Calls Tryd.prog 7 #[.string s] w fun e w' => ∃ v, e = .returned v ∧ Own w' w.heap.size v (wordsT s).length (gt (wordsT s)) ∧ Below w.heap.size w w' := by
  have c := l14Words_any s hs w
  go_enter Tryd.func7, Tryd.ntmps7
  go_wp2_with fail
  refine c.mono ?_
  rintro e w1 ⟨v, rfl, h1, b1⟩
  go_wp2_with fail
  go_ret
  exact ⟨v, rfl, h1, b1⟩
end Go.Proofs.YtlonpaigfalbkaaDoor.Hub
