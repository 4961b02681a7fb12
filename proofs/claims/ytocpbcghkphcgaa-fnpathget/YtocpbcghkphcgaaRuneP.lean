/-
  strings.IndexRune and strings.IndexAny at the text '/[': whatever the text that is looked through.
-/
import Derived.Test.YtocpbcghkphcgaaLineBase
import Derived.Test.YtocpbcghkphcgaaShelfP
import Derived.Laws.RangeAny
import Derived.Laws.RangeString
import Derived.Laws.Runes
import Derived.Lib.IndexAny
import Derived.WalkMore
import Derived.Deep.RegionHeld3
import Derived.Lib.DecodeN
namespace Go.Proofs.Ytocpbcghkphcgaa.Hub
open Go.RowKit
set_option linter.unusedVariables false
set_option linter.unusedSimpArgs false

set_option maxRecDepth 100000 in
set_option maxHeartbeats 2000000 in
theorem validRune_any (c : Int) (w : World) :
    Calls Try.prog 68 #[.int .i32 c] w fun e w' => e = .returned (.bool (decide ((0 ≤ c ∧ c < 55296) ∨ (57343 < c ∧ c ≤ 1114111)))) ∧ w' = w := by
  rcases (by omega : c < 0 ∨ (0 ≤ c ∧ c < 55296) ∨ (55296 ≤ c ∧ c ≤ 57343) ∨ (57343 < c ∧ c ≤ 1114111) ∨ 1114111 < c) with h | h | h | h | h
  all_goals
    go_enter Try.func68, Try.ntmps68
    go_wp2
    go_ret
    exact ⟨by congr 2; first | (simp; done) | (simp; omega), rfl⟩
abbrev slashes : ByteArray := ⟨#[47, 91]⟩
set_option maxRecDepth 100000 in
set_option maxHeartbeats 2000000 in
theorem indexRune_big (c : Int) (h0 : 128 ≤ c) (w : World) :
    Calls Try.prog 59 #[.string slashes, .int .i32 c] w fun e w' => e = .returned (.int .i64 (-1)) ∧ Below w.heap.size w w' := by
  have hz : slashes.size = 2 := rfl
  have ha : Hid (∀ i (h : i < slashes.size), (slashes[i]'h).toNat < 128) := by
    intro i h
    match i, h with
    | 0, _ => show (47 : UInt8).toNat < 128; decide
    | 1, _ => show (91 : UInt8).toNat < 128; decide
  by_cases hr : c = 65533
  · subst hr
    obtain ⟨S, hS⟩ : ∃ S, slashes = S := ⟨_, rfl⟩
    rw [hS] at hz ha ⊢
    clear hS h0
    go_enter Try.func59, Try.ntmps59
    go_wp2_with fail
    go_loopg [5, 6] S.size (fun g _ _ wx => ∃ i : Nat, i + g = S.size ∧ wx = w.iter S i)
    case atStart => exact ⟨0, by omega, rfl⟩
    case round =>
      obtain ⟨i, hig, rfl⟩ := hrel
      cases gk with
      | zero =>
        obtain rfl : i = S.size := by omega
        have hnx := fun ty => run_next_end (P := Try.prog) w S S.size ty (by omega)
        clear hz ha
        go_wp2_with fail
        go_ret
        exact ⟨rfl, (Below.refl _ _).alloc (Nat.le_refl _) _⟩
      | succ g =>
        have hi : i < S.size := by omega
        have hb := ha.out i hi
        have hnx := fun ty => run_next_ascii (P := Try.prog) w S i ty hi hb
        have hne : (((S[i]'hi).toNat : Int) == 65533) = false := by simp; omega
        go_wp2_with fail
        go_roundg g
        case measure => omega
        case rel => exact ⟨i + 1, by omega, rfl⟩
  · have hb : (c == 65533) = false := by simpa using hr
    by_cases hv : (0 ≤ c ∧ c < 55296) ∨ (57343 < c ∧ c ≤ 1114111)
    · have cV := fun w => validRune_any c w
      rw [decide_eq_true hv] at cV
      have hval : Utf8.valid c = true := by unfold Utf8.valid; simp; omega
      obtain ⟨e1, e2, e3⟩ := encode_facts c hval h0
      obtain ⟨E, hE⟩ : ∃ E, Utf8.encode c = E := ⟨_, rfl⟩
      rw [hE] at e1 e2 e3
      have hcv : ∀ W : World, (convert 21 9 (.int .i32 c)).run Try.prog W = .ok (.string E) W := fun W => by
        rw [run_convert_int_string W _ _ _ _ (by kernel_rfl) Try.underlying9, hE]
      have u21 : (Try.prog.underlying 21).isSome = true := by kernel_rfl
      have u9 := Try.underlying9
      obtain ⟨S, hS⟩ : ∃ S, slashes = S := ⟨_, rfl⟩
      rw [hS] at hz ha ⊢
      clear hS
      by_cases h2 : E.size = 2
      · have hcI := fun w => Try.strings_IndexByte ByteArray.empty ((E[1]'(by omega)).toNat : Int) w
        have hw2 : IntKind.i64.wrap 2 = 2 := by rw [IntKind.wrap_i64]; rfl
        have hemp : ByteArray.empty.data.toList = [] := rfl
        rw [hemp] at hcI
        have hi1 : Lib.indexByte ([] : List UInt8) ((E[1]'(by omega)).toNat : Int).toNat.toUInt8 = -1 := rfl
        rw [hi1] at hcI
        have hS1 := ha.out 1 (by omega)
        have hE1 : 128 ≤ (E[1]'(by omega)).toNat := by
          have := e3 (by omega)
          simpa [h2] using this
        have hne : ((((S[1]'(by omega)).toNat : Int)) == ((E[1]'(by omega)).toNat : Int)) = false := by simp; omega
        clear hemp hi1 e3
        go_enter Try.func59, Try.ntmps59
        go_wp2_with (go_at_call 68; refine (cV _).mono ?_; rintro e w9 ⟨rfl, rfl⟩)
        go_step3
        go_wp2_with fail
        go_loop [9, 10] (fun i f => i = .int .i64 1 ∧ f = .int .i64 0) (fun _ _ => 0)
        case atStart => exact ⟨rfl, rfl⟩
        case round =>
          obtain ⟨rfl, rfl⟩ := hrel
          go_wp2_with fail
          go_step3
          go_wp2_with fail
          go_region_with fail
          go_wp2_with fail
          · refine wp_region_held_drew (S := fun W => W = w9.drew.drew) (by kernel_rfl) ?_ (fun hHeld => ?_)
            · rfl
            refine wpAnyH_take (i := 0) (v := ?_) rfl (by kernel_rfl) (by kernel_rfl) (by kernel_rfl) (fun _ _ _ h => h) (Or.inl ⟨by rfl, ?takeYri0⟩) (by assumption) ?takeRri0
            case takeYri0 => (intro w hSw; subst hSw; go_simp; try (with_reducible rfl))
            simp only [Act.put, List.setIfInBounds_toArray, List.set_cons_zero, List.set_cons_succ, List.getElem_toArray, List.getElem_cons_zero]
            refine wpAnyH_take (i := 1) (v := ?_) rfl (by kernel_rfl) (by kernel_rfl) (by kernel_rfl) (fun _ _ _ h => h) (Or.inl ⟨by rfl, ?takeYri1⟩) (by assumption) ?takeRri1
            case takeYri1 => (intro w hSw; subst hSw; go_simp; try (with_reducible rfl))
            simp only [Act.put, List.setIfInBounds_toArray, List.set_cons_zero, List.set_cons_succ, List.getElem_toArray, List.getElem_cons_zero, List.getElem_cons_succ]
            refine wpAnyH_take (i := 2) (v := ?_) rfl (by kernel_rfl) (by kernel_rfl) (by kernel_rfl) (fun _ _ _ h => h) (Or.inl ⟨by rfl, ?takeYri2⟩) (by assumption) ?takeRri2
            case takeYri2 => (intro w hSw; subst hSw; go_simp; try (with_reducible rfl))
            simp only [Act.put, List.setIfInBounds_toArray, List.set_cons_zero, List.set_cons_succ, List.getElem_toArray, List.getElem_cons_zero, List.getElem_cons_succ]
            refine wpAnyH_take (i := 3) (v := ?_) rfl (by kernel_rfl) (by kernel_rfl) (by kernel_rfl) (fun _ _ _ h => h) (Or.inl ⟨by rfl, ?takeYri3⟩) (by assumption) ?takeRri3
            case takeYri3 => (intro w hSw; subst hSw; go_simp; try (with_reducible rfl))
            simp only [Act.put, List.setIfInBounds_toArray, List.set_cons_zero, List.set_cons_succ, List.getElem_toArray, List.getElem_cons_zero, List.getElem_cons_succ]
            refine wpAnyH_take (i := 4) (v := ?_) rfl (by kernel_rfl) (by kernel_rfl) (by kernel_rfl) (fun _ _ _ h => h) (Or.inl ⟨by rfl, ?takeYri4⟩) (by assumption) ?takeRri4
            case takeYri4 => (intro w hSw; subst hSw; go_simp; try (with_reducible rfl))
            simp only [Act.put, List.setIfInBounds_toArray, List.set_cons_zero, List.set_cons_succ, List.getElem_toArray, List.getElem_cons_zero, List.getElem_cons_succ]
            refine wpAnyH_take (i := 5) (v := ?_) rfl (by kernel_rfl) (by kernel_rfl) (by kernel_rfl) (fun _ _ _ h => h) (Or.inl ⟨by rfl, ?takeYri5⟩) (by assumption) ?takeRri5
            case takeYri5 => (intro w hSw; subst hSw; go_simp; try (with_reducible rfl))
            simp only [Act.put, List.setIfInBounds_toArray, List.set_cons_zero, List.set_cons_succ, List.getElem_toArray, List.getElem_cons_zero, List.getElem_cons_succ]
            refine wpAnyH_take (i := 6) (v := ?_) rfl (by kernel_rfl) (by kernel_rfl) (by kernel_rfl) (fun _ _ _ h => h) (Or.inl ⟨by rfl, ?takeYri6⟩) (by assumption) ?takeRri6
            case takeYri6 => (intro w hSw; subst hSw; go_simp; try (with_reducible rfl))
            simp only [Act.put, List.setIfInBounds_toArray, List.set_cons_zero, List.set_cons_succ, List.getElem_toArray, List.getElem_cons_zero, List.getElem_cons_succ]
            refine wpAnyH_ready (rs := [7]) (by kernel_rfl) (by simp) ?_
            refine AllReadyH.cons rfl (fun K hK => ?_) AllReadyH.nil
            go_simp
            refine (hcI _).mono ?_
            rintro e w8 ⟨rfl, rfl⟩
            go_wp2_with fail
            refine hK.out _ _ rfl (fun hHeldri7 => ?_)
            clear hK K
            try simp only [Act.put, List.setIfInBounds_toArray, List.set_cons_zero, List.set_cons_succ, List.getElem_toArray, List.getElem_cons_zero, List.getElem_cons_succ]
            refine wpAnyH_take (i := 8) (v := ?_) rfl (by kernel_rfl) (by kernel_rfl) (by kernel_rfl) (fun _ _ _ h => h) (Or.inl ⟨by rfl, ?takeYri8⟩) (by assumption) ?takeRri8
            case takeYri8 => (intro w hSw; subst hSw; go_simp; try (with_reducible rfl))
            simp only [Act.put, List.setIfInBounds_toArray, List.set_cons_zero, List.set_cons_succ, List.getElem_toArray, List.getElem_cons_zero, List.getElem_cons_succ]
            refine wpAnyH_done (by kernel_rfl) ?_ _
            go_wp2_with fail
            try rw [Exit.noGoto_ret]
            go_ret
            exact ⟨rfl, (Below.refl _ w9).drew.drew⟩
          · refine wp_region_held_drew (S := fun W => W = w9.drew.drew) (by kernel_rfl) ?_ (fun hHeld => ?_)
            · rfl
            refine wpAnyH_take (i := 0) (v := ?_) rfl (by kernel_rfl) (by kernel_rfl) (by kernel_rfl) (fun _ _ _ h => h) (Or.inl ⟨by rfl, ?takeYrj0⟩) (by assumption) ?takeRrj0
            case takeYrj0 => (intro w hSw; subst hSw; go_simp; try (with_reducible rfl))
            simp only [Act.put, List.setIfInBounds_toArray, List.set_cons_zero, List.set_cons_succ, List.getElem_toArray, List.getElem_cons_zero]
            refine wpAnyH_take (i := 1) (v := ?_) rfl (by kernel_rfl) (by kernel_rfl) (by kernel_rfl) (fun _ _ _ h => h) (Or.inl ⟨by rfl, ?takeYrj1⟩) (by assumption) ?takeRrj1
            case takeYrj1 => (intro w hSw; subst hSw; go_simp; try (with_reducible rfl))
            simp only [Act.put, List.setIfInBounds_toArray, List.set_cons_zero, List.set_cons_succ, List.getElem_toArray, List.getElem_cons_zero, List.getElem_cons_succ]
            refine wpAnyH_take (i := 2) (v := ?_) rfl (by kernel_rfl) (by kernel_rfl) (by kernel_rfl) (fun _ _ _ h => h) (Or.inl ⟨by rfl, ?takeYrj2⟩) (by assumption) ?takeRrj2
            case takeYrj2 => (intro w hSw; subst hSw; go_simp; try (with_reducible rfl))
            simp only [Act.put, List.setIfInBounds_toArray, List.set_cons_zero, List.set_cons_succ, List.getElem_toArray, List.getElem_cons_zero, List.getElem_cons_succ]
            refine wpAnyH_take (i := 3) (v := ?_) rfl (by kernel_rfl) (by kernel_rfl) (by kernel_rfl) (fun _ _ _ h => h) (Or.inl ⟨by rfl, ?takeYrj3⟩) (by assumption) ?takeRrj3
            case takeYrj3 => (intro w hSw; subst hSw; go_simp; try (with_reducible rfl))
            simp only [Act.put, List.setIfInBounds_toArray, List.set_cons_zero, List.set_cons_succ, List.getElem_toArray, List.getElem_cons_zero, List.getElem_cons_succ]
            refine wpAnyH_take (i := 4) (v := ?_) rfl (by kernel_rfl) (by kernel_rfl) (by kernel_rfl) (fun _ _ _ h => h) (Or.inl ⟨by rfl, ?takeYrj4⟩) (by assumption) ?takeRrj4
            case takeYrj4 => (intro w hSw; subst hSw; go_simp; try (with_reducible rfl))
            simp only [Act.put, List.setIfInBounds_toArray, List.set_cons_zero, List.set_cons_succ, List.getElem_toArray, List.getElem_cons_zero, List.getElem_cons_succ]
            refine wpAnyH_take (i := 5) (v := ?_) rfl (by kernel_rfl) (by kernel_rfl) (by kernel_rfl) (fun _ _ _ h => h) (Or.inl ⟨by rfl, ?takeYrj5⟩) (by assumption) ?takeRrj5
            case takeYrj5 => (intro w hSw; subst hSw; go_simp; try (with_reducible rfl))
            simp only [Act.put, List.setIfInBounds_toArray, List.set_cons_zero, List.set_cons_succ, List.getElem_toArray, List.getElem_cons_zero, List.getElem_cons_succ]
            refine wpAnyH_take (i := 6) (v := ?_) rfl (by kernel_rfl) (by kernel_rfl) (by kernel_rfl) (fun _ _ _ h => h) (Or.inl ⟨by rfl, ?takeYrj6⟩) (by assumption) ?takeRrj6
            case takeYrj6 => (intro w hSw; subst hSw; go_simp; try (with_reducible rfl))
            simp only [Act.put, List.setIfInBounds_toArray, List.set_cons_zero, List.set_cons_succ, List.getElem_toArray, List.getElem_cons_zero, List.getElem_cons_succ]
            refine wpAnyH_ready (rs := [7]) (by kernel_rfl) (by simp) ?_
            refine AllReadyH.cons rfl (fun K hK => ?_) AllReadyH.nil
            go_simp
            refine (hcI _).mono ?_
            rintro e w8 ⟨rfl, rfl⟩
            go_wp2_with fail
            refine hK.out _ _ rfl (fun hHeldrj7 => ?_)
            clear hK K
            try simp only [Act.put, List.setIfInBounds_toArray, List.set_cons_zero, List.set_cons_succ, List.getElem_toArray, List.getElem_cons_zero, List.getElem_cons_succ]
            refine wpAnyH_take (i := 8) (v := ?_) rfl (by kernel_rfl) (by kernel_rfl) (by kernel_rfl) (fun _ _ _ h => h) (Or.inl ⟨by rfl, ?takeYrj8⟩) (by assumption) ?takeRrj8
            case takeYrj8 => (intro w hSw; subst hSw; go_simp; try (with_reducible rfl))
            simp only [Act.put, List.setIfInBounds_toArray, List.set_cons_zero, List.set_cons_succ, List.getElem_toArray, List.getElem_cons_zero, List.getElem_cons_succ]
            refine wpAnyH_done (by kernel_rfl) ?_ _
            go_wp2_with fail
            try rw [Exit.noGoto_ret]
            go_ret
            exact ⟨rfl, (Below.refl _ w9).drew.drew⟩
      · have h3 : 3 ≤ E.size := by omega
        have h2' : ¬ ((E.size : Int) - 1) < 2 := by omega
        go_enter Try.func59, Try.ntmps59
        go_wp2_with (go_at_call 68; refine (cV _).mono ?_; rintro e w9 ⟨rfl, rfl⟩)
        go_step3
        go_wp2_with fail
        go_loop [9, 10] (fun i f => i = .int .i64 ((E.size : Int) - 1) ∧ f = .int .i64 0) (fun _ _ => 0)
        case atStart => exact ⟨by go_num, rfl⟩
        case round =>
          obtain ⟨rfl, rfl⟩ := hrel
          go_wp2_with fail
          try rw [Exit.noGoto_ret]
          go_ret
          exact ⟨rfl, Below.refl _ _⟩
    · have cV := fun w => validRune_any c w
      rw [decide_eq_false hv] at cV
      go_enter Try.func59, Try.ntmps59
      go_wp2_with (go_at_call 68; refine (cV _).mono ?_; rintro e w9 ⟨rfl, rfl⟩)
      go_ret
      exact ⟨rfl, Below.refl _ _⟩
end Go.Proofs.Ytocpbcghkphcgaa.Hub
