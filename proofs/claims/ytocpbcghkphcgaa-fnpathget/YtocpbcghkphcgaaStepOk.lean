/-
  What the program's isNoStep and the model's l12StepOk say of a step; the program's and the model's PathOk.
-/
import Derived.Test.YtocpbcghkphcgaaStepVal
namespace Go.Proofs.Ytocpbcghkphcgaa.Hub
open Go.RowKit
set_option linter.unusedVariables false
set_option linter.unusedSimpArgs false

theorem ne_bytes {a b : ByteArray} (h : ¬ a = b) : (a.toList == b.toList) = false := by
  cases hb : (a.toList == b.toList)
  · rfl
  · exact absurd (by
      have h1 : a.toList = b.toList := by simpa using hb
      rw [ByteArray.toList_eq, ByteArray.toList_eq] at h1
      cases a; cases b
      simp only [Array.toList_inj] at h1
      rw [h1]) h
theorem ne_none {a : ByteArray} (h : ¬ a = ⟨#[]⟩) : a.toList.isEmpty = false := not_empty a (by
  rcases Nat.eq_zero_or_pos a.size with h0 | h0
  · exact absurd (size_empty a h0) h
  · exact h0)
theorem eq_bytes (a : ByteArray) : (a.toList == a.toList) = true := by simp
theorem star_list : starS.toList = [42] := by rw [ByteArray.toList_eq]
theorem ne_star {n : ByteArray} (h : ¬ n = starS) : (n.toList == [42]) = false := by
  have h9 := ne_bytes h
  rw [star_list] at h9
  exact h9


set_option maxRecDepth 100000 in
set_option maxHeartbeats 1000000 in
theorem isNoStep_any (d : Bool) (n a t : ByteArray) (w : World) (hn : n.size ≤ 1048576) (ha : a.size ≤ 1048576) (ht : t.size ≤ 1048576) :
    Calls Try.prog 29 #[.agg #[.bool d, .string n, .string a, .string t]] w fun e w' => e = .returned (.bool (!stepT n a t)) ∧ Below w.heap.size w w' := by
  have b0 : Below w.heap.size w (w.alloc (.cells #[.bool d, .string n, .string a, .string t] 37)) := (Below.refl _ w).alloc (Nat.le_refl _) _
  have cN := nameOk_is n (w.alloc (.cells #[.bool d, .string n, .string a, .string t] 37)) (by unfold maxLen; omega)
  have cA := nameOk_is a (w.alloc (.cells #[.bool d, .string n, .string a, .string t] 37)) (by unfold maxLen; omega)
  have cV := each_quoted t (w.alloc (.cells #[.bool d, .string n, .string a, .string t] 37)) (by omega)
  obtain ⟨R, hR⟩ : ∃ R, stepT n a t = R := ⟨_, rfl⟩
  have HR : Hid (stepT n a t = R) := hR
  rw [hR]
  clear hR
  by_cases hs : n = starS
  · subst hs
    by_cases he : a = ⟨#[]⟩
    · subst he
      rw [name_none] at cA
      by_cases hte : t = ⟨#[]⟩
      · subst hte
        go_enter Try.func29, Try.ntmps29
        go_wp2_with first
          | (go_at_call 39; go_fit cN; rintro e w9 ⟨rfl, rfl⟩)
          | (go_at_call 39; go_fit cA; rintro e w9 ⟨rfl, rfl⟩)
          | (go_at_call 40; go_fit cV; rintro e w9 ⟨rfl, rfl⟩)
        go_ret
        exact ⟨ret_bool (by have h := HR.out; unfold stepT at h; simp [starS] at h; first | exact h | exact h.symm | (rw [← h]; rfl) | simp [← h] | (subst h; rfl) | (subst h; simp <;> omega) | (rw [← h]; simp <;> omega)), b0⟩
      · have h3 := ne_none hte
        go_enter Try.func29, Try.ntmps29
        go_wp2_with first
          | (go_at_call 39; go_fit cN; rintro e w9 ⟨rfl, rfl⟩)
          | (go_at_call 39; go_fit cA; rintro e w9 ⟨rfl, rfl⟩)
          | (go_at_call 40; go_fit cV; rintro e w9 ⟨rfl, rfl⟩)
        go_ret
        exact ⟨ret_bool (by have h := HR.out; unfold stepT at h; simp [starS, hte] at h; first | exact h | exact h.symm | (rw [← h]; rfl) | simp [← h] | (subst h; rfl) | (subst h; simp <;> omega) | (rw [← h]; simp <;> omega)), b0⟩
    · have h2 := ne_none he
      cases ha9 : nameT a
      · rw [ha9] at cA
        go_enter Try.func29, Try.ntmps29
        go_wp2_with first
          | (go_at_call 39; go_fit cN; rintro e w9 ⟨rfl, rfl⟩)
          | (go_at_call 39; go_fit cA; rintro e w9 ⟨rfl, rfl⟩)
          | (go_at_call 40; go_fit cV; rintro e w9 ⟨rfl, rfl⟩)
        go_ret
        exact ⟨ret_bool (by have h := HR.out; unfold stepT at h; simp [starS, he, ha9] at h; first | exact h | exact h.symm | (rw [← h]; rfl) | simp [← h] | (subst h; rfl) | (subst h; simp <;> omega) | (rw [← h]; simp <;> omega)), b0⟩
      · rw [ha9] at cA
        by_cases hl : t.size ≤ 10
        · have hl2 : ¬ (10 : Int) < (t.size : Int) := by omega
          cases hv : eachB valB t
          · rw [hv] at cV
            go_enter Try.func29, Try.ntmps29
            go_wp2_with first
              | (go_at_call 39; go_fit cN; rintro e w9 ⟨rfl, rfl⟩)
              | (go_at_call 39; go_fit cA; rintro e w9 ⟨rfl, rfl⟩)
              | (go_at_call 40; go_fit cV; rintro e w9 ⟨rfl, rfl⟩)
            go_ret
            exact ⟨ret_bool (by have h := HR.out; unfold stepT at h; simp [starS, he, ha9, valT, hl, hv] at h; first | exact h | exact h.symm | (rw [← h]; rfl) | simp [← h] | (subst h; rfl) | (subst h; simp <;> omega) | (rw [← h]; simp <;> omega)), b0⟩
          · rw [hv] at cV
            go_enter Try.func29, Try.ntmps29
            go_wp2_with first
              | (go_at_call 39; go_fit cN; rintro e w9 ⟨rfl, rfl⟩)
              | (go_at_call 39; go_fit cA; rintro e w9 ⟨rfl, rfl⟩)
              | (go_at_call 40; go_fit cV; rintro e w9 ⟨rfl, rfl⟩)
            go_ret
            exact ⟨ret_bool (by have h := HR.out; unfold stepT at h; simp [starS, he, ha9, valT, hl, hv] at h; first | exact h | exact h.symm | (rw [← h]; rfl) | simp [← h] | (subst h; rfl) | (subst h; simp <;> omega) | (rw [← h]; simp <;> omega)), b0⟩
        · have hl2 : (10 : Int) < (t.size : Int) := by omega
          go_enter Try.func29, Try.ntmps29
          go_wp2_with first
            | (go_at_call 39; go_fit cN; rintro e w9 ⟨rfl, rfl⟩)
            | (go_at_call 39; go_fit cA; rintro e w9 ⟨rfl, rfl⟩)
            | (go_at_call 40; go_fit cV; rintro e w9 ⟨rfl, rfl⟩)
          go_ret
          exact ⟨ret_bool (by have h := HR.out; unfold stepT at h; simp [starS, he, ha9, valT, hl] at h; first | exact h | exact h.symm | (rw [← h]; rfl) | simp [← h] | (subst h; rfl) | (subst h; simp <;> omega) | (rw [← h]; simp <;> omega)), b0⟩
  · have h1 := ne_star hs
    cases hn9 : nameT n
    · rw [hn9] at cN
      go_enter Try.func29, Try.ntmps29
      go_wp2_with first
        | (go_at_call 39; go_fit cN; rintro e w9 ⟨rfl, rfl⟩)
        | (go_at_call 39; go_fit cA; rintro e w9 ⟨rfl, rfl⟩)
        | (go_at_call 40; go_fit cV; rintro e w9 ⟨rfl, rfl⟩)
      go_ret
      exact ⟨ret_bool (by have h := HR.out; unfold stepT at h; simp [hs, hn9] at h; first | exact h | exact h.symm | (rw [← h]; rfl) | simp [← h] | (subst h; rfl) | (subst h; simp <;> omega) | (rw [← h]; simp <;> omega)), b0⟩
    · rw [hn9] at cN
      by_cases he : a = ⟨#[]⟩
      · subst he
        rw [name_none] at cA
        by_cases hte : t = ⟨#[]⟩
        · subst hte
          go_enter Try.func29, Try.ntmps29
          go_wp2_with first
            | (go_at_call 39; go_fit cN; rintro e w9 ⟨rfl, rfl⟩)
            | (go_at_call 39; go_fit cA; rintro e w9 ⟨rfl, rfl⟩)
            | (go_at_call 40; go_fit cV; rintro e w9 ⟨rfl, rfl⟩)
          go_ret
          exact ⟨ret_bool (by have h := HR.out; unfold stepT at h; simp [hs, hn9] at h; first | exact h | exact h.symm | (rw [← h]; rfl) | simp [← h] | (subst h; rfl) | (subst h; simp <;> omega) | (rw [← h]; simp <;> omega)), b0⟩
        · have h3 := ne_none hte
          go_enter Try.func29, Try.ntmps29
          go_wp2_with first
            | (go_at_call 39; go_fit cN; rintro e w9 ⟨rfl, rfl⟩)
            | (go_at_call 39; go_fit cA; rintro e w9 ⟨rfl, rfl⟩)
            | (go_at_call 40; go_fit cV; rintro e w9 ⟨rfl, rfl⟩)
          go_ret
          exact ⟨ret_bool (by have h := HR.out; unfold stepT at h; simp [hs, hn9, hte] at h; first | exact h | exact h.symm | (rw [← h]; rfl) | simp [← h] | (subst h; rfl) | (subst h; simp <;> omega) | (rw [← h]; simp <;> omega)), b0⟩
      · have h2 := ne_none he
        cases ha9 : nameT a
        · rw [ha9] at cA
          go_enter Try.func29, Try.ntmps29
          go_wp2_with first
            | (go_at_call 39; go_fit cN; rintro e w9 ⟨rfl, rfl⟩)
            | (go_at_call 39; go_fit cA; rintro e w9 ⟨rfl, rfl⟩)
            | (go_at_call 40; go_fit cV; rintro e w9 ⟨rfl, rfl⟩)
          go_ret
          exact ⟨ret_bool (by have h := HR.out; unfold stepT at h; simp [hs, hn9, he, ha9] at h; first | exact h | exact h.symm | (rw [← h]; rfl) | simp [← h] | (subst h; rfl) | (subst h; simp <;> omega) | (rw [← h]; simp <;> omega)), b0⟩
        · rw [ha9] at cA
          by_cases hl : t.size ≤ 10
          · have hl2 : ¬ (10 : Int) < (t.size : Int) := by omega
            cases hv : eachB valB t
            · rw [hv] at cV
              go_enter Try.func29, Try.ntmps29
              go_wp2_with first
                | (go_at_call 39; go_fit cN; rintro e w9 ⟨rfl, rfl⟩)
                | (go_at_call 39; go_fit cA; rintro e w9 ⟨rfl, rfl⟩)
                | (go_at_call 40; go_fit cV; rintro e w9 ⟨rfl, rfl⟩)
              go_ret
              exact ⟨ret_bool (by have h := HR.out; unfold stepT at h; simp [hs, hn9, he, ha9, valT, hl, hv] at h; first | exact h | exact h.symm | (rw [← h]; rfl) | simp [← h] | (subst h; rfl) | (subst h; simp <;> omega) | (rw [← h]; simp <;> omega)), b0⟩
            · rw [hv] at cV
              go_enter Try.func29, Try.ntmps29
              go_wp2_with first
                | (go_at_call 39; go_fit cN; rintro e w9 ⟨rfl, rfl⟩)
                | (go_at_call 39; go_fit cA; rintro e w9 ⟨rfl, rfl⟩)
                | (go_at_call 40; go_fit cV; rintro e w9 ⟨rfl, rfl⟩)
              go_ret
              exact ⟨ret_bool (by have h := HR.out; unfold stepT at h; simp [hs, hn9, he, ha9, valT, hl, hv] at h; first | exact h | exact h.symm | (rw [← h]; rfl) | simp [← h] | (subst h; rfl) | (subst h; simp <;> omega) | (rw [← h]; simp <;> omega)), b0⟩
          · have hl2 : (10 : Int) < (t.size : Int) := by omega
            go_enter Try.func29, Try.ntmps29
            go_wp2_with first
              | (go_at_call 39; go_fit cN; rintro e w9 ⟨rfl, rfl⟩)
              | (go_at_call 39; go_fit cA; rintro e w9 ⟨rfl, rfl⟩)
              | (go_at_call 40; go_fit cV; rintro e w9 ⟨rfl, rfl⟩)
            go_ret
            exact ⟨ret_bool (by have h := HR.out; unfold stepT at h; simp [hs, hn9, he, ha9, valT, hl] at h; first | exact h | exact h.symm | (rw [← h]; rfl) | simp [← h] | (subst h; rfl) | (subst h; simp <;> omega) | (rw [← h]; simp <;> omega)), b0⟩

set_option maxRecDepth 100000 in
set_option maxHeartbeats 1000000 in
theorem l12StepOk_any (d : Bool) (n a t : ByteArray) (w : World) (hn : n.size ≤ 1048576) (ha : a.size ≤ 1048576) (ht : t.size ≤ 1048576) :
    Calls Try.prog 33 #[.agg #[.bool d, .string n, .string a, .string t]] w fun e w' => e = .returned (.bool (stepT n a t)) ∧ Below w.heap.size w w' := by
  have b0 : Below w.heap.size w (w.alloc (.cells #[.bool d, .string n, .string a, .string t] 37)) := (Below.refl _ w).alloc (Nat.le_refl _) _
  have cN := l2Name_is n (w.alloc (.cells #[.bool d, .string n, .string a, .string t] 37)) (by unfold maxLen; omega)
  have cA := l2Name_is a (w.alloc (.cells #[.bool d, .string n, .string a, .string t] 37)) (by unfold maxLen; omega)
  have cV := l12Value_any t (w.alloc (.cells #[.bool d, .string n, .string a, .string t] 37)) (by omega)
  obtain ⟨R, hR⟩ : ∃ R, stepT n a t = R := ⟨_, rfl⟩
  have HR : Hid (stepT n a t = R) := hR
  rw [hR]
  clear hR
  by_cases hs : n = starS
  · subst hs
    by_cases he : a = ⟨#[]⟩
    · subst he
      rw [name_none] at cA
      by_cases hte : t = ⟨#[]⟩
      · subst hte
        go_enter Try.func33, Try.ntmps33
        go_wp2_with first
          | (go_at_call 45; go_fit cN; rintro e w9 ⟨rfl, rfl⟩)
          | (go_at_call 45; go_fit cA; rintro e w9 ⟨rfl, rfl⟩)
          | (go_at_call 46; go_fit cV; rintro e w9 ⟨rfl, rfl⟩)
        go_ret
        exact ⟨ret_bool (by have h := HR.out; unfold stepT at h; simp [starS] at h; first | exact h | exact h.symm | (rw [← h]; rfl) | simp [← h] | (subst h; rfl) | (subst h; simp <;> omega) | (rw [← h]; simp <;> omega)), b0⟩
      · have h3 := ne_none hte
        go_enter Try.func33, Try.ntmps33
        go_wp2_with first
          | (go_at_call 45; go_fit cN; rintro e w9 ⟨rfl, rfl⟩)
          | (go_at_call 45; go_fit cA; rintro e w9 ⟨rfl, rfl⟩)
          | (go_at_call 46; go_fit cV; rintro e w9 ⟨rfl, rfl⟩)
        go_ret
        exact ⟨ret_bool (by have h := HR.out; unfold stepT at h; simp [starS, hte] at h; first | exact h | exact h.symm | (rw [← h]; rfl) | simp [← h] | (subst h; rfl) | (subst h; simp <;> omega) | (rw [← h]; simp <;> omega)), b0⟩
    · have h2 := ne_none he
      cases ha9 : nameT a
      · rw [ha9] at cA
        go_enter Try.func33, Try.ntmps33
        go_wp2_with first
          | (go_at_call 45; go_fit cN; rintro e w9 ⟨rfl, rfl⟩)
          | (go_at_call 45; go_fit cA; rintro e w9 ⟨rfl, rfl⟩)
          | (go_at_call 46; go_fit cV; rintro e w9 ⟨rfl, rfl⟩)
        go_ret
        exact ⟨ret_bool (by have h := HR.out; unfold stepT at h; simp [starS, he, ha9] at h; first | exact h | exact h.symm | (rw [← h]; rfl) | simp [← h] | (subst h; rfl) | (subst h; simp <;> omega) | (rw [← h]; simp <;> omega)), b0⟩
      · rw [ha9] at cA
        cases hv : valT t
        · rw [hv] at cV
          go_enter Try.func33, Try.ntmps33
          go_wp2_with first
            | (go_at_call 45; go_fit cN; rintro e w9 ⟨rfl, rfl⟩)
            | (go_at_call 45; go_fit cA; rintro e w9 ⟨rfl, rfl⟩)
            | (go_at_call 46; go_fit cV; rintro e w9 ⟨rfl, rfl⟩)
          go_ret
          exact ⟨ret_bool (by have h := HR.out; unfold stepT at h; simp [starS, he, ha9, hv] at h; first | exact h | exact h.symm | (rw [← h]; rfl) | simp [← h] | (subst h; rfl) | (subst h; simp <;> omega) | (rw [← h]; simp <;> omega)), b0⟩
        · rw [hv] at cV
          go_enter Try.func33, Try.ntmps33
          go_wp2_with first
            | (go_at_call 45; go_fit cN; rintro e w9 ⟨rfl, rfl⟩)
            | (go_at_call 45; go_fit cA; rintro e w9 ⟨rfl, rfl⟩)
            | (go_at_call 46; go_fit cV; rintro e w9 ⟨rfl, rfl⟩)
          go_ret
          exact ⟨ret_bool (by have h := HR.out; unfold stepT at h; simp [starS, he, ha9, hv] at h; first | exact h | exact h.symm | (rw [← h]; rfl) | simp [← h] | (subst h; rfl) | (subst h; simp <;> omega) | (rw [← h]; simp <;> omega)), b0⟩
  · have h1 := ne_star hs
    cases hn9 : nameT n
    · rw [hn9] at cN
      go_enter Try.func33, Try.ntmps33
      go_wp2_with first
        | (go_at_call 45; go_fit cN; rintro e w9 ⟨rfl, rfl⟩)
        | (go_at_call 45; go_fit cA; rintro e w9 ⟨rfl, rfl⟩)
        | (go_at_call 46; go_fit cV; rintro e w9 ⟨rfl, rfl⟩)
      go_ret
      exact ⟨ret_bool (by have h := HR.out; unfold stepT at h; simp [hs, hn9] at h; first | exact h | exact h.symm | (rw [← h]; rfl) | simp [← h] | (subst h; rfl) | (subst h; simp <;> omega) | (rw [← h]; simp <;> omega)), b0⟩
    · rw [hn9] at cN
      by_cases he : a = ⟨#[]⟩
      · subst he
        rw [name_none] at cA
        by_cases hte : t = ⟨#[]⟩
        · subst hte
          go_enter Try.func33, Try.ntmps33
          go_wp2_with first
            | (go_at_call 45; go_fit cN; rintro e w9 ⟨rfl, rfl⟩)
            | (go_at_call 45; go_fit cA; rintro e w9 ⟨rfl, rfl⟩)
            | (go_at_call 46; go_fit cV; rintro e w9 ⟨rfl, rfl⟩)
          go_ret
          exact ⟨ret_bool (by have h := HR.out; unfold stepT at h; simp [hs, hn9] at h; first | exact h | exact h.symm | (rw [← h]; rfl) | simp [← h] | (subst h; rfl) | (subst h; simp <;> omega) | (rw [← h]; simp <;> omega)), b0⟩
        · have h3 := ne_none hte
          go_enter Try.func33, Try.ntmps33
          go_wp2_with first
            | (go_at_call 45; go_fit cN; rintro e w9 ⟨rfl, rfl⟩)
            | (go_at_call 45; go_fit cA; rintro e w9 ⟨rfl, rfl⟩)
            | (go_at_call 46; go_fit cV; rintro e w9 ⟨rfl, rfl⟩)
          go_ret
          exact ⟨ret_bool (by have h := HR.out; unfold stepT at h; simp [hs, hn9, hte] at h; first | exact h | exact h.symm | (rw [← h]; rfl) | simp [← h] | (subst h; rfl) | (subst h; simp <;> omega) | (rw [← h]; simp <;> omega)), b0⟩
      · have h2 := ne_none he
        cases ha9 : nameT a
        · rw [ha9] at cA
          go_enter Try.func33, Try.ntmps33
          go_wp2_with first
            | (go_at_call 45; go_fit cN; rintro e w9 ⟨rfl, rfl⟩)
            | (go_at_call 45; go_fit cA; rintro e w9 ⟨rfl, rfl⟩)
            | (go_at_call 46; go_fit cV; rintro e w9 ⟨rfl, rfl⟩)
          go_ret
          exact ⟨ret_bool (by have h := HR.out; unfold stepT at h; simp [hs, hn9, he, ha9] at h; first | exact h | exact h.symm | (rw [← h]; rfl) | simp [← h] | (subst h; rfl) | (subst h; simp <;> omega) | (rw [← h]; simp <;> omega)), b0⟩
        · rw [ha9] at cA
          cases hv : valT t
          · rw [hv] at cV
            go_enter Try.func33, Try.ntmps33
            go_wp2_with first
              | (go_at_call 45; go_fit cN; rintro e w9 ⟨rfl, rfl⟩)
              | (go_at_call 45; go_fit cA; rintro e w9 ⟨rfl, rfl⟩)
              | (go_at_call 46; go_fit cV; rintro e w9 ⟨rfl, rfl⟩)
            go_ret
            exact ⟨ret_bool (by have h := HR.out; unfold stepT at h; simp [hs, hn9, he, ha9, hv] at h; first | exact h | exact h.symm | (rw [← h]; rfl) | simp [← h] | (subst h; rfl) | (subst h; simp <;> omega) | (rw [← h]; simp <;> omega)), b0⟩
          · rw [hv] at cV
            go_enter Try.func33, Try.ntmps33
            go_wp2_with first
              | (go_at_call 45; go_fit cN; rintro e w9 ⟨rfl, rfl⟩)
              | (go_at_call 45; go_fit cA; rintro e w9 ⟨rfl, rfl⟩)
              | (go_at_call 46; go_fit cV; rintro e w9 ⟨rfl, rfl⟩)
            go_ret
            exact ⟨ret_bool (by have h := HR.out; unfold stepT at h; simp [hs, hn9, he, ha9, hv] at h; first | exact h | exact h.symm | (rw [← h]; rfl) | simp [← h] | (subst h; rfl) | (subst h; simp <;> omega) | (rw [← h]; simp <;> omega)), b0⟩
end Go.Proofs.Ytocpbcghkphcgaa.Hub
