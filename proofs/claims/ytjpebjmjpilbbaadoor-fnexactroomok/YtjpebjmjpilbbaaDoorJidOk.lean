/-
  The model's l4Ok and JidOk, the program's JidOk, and the law's own szJid and toJid: at every address.
-/
import Derived.Test.YtjpebjmjpilbbaaDoorJidSpec
import Derived.Test.YtjpebjmjpilbbaaDoorJidHost
import Derived.Deep.RegionHeld3
import Derived.Deep.DeepFit
namespace Go.Proofs.YtjpebjmjpilbbaaDoor.Hub
open Go.RowKit
set_option linter.unusedVariables false

/-- Nothing, or what p asks. -/
def orE (p : ByteArray → Bool) (s : ByteArray) : Bool := if s.size = 0 then true else p s
/-- An address that is ok. -/
def jidT (u h n : ByteArray) : Bool := orE userT u && (hostT h && orE nickT n)
theorem orE_cases (p : ByteArray → Bool) (s : ByteArray) : (s = ⟨#[]⟩ ∧ orE p s = true) ∨ (s.toList.isEmpty = false ∧ p s = true ∧ orE p s = true) ∨ (s.toList.isEmpty = false ∧ p s = false ∧ orE p s = false) := by
  unfold orE
  by_cases h : s.size = 0
  · rw [if_pos h]; exact .inl ⟨size_zero s h, rfl⟩
  · rw [if_neg h]
    cases hp : p s
    · exact .inr (.inr ⟨not_empty s (by omega), rfl, rfl⟩)
    · exact .inr (.inl ⟨not_empty s (by omega), rfl, rfl⟩)
/-- An address, as a value. -/
def jidV (u h n : ByteArray) : Value := .agg #[.string u, .string h, .string n]

set_option maxRecDepth 100000 in
set_option maxHeartbeats 2000000 in
theorem l4Ok_any (u h n : ByteArray) (w : World) (hu : u.size ≤ 1099511627776) (hh : h.size ≤ 1099511627776) (hn : n.size ≤ 1099511627776) :
    Calls Tryd.prog 25 #[.agg #[.string u, .string h, .string n]] w fun e w' => e = .returned (.bool (jidT u h n)) ∧ Below w.heap.size w w' := by
  have b0 : Below w.heap.size w (w.alloc (.cells #[.string u, .string h, .string n] 24)) := (Below.refl _ w).alloc (Nat.le_refl _) _
  have hU := fun w => l4User_any u w (by omega)
  have hH := l4Host_any h (w.alloc (.cells #[.string u, .string h, .string n] 24)) hh
  have hN := fun w => l4Nick_any n w (by omega)
  have n0 : (w.alloc (.cells #[.string u, .string h, .string n] 24)).cell? ⟨w.heap.size, 2, none⟩ = some (.string n) := (cellLit w _ _ 2).trans rfl
  unfold jidT
  rcases orE_cases userT u with ⟨hue, ho⟩ | ⟨hue, hut, ho⟩ | ⟨hue, hut, ho⟩
  all_goals rw [ho]
  all_goals clear ho
  · subst hue
    cases hht : hostT h
    all_goals rw [hht] at hH
    all_goals clear hht
    · go_enter Tryd.func25, Tryd.ntmps25
      go_wp2_with (go_at_call 54; go_fit hH; rintro e w1 ⟨rfl, b1⟩)
      go_ret
      exact ⟨rfl, b0.trans (b1.mono b0.size)⟩
    · rcases orE_cases nickT n with ⟨hne, ho⟩ | ⟨hne, hnt, ho⟩ | ⟨hne, hnt, ho⟩
      all_goals rw [ho]
      all_goals clear ho
      · subst hne
        go_enter Tryd.func25, Tryd.ntmps25
        go_wp2_with (go_at_call 54; go_fit hH; rintro e w1 ⟨rfl, b1⟩; have n1 := (b1.cell (p := ⟨w.heap.size, 2, none⟩) (by simp)).trans n0)
        go_ret
        exact ⟨rfl, b0.trans (b1.mono b0.size)⟩
      all_goals
        rw [hnt] at hN
        go_enter Tryd.func25, Tryd.ntmps25
        go_wp2_with (first | (go_at_call 54; go_fit hH; rintro e w1 ⟨rfl, b1⟩; have n1 := (b1.cell (p := ⟨w.heap.size, 2, none⟩) (by simp)).trans n0) | (go_at_call 55; go_fit (hN _); rintro e w2 ⟨rfl, b2⟩))
        go_ret
        exact ⟨rfl, (b0.trans (b1.mono b0.size)).trans (b2.mono (b0.trans (b1.mono b0.size)).size)⟩
  · rw [hut] at hU
    cases hht : hostT h
    all_goals rw [hht] at hH
    all_goals clear hht
    · go_enter Tryd.func25, Tryd.ntmps25
      go_wp2_with (first | (go_at_call 53; go_fit (hU _); rintro e w' ⟨rfl, rfl⟩) | (go_at_call 54; go_fit hH; rintro e w1 ⟨rfl, b1⟩))
      go_ret
      exact ⟨rfl, b0.trans (b1.mono b0.size)⟩
    · rcases orE_cases nickT n with ⟨hne, ho⟩ | ⟨hne, hnt, ho⟩ | ⟨hne, hnt, ho⟩
      all_goals rw [ho]
      all_goals clear ho
      · subst hne
        go_enter Tryd.func25, Tryd.ntmps25
        go_wp2_with (first | (go_at_call 53; go_fit (hU _); rintro e w' ⟨rfl, rfl⟩) | (go_at_call 54; go_fit hH; rintro e w1 ⟨rfl, b1⟩; have n1 := (b1.cell (p := ⟨w.heap.size, 2, none⟩) (by simp)).trans n0))
        go_ret
        exact ⟨rfl, b0.trans (b1.mono b0.size)⟩
      all_goals
        rw [hnt] at hN
        go_enter Tryd.func25, Tryd.ntmps25
        go_wp2_with (first | (go_at_call 53; go_fit (hU _); rintro e w' ⟨rfl, rfl⟩) | (go_at_call 54; go_fit hH; rintro e w1 ⟨rfl, b1⟩; have n1 := (b1.cell (p := ⟨w.heap.size, 2, none⟩) (by simp)).trans n0) | (go_at_call 55; go_fit (hN _); rintro e w2 ⟨rfl, b2⟩))
        go_ret
        exact ⟨rfl, (b0.trans (b1.mono b0.size)).trans (b2.mono (b0.trans (b1.mono b0.size)).size)⟩
  · rw [hut] at hU
    go_enter Tryd.func25, Tryd.ntmps25
    go_wp2_with (go_at_call 53; go_fit (hU _); rintro e w' ⟨rfl, rfl⟩)
    go_ret
    exact ⟨rfl, b0⟩

theorem specJidOk_any (u h n : ByteArray) (w : World) (hu : u.size ≤ 1099511627776) (hh : h.size ≤ 1099511627776) (hn : n.size ≤ 1099511627776) :
    Calls Tryd.prog 8 #[.agg #[.string u, .string h, .string n]] w fun e w' => e = .returned (.bool (jidT u h n)) ∧ Below w.heap.size w w' := by
  have b0 : Below w.heap.size w (w.alloc (.cells #[.string u, .string h, .string n] 24)) := (Below.refl _ w).alloc (Nat.le_refl _) _
  have hO := l4Ok_any u h n (w.alloc (.cells #[.string u, .string h, .string n] 24)) hu hh hn
  go_enter Tryd.func8, Tryd.ntmps8
  go_wp2_with (go_at_call 25; go_fit hO; rintro e w1 ⟨rfl, b1⟩)
  go_ret
  exact ⟨rfl, b0.trans (b1.mono b0.size)⟩

end Go.Proofs.YtjpebjmjpilbbaaDoor.Hub
