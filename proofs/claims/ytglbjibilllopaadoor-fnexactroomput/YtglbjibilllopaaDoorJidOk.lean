/-
  The model's l4Ok and JidOk, the program's JidOk, and the law's own szJid and toJid: at every address.
-/
import Derived.Test.YtglbjibilllopaaDoorJidSpec
import Derived.Test.YtglbjibilllopaaDoorJidHost
import Derived.Deep.RegionHeld3
import Derived.Deep.DeepFit
namespace Go.Proofs.YtglbjibilllopaaDoor.Hub
open Go.RowKit
set_option linter.unusedVariables false

/-- Nothing, or what p asks. -/
def orE (p : ByteArray → Bool) (s : ByteArray) : Bool := if s.size = 0 then true else p s
/-- An address that is ok. -/
def jidT (u h n : ByteArray) : Bool := orE userT u && (hostT h && orE nickT n)
theorem orE_cases (p : ByteArray → Bool) (s : ByteArray) : (s = ⟨#[]⟩ ∧ orE p s = true) ∨ (s.toList.isEmpty = false ∧ p s = true ∧ orE p s = true) ∨ (s.toList.isEmpty = false ∧ p s = false ∧ orE p s = false) := by
  unfold orE
  by_cases h : s.size = 0
  · rw [if_pos h]; exact .inl ⟨size_zero s h, rfl⟩
  · rw [if_neg h]
    cases hp : p s
    · exact .inr (.inr ⟨not_empty s (by omega), rfl, rfl⟩)
    · exact .inr (.inl ⟨not_empty s (by omega), rfl, rfl⟩)
/-- An address, as a value. -/
def jidV (u h n : ByteArray) : Value := .agg #[.string u, .string h, .string n]

end Go.Proofs.YtglbjibilllopaaDoor.Hub
