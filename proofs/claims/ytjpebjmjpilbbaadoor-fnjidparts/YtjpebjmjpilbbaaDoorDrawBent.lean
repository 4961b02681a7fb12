/-
  What spec.l16Bent gives: some text, of at most 2000 bytes. Nothing is said of which.
-/
import Derived.Test.YtjpebjmjpilbbaaDoorDrawB
import Derived.Deep.RegionWith
namespace Go.Proofs.YtjpebjmjpilbbaaDoor.Hub
open Go.RowKit
set_option linter.unusedVariables false

def bents : List ByteArray := [⟨#[60]⟩, ⟨#[62]⟩, ⟨#[38]⟩, ⟨#[39]⟩, ⟨#[47]⟩, ⟨#[32]⟩, ⟨#[120]⟩, ⟨#[61]⟩, ⟨#[1]⟩, ⟨#[255]⟩, ⟨#[124]⟩, ⟨#[48]⟩]
def mores : List ByteArray := [⟨#[120]⟩, ⟨#[32]⟩, ⟨#[60]⟩, ⟨#[47, 62]⟩, ⟨#[59]⟩]
def puts : List ByteArray := [⟨#[60]⟩, ⟨#[38]⟩, ⟨#[39]⟩, ⟨#[32]⟩, ⟨#[60, 97, 47, 62]⟩, ⟨#[195]⟩, ⟨#[124]⟩]
theorem all_small (ls : List ByteArray) (h : (ls.all fun s => decide (s.size ≤ 100)) = true) : ∀ s ∈ ls, s.size ≤ 100 := fun s hs => of_decide_eq_true (List.all_eq_true.1 h s hs)
theorem below_of_stepped {n₀ B : Nat} {W W' : World} (hB : n₀ ≤ B) (h : Stepped B W W') : Below n₀ W W' := h.2.1.mono hB

end Go.Proofs.YtjpebjmjpilbbaaDoor.Hub
