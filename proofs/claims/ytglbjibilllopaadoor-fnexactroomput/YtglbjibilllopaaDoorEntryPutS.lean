/-
  How the model writes an entry whose parts are small.
-/
import Derived.Test.YtglbjibilllopaaDoorEntryText
import Derived.Test.YtglbjibilllopaaDoorEntryPlain
import Derived.Deep.RegionHeld3
namespace Go.Proofs.YtglbjibilllopaaDoor.Hub
open Go.RowKit
set_option linter.unusedVariables false

/-- An entry, written. -/
def putT (r : ByteArray) (q k : Nat) (u n t i f : ByteArray) (m : Nat) : ByteArray :=
  decB 3 q ++ ⟨#[124]⟩ ++ decB 0 k ++ ⟨#[124]⟩ ++ r ++ ⟨#[124]⟩ ++ u ++ ⟨#[124]⟩ ++ fieldT n ++ ⟨#[124]⟩ ++ fieldT t ++ ⟨#[124]⟩ ++ fieldT i ++ ⟨#[124]⟩ ++ fieldT f ++ ⟨#[124]⟩ ++ decB 0 m

end Go.Proofs.YtglbjibilllopaaDoor.Hub
