/-
  The law's own toEntry and szEntry, and impl.bareEntry, at every entry.
-/
import Derived.Test.YtglbjibilllopaaDoorEntryPlain
namespace Go.Proofs.YtglbjibilllopaaDoor.Hub
open Go.RowKit
set_option linter.unusedVariables false

end Go.Proofs.YtglbjibilllopaaDoor.Hub
