/-
  The model's l1Next: at a place within a text it answers what begins there, by the bytes from there on: the plain function nextN. No condition but that the place is within the text.
-/
import Derived.Test.YtlonpaigfalbkaaDoorSigns
import Derived.Handy
namespace Go.Proofs.YtlonpaigfalbkaaDoor.Hub
open Go.RowKit
set_option linter.unusedVariables false
theorem ret_two {a b c d : Int} (h1 : a = c) (h2 : b = d) : Ending.returned (.tuple #[.int .i64 a, .int .i64 b]) = .returned (.tuple #[.int .i64 c, .int .i64 d]) := by rw [h1, h2]
theorem finN_yes {n k : Int} (h : signB n = true) : finN n k = (n, k) := by unfold finN; rw [if_pos h]
theorem finN_no {n k : Int} (h : signB n = false) : finN n k = (0, 0) := by unfold finN; rw [h]; rfl

end Go.Proofs.YtlonpaigfalbkaaDoor.Hub
