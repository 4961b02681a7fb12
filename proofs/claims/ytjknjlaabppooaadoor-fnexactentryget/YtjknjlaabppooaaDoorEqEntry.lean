/-
  The law's eqEntry: an entry is the same as itself.
-/
import Derived.Test.YtjknjlaabppooaaDoorEntrySpec
namespace Go.Proofs.YtjknjlaabppooaaDoor.Hub
open Go.RowKit
set_option linter.unusedVariables false

set_option maxRecDepth 100000 in
set_option maxHeartbeats 4000000 in
theorem eqEntry_same (r : ByteArray) (q k : Int) (u n t i f : ByteArray) (m : Int) (w : World) :
    Calls Tryd.prog 6 #[entV r q k u n t i f m, entV r q k u n t i f m] w fun e w' => e = .returned (.bool true) ∧ Below w.heap.size w w' := by
  go_enter Tryd.func6, Tryd.ntmps6
  go_wp2_with fail
  go_ret
  exact ⟨rfl, ((Below.refl _ w).alloc (Nat.le_refl _) _).alloc (by simp) _⟩
end Go.Proofs.YtjknjlaabppooaaDoor.Hub
