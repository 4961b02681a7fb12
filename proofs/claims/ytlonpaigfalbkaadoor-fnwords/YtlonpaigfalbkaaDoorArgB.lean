/-
  A slice of bytes reads as it did in a greater world.
-/
import Derived.Test.YtlonpaigfalbkaaDoorArg
namespace Go.Proofs.YtlonpaigfalbkaaDoor.Hub
open Go.RowKit
theorem BytesAt.wider {n₀ m n : Nat} {W : World} {v : Value} (h : BytesAt n₀ W v n) (hm : n₀ ≤ m) : BytesAt m W v n := by
  rcases h with h | ⟨b, off, cap, hv, hc, hlt, hz⟩
  · exact .inl h
  · exact .inr ⟨b, off, cap, hv, hc, Nat.lt_of_lt_of_le hlt hm, hz⟩
end Go.Proofs.YtlonpaigfalbkaaDoor.Hub
