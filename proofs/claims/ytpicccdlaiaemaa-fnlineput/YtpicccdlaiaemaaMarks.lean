/-
  The law's own markText, markStringS, heldStringS, markLine, heldLine: what is marked is held, and nothing else is written.
-/
import Derived.Test.YtpicccdlaiaemaaLineBase
import Derived.Laws.BytesArg
namespace Go.Proofs.Ytpicccdlaiaemaa.Hub
open Go.RowKit
set_option linter.unusedVariables false

/-- The figures of k ahead of a text. -/
def digF : Nat → Nat → ByteArray → ByteArray
  | 0, _, out => out
  | f + 1, k, out => if k = 0 then out else digF f (k / 10) (strOfNums [48 + (k : Int) % 10] ++ out)
/-- A mark. -/
def markT (k : Nat) : ByteArray := if k = 0 then ⟨#[109, 48]⟩ else ⟨#[109]⟩ ++ digF k k ⟨#[]⟩
theorem strOfNums_one (a : Int) : (strOfNums [a]).size = 1 := by simp [strOfNums, ByteArray.size]

theorem conv_mark (w : World) (a : Int) : (convert 22 9 (.slice (some ⟨w.heap.size, 0, none⟩) 1 1)).run Try.prog (w.alloc (.cells #[.int .u8 a] 5)) = .ok (.string (strOfNums [a])) (w.alloc (.cells #[.int .u8 a] 5)) :=
  run_convert_bytes_arg _ 22 5 Try.underlying22 Try.underlying5 _ _ 1 1 [a] rfl (fun i hi => by
    rw [line_cell]; obtain rfl : i = 0 := by simpa using hi
    rfl) 9 Try.underlying9

end Go.Proofs.Ytpicccdlaiaemaa.Hub
