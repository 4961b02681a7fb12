/-
  Plain facts on the numbers that spec.DrawSignPut draws, reckoned one by one: what stands for a number in marked text is that sign, or nothing where the number is none; and what laws.hbDec writes of each.
-/
import Derived.Test.YtbcledidadjddaaDoorDecAny
import Derived.Test.YtbcledidadjddaaDoorUnSpecB
namespace Go.Proofs.YtbcledidadjddaaDoor.Hub
open Go.RowKit
set_option linter.unusedVariables false

/-- A number's figures, of the numbers that are drawn. -/
def decT (n : Int) : ByteArray := if n = -1 then ⟨#[45]⟩ ++ ofL [UInt8.ofNat (48 + 1)] else ofL (decL 8 n.toNat)
/-- How a sign is told by its number. -/
def tellT (n : Int) : ByteArray := ⟨#[38, 35]⟩ ++ decT n ++ ⟨#[59]⟩
def signOk (n : Int) : Bool := (unT (tellT n)).1.data.toList == (putS n).data.toList && ((unT (tellT n)).2 == signB n) && okT (putS n) && (signB n == !(putS n).toList.isEmpty) && decide ((tellT n).size ≤ 100) && decide (n = -1 ∨ (0 ≤ n ∧ n < 1000000000))
theorem sign_all : (nums.all fun n => signOk n) = true := by kernel_rfl
theorem sign_any {n : Int} (h : n ∈ nums) : unT (tellT n) = (putS n, signB n) ∧ okT (putS n) = true ∧ (putS n).toList.isEmpty = !signB n ∧ (tellT n).size ≤ 100 ∧ (n = -1 ∨ (0 ≤ n ∧ n < 1000000000)) := by
  have h1 := List.all_eq_true.1 sign_all n h
  unfold signOk at h1
  simp only [Bool.and_eq_true, beq_iff_eq, decide_eq_true_eq] at h1
  obtain ⟨⟨⟨⟨⟨a, b⟩, c⟩, d⟩, e⟩, f⟩ := h1
  refine ⟨Prod.ext (WideShapes.bytes_inj a) b, c, ?_, e, f⟩
  rw [d, Bool.not_not]
theorem dec_drawn (n : Int) (h : n = -1 ∨ (0 ≤ n ∧ n < 1000000000)) (w : World) :
    Calls Tryd.prog 21 #[.int .i64 n] w fun e w' => e = .returned (.string (decT n)) ∧ Below w.heap.size w w' := by
  rcases h with rfl | ⟨h0, h1⟩
  · exact dec_neg 1 (by omega) (by omega) w
  · obtain ⟨m, rfl⟩ : ∃ m : Nat, n = (m : Int) := ⟨n.toNat, by omega⟩
    have e : decT (m : Int) = ofL (decL 8 m) := by unfold decT; rw [if_neg (by omega)]; rfl
    rw [e]
    exact dec_any 8 m (by show m < 1000000000; omega) (by omega) w
end Go.Proofs.YtbcledidadjddaaDoor.Hub
