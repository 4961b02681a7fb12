/-
  Plain facts on the texts that the laws draw, reckoned: where one that is ok is cut within a sign, neither piece is ok, and anywhere else both are.
-/
import Derived.Test.YtkacbbkpglmibaaDoorDrawB
import Derived.Test.YtkacbbkpglmibaaDoorTextSpec
namespace Go.Proofs.YtkacbbkpglmibaaDoor.Hub
open Go.RowKit
set_option linter.unusedVariables false

/-- Whether a place lies within a sign. -/
def withinB (s : ByteArray) (k : Nat) : Bool := decide (k < s.size) && (decide (128 ≤ (s.get! k).toNat) && decide ((s.get! k).toNat < 192))

def cutOk (s : ByteArray) : Bool := !okT s || (List.range (s.size + 1)).all fun k => (okT (s.extract 0 k) == !withinB s k) && (okT (s.extract k s.size) == !withinB s k)
def endsD : List ByteArray := [⟨#[]⟩, ⟨#[0]⟩, ⟨#[195]⟩, ⟨#[237, 160, 128]⟩, ⟨#[244, 144, 128, 128]⟩, ⟨#[192, 128]⟩, ⟨#[11]⟩, ⟨#[239, 191, 190]⟩, ⟨#[226, 130]⟩]
theorem ends_mem {t : ByteArray} (h : t ∈ ends) : t ∈ endsD := by
  simp only [ends, List.mem_cons, List.mem_nil_iff, or_false] at h
  simp only [endsD, List.mem_cons, List.mem_nil_iff, or_false]
  rcases h with h | h | h | h | h | h | h | h | h | h | h <;> simp [h]
set_option maxRecDepth 100000 in
theorem cut_all : (texts.all fun a => endsD.all fun t => cutOk (a ++ t)) = true := by kernel_rfl
theorem cut_any {a t : ByteArray} (ha : a ∈ texts) (ht : t ∈ ends) (hok : okT (a ++ t) = true) (k : Nat) (hk : k ≤ (a ++ t).size) :
    okT ((a ++ t).extract 0 k) = !withinB (a ++ t) k ∧ okT ((a ++ t).extract k (a ++ t).size) = !withinB (a ++ t) k := by
  have h := List.all_eq_true.1 (List.all_eq_true.1 cut_all a ha) t (ends_mem ht)
  unfold cutOk at h
  rw [hok] at h
  simp only [Bool.not_true, Bool.false_or] at h
  have h2 := List.all_eq_true.1 h k (List.mem_range.2 (by omega))
  simp only [Bool.and_eq_true, beq_iff_eq] at h2
  exact h2
end Go.Proofs.YtkacbbkpglmibaaDoor.Hub
