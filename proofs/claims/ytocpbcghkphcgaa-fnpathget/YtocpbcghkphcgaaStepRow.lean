/-
  Lists of steps of one's own: the program's append, and what is put behind.
-/
import Derived.Test.YtocpbcghkphcgaaRowG
import Derived.Test.YtocpbcghkphcgaaStepBase
namespace Go.Proofs.Ytocpbcghkphcgaa.Hub
open Go.RowKit
set_option linter.unusedVariables false

/-- The cells of a step. -/
abbrev stepC (D : Nat → Bool) (N A T : Nat → ByteArray) : Nat → List Value := fun j => [.bool (D j), .string (N j), .string (A j), .string (T j)]
theorem stepC_len (D : Nat → Bool) (N A T : Nat → ByteArray) : ∀ j, (stepC D N A T j).length = 4 := fun _ => rfl
theorem step_list {W : World} {v : Value} {n : Nat} {D : Nat → Bool} {N A T : Nat → ByteArray} : StepAt W v n D N A T ↔ ListAt W 4 v n (stepC D N A T) := by
  unfold StepAt ListAt
  constructor
  · rintro ⟨o, cap, hv, h1, h2, hc⟩
    refine ⟨o, cap, hv, h1, h2, fun j hj => ?_⟩
    obtain ⟨b, f, ho, hb, c0, c1, c2, c3⟩ := hc j hj
    refine ⟨b, f, ho, hb, fun i hi => ?_⟩
    match i, hi with
    | 0, _ => exact c0
    | 1, _ => exact c1
    | 2, _ => exact c2
    | 3, _ => exact c3
  · rintro ⟨o, cap, hv, h1, h2, hc⟩
    refine ⟨o, cap, hv, h1, h2, fun j hj => ?_⟩
    obtain ⟨b, f, ho, hb, c⟩ := hc j hj
    exact ⟨b, f, ho, hb, c 0 (by omega), c 1 (by omega), c 2 (by omega), c 3 (by omega)⟩
/-- A new list of steps. -/
abbrev OwnS (W : World) (base : Nat) (v : Value) (n : Nat) (D : Nat → Bool) (N A T : Nat → ByteArray) : Prop := OwnL W base 37 4 v n (stepC D N A T)
theorem OwnS.step {W : World} {base : Nat} {v : Value} {n : Nat} {D : Nat → Bool} {N A T : Nat → ByteArray} (h : OwnS W base v n D N A T) : StepAt W v n D N A T := step_list.2 (OwnL.at h (stepC_len _ _ _ _))
/-- One more, at the end. -/
def atN {α : Type} (k : Nat) (x : α) (f : Nat → α) : Nat → α := fun j => if j = k then x else f j
theorem atN_same {α : Type} (k : Nat) (x : α) (f : Nat → α) : atN k x f k = x := if_pos rfl
theorem atN_ne {α : Type} {k j : Nat} (x : α) (f : Nat → α) (h : j < k) : atN k x f j = f j := if_neg (by omega)
theorem own_snoc {W : World} {base k : Nat} {v : Value} {D : Nat → Bool} {N A T : Nat → ByteArray} {d : Bool} {n a t : ByteArray}
    (h : W.ownsRow base 37 4 v (k + 1) (rowVs (stepC D N A T) k ++ rowVs (fun _ => [.bool d, .string n, .string a, .string t]) 1)) : OwnS W base v (k + 1) (atN k d D) (atN k n N) (atN k a A) (atN k t T) := by
  unfold OwnS OwnL
  rw [rowVs_succ]
  have e1 : rowVs (stepC (atN k d D) (atN k n N) (atN k a A) (atN k t T)) k = rowVs (stepC D N A T) k := rowVs_congr k (fun j hj => by simp only [stepC, atN_ne _ _ hj])
  have e2 : rowVs (fun _ => ([.bool d, .string n, .string a, .string t] : List Value)) 1 = stepC (atN k d D) (atN k n N) (atN k a A) (atN k t T) k := by
    rw [rowVs_succ]
    simp [rowVs, stepC, atN_same]
  rw [e1, ← e2]
  exact h
theorem one_step (d : Bool) (n a t : ByteArray) : ∀ u ∈ rowVs (fun _ => ([.bool d, .string n, .string a, .string t] : List Value)) 1, u.oneCell' = true := rowVs_mem (fun j u hu => by
  simp at hu
  rcases hu with rfl | rfl | rfl | rfl <;> rfl) 1
theorem new_step (W : World) (d : Bool) (n a t : ByteArray) : ListAt (W.alloc (.cells #[.bool d, .string n, .string a, .string t] 37)) 4 (.slice (some ⟨W.heap.size, 0, none⟩) 1 1) 1 (fun _ => [.bool d, .string n, .string a, .string t]) := by
  refine ⟨some ⟨W.heap.size, 0, none⟩, 1, rfl, Nat.le_refl _, by unfold maxLen; omega, fun j hj => ⟨W.heap.size, 0, rfl, by simp, fun i hi => ?_⟩⟩
  obtain rfl : j = 0 := by omega
  have h := line_cell W #[.bool d, .string n, .string a, .string t] 37 i
  rw [show 0 + 0 * 4 + i = i by omega, h]
  match i, hi with
  | 0, _ => rfl
  | 1, _ => rfl
  | 2, _ => rfl
  | 3, _ => rfl
theorem info_step : (Try.prog.info? 37).map (fun i => (i.zero, i.size, i.bytes)) = some (some (.agg #[.bool false, .string ⟨#[]⟩, .string ⟨#[]⟩, .string ⟨#[]⟩]), 4, 56) := by kernel_rfl
end Go.Proofs.Ytocpbcghkphcgaa.Hub
