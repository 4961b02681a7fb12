/-
  Which words are told already, and how often each came: plain lemmas on a map of counts.
-/
import Derived.Test.YtlonpaigfalbkaaDoorRunsD
import Derived.Maps.OwnIn
import Derived.RangeFuncBox
import Derived.StringKeys
import Derived.Test.YtlonpaigfalbkaaDoorRangeBox
namespace Go.Proofs.YtlonpaigfalbkaaDoor.Hub
open Go.RowKit Go.Maps
set_option linter.unusedVariables false
set_option linter.unusedSimpArgs false

theorem findW_neg (L : List ByteArray) (X : ByteArray) : ∀ f k, (findW (gt L) X f k < 0 ↔ ∀ j, k ≤ j → j < k + f → gt L j ≠ X)
  | 0, k => ⟨fun _ j h1 h2 => absurd h2 (by omega), fun _ => by unfold findW; decide⟩
  | f + 1, k => by
    rw [findW]
    by_cases h : gt L k = X
    · have e : ((gt L k).toList == X.toList) = true := by rw [h]; simp
      rw [if_pos e]
      constructor
      · intro h9; omega
      · intro h9; exact absurd h (h9 k (Nat.le_refl _) (by omega))
    · have e : ¬ ((gt L k).toList == X.toList) = true := by
        intro e
        have e2 := eq_of_beq e
        rw [ByteArray.toList_eq, ByteArray.toList_eq] at e2
        exact h (Go.WideShapes.bytes_inj e2)
      rw [if_neg e, findW_neg L X f (k + 1)]
      constructor
      · intro h9 j h1 h2
        by_cases e9 : j = k
        · subst e9; exact h
        · exact h9 j (by omega) (by omega)
      · intro h9 j h1 h2
        exact h9 j (by omega) (by omega)
theorem gt_mem (L : List ByteArray) (X : ByteArray) : (∀ j, 0 ≤ j → j < 0 + L.length → gt L j ≠ X) ↔ X ∉ L := by
  constructor
  · intro h hm
    obtain ⟨j, hj, e⟩ := List.mem_iff_getElem.1 hm
    refine h j (Nat.zero_le _) (by omega) ?_
    unfold gt
    rw [List.getD_eq_getElem?_getD, List.getElem?_eq_getElem hj]
    exact e
  · intro h j _ hj e
    apply h
    have hj2 : j < L.length := by omega
    unfold gt at e
    rw [List.getD_eq_getElem?_getD, List.getElem?_eq_getElem hj2] at e
    rw [← e]
    exact List.getElem_mem hj2
theorem addW_new (L : List ByteArray) (X : ByteArray) (hX : X ≠ ⟨#[]⟩) (h : X ∉ L) : addW L X = L ++ [X] := by
  unfold addW
  rw [if_neg hX, if_pos ((findW_neg L X _ _).2 ((gt_mem L X).2 h))]
theorem addW_old (L : List ByteArray) (X : ByteArray) (h : X ∈ L) : addW L X = L := by
  unfold addW
  split
  · rfl
  · rw [if_neg]
    intro h9
    exact (gt_mem L X).1 ((findW_neg L X _ _).1 h9) h
/-- The words that a list of runs leaves. -/
def wl (rs : List ByteArray) : List ByteArray := rs.foldl (fun L r => addW L (foldT r)) []
theorem wl_snoc (rs : List ByteArray) (r : ByteArray) : wl (rs ++ [r]) = addW (wl rs) (foldT r) := by unfold wl; rw [List.foldl_append]; rfl
theorem wl_len : ∀ rs, (wl rs).length ≤ rs.length := by
  intro rs
  unfold wl
  have : ∀ (rs L : List ByteArray), (rs.foldl (fun L r => addW L (foldT r)) L).length ≤ L.length + rs.length := by
    intro rs
    induction rs with
    | nil => intro L; simp
    | cons r rs ih =>
      intro L
      have h1 := ih (addW L (foldT r))
      have h2 : (addW L (foldT r)).length ≤ L.length + 1 := by
        unfold addW
        split
        · omega
        · split
          · simp
          · omega
      rw [List.foldl_cons, List.length_cons]
      omega
  have := this rs []
  simpa using this
/-- What the map of counts says. -/
def InvD (D : DataW Unit) (L : List ByteArray) (n : Nat) : Prop :=
  IsMap D ∧ ∀ X : ByteArray, ∃ c : Int, D.atKey (.string X.data.toList) (.lit (.int .i64 0)) = .lit (.int .i64 c) ∧ 0 ≤ c ∧ c ≤ n ∧ (c = 0 ↔ X ∉ L)
theorem inv_nil : InvD (.map []) [] 0 := ⟨isMap_empty, fun X => ⟨0, rfl, by omega, by omega, by simp⟩⟩
theorem isMap_put {D : DataW Unit} (h : IsMap D) (k : Lit) (d : DataW Unit) : IsMap (D.put k d) := by obtain ⟨es, rfl⟩ := h; exact ⟨_, rfl⟩
theorem inv_step {D : DataW Unit} {L : List ByteArray} {n : Nat} (h : InvD D L n) (X : ByteArray) (hX : X ≠ ⟨#[]⟩) (c : Int) (hc : D.atKey (.string X.data.toList) (.lit (.int .i64 0)) = .lit (.int .i64 c)) :
    InvD (D.put (.string X.data.toList) (.lit (.int .i64 (c + 1)))) (addW L X) (n + 1) := by
  refine ⟨isMap_put h.1 _ _, fun Y => ?_⟩
  by_cases e : Y = X
  · subst e
    obtain ⟨c2, h1, h2, h3, h4⟩ := h.2 Y
    rw [hc] at h1
    simp only [DataW.lit.injEq, Lit.int.injEq, true_and] at h1
    subst h1
    refine ⟨c + 1, atKey_put_same (k := .string Y.data.toList) h.1 trivial _ _, by omega, by omega, ?_⟩
    constructor
    · intro h9; omega
    · intro h9
      exfalso
      apply h9
      by_cases hm : Y ∈ L
      · rw [addW_old L Y hm]; exact hm
      · rw [addW_new L Y hX hm]; simp
  · obtain ⟨c2, h1, h2, h3, h4⟩ := h.2 Y
    have hne : Lit.string Y.data.toList ≠ Lit.string X.data.toList := by
      intro h9
      simp only [Lit.string.injEq] at h9
      exact e (Go.WideShapes.bytes_inj h9)
    refine ⟨c2, by rw [atKey_put_other hne]; exact h1, h2, by omega, ?_⟩
    rw [h4]
    by_cases hm : X ∈ L
    · rw [addW_old L X hm]
    · rw [addW_new L X hX hm]
      simp [e]
/-- A list's own row takes one more: what lies below the row's base stays as it lay, but for the list's box. -/
theorem row_step {W w1 : World} {n₀ base B : Nat} {t e : TypeId} {size : Nat} {v v' : Value} {k m : Nat} {xs ys : List Value} {tmp : Obj}
    (hv : Boxed W B t v) (hte : t ≠ e) (hrow : W.ownsRow base e size v k xs) (hn₀ : n₀ ≤ base) (hle : base ≤ W.heap.size) (hB : n₀ ≤ B)
    (hown' : w1.ownsRow base e size v' m ys) (hgrow : (W.alloc tmp).grownBy w1 v.ownBlock) :
    Boxed w1 B t v ∧ Boxed (w1.setCell ⟨B, 0, none⟩ v') B t v' ∧ (w1.setCell ⟨B, 0, none⟩ v').ownsRow base e size v' m ys ∧ KeepsOthers W (w1.setCell ⟨B, 0, none⟩ v') ∧ Below n₀ W (w1.setCell ⟨B, 0, none⟩ v') ∧ (∀ b, b < base → b ≠ B → (w1.setCell ⟨B, 0, none⟩ v').heap[b]? = W.heap[b]?) := by
  have hv1 : Boxed w1 B t v := (hv.alloc tmp).kept hgrow (hv.not_row hte hrow)
  have hg : ∀ j, v.ownBlock = some j → base ≤ j := by
    intro j ej
    rcases hrow.2 with ⟨rfl, _⟩ | ⟨g, cap, cur, rfl, hb, _, _⟩
    · simp [Value.ownBlock] at ej
    · obtain rfl : g = j := by simpa [Value.ownBlock] using ej
      exact hb
  refine ⟨hv1, hv1.set v', hown'.kept (grownBy_setCell' w1 B v') (.inr (hv1.not_row hte hown').symm), ?_, ?_, ?_⟩
  · refine ((KeepsOthers.alloc W tmp).trans (KeepsOthers.of_grownBy hgrow fun j o ej hj => ?_)).trans (KeepsOthers.setCell _ _ _)
    rcases (hrow.alloc tmp).2 with ⟨rfl, _⟩ | ⟨g, cap, cur, rfl, _, hgb, _⟩
    · simp [Value.ownBlock] at ej
    · obtain rfl : g = j := by simpa [Value.ownBlock] using ej
      rw [hgb] at hj; cases hj; rfl
  · refine (((Below.refl n₀ W).alloc (by omega) tmp).grown hgrow (by simp; omega) fun j ej => ?_).setCell (p := ⟨B, 0, none⟩) hB v'
    have := hg j ej; omega
  · intro b hb hne
    rw [heap_setCell_ne w1 B b v' hne]
    have h1 : (W.alloc tmp).heap[b]? = W.heap[b]? := Below.heap_alloc W tmp b (by omega)
    rw [← h1]
    exact hgrow.block b (by simp; omega) (fun e => by have := hg b e.symm; omega)
end Go.Proofs.YtlonpaigfalbkaaDoor.Hub
