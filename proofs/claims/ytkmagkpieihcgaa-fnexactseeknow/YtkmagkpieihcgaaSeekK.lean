/-
  The keys of the program's map of places: a user and a mark.
-/
import Derived.Test.YtkmagkpieihcgaaNowS
import Derived.Maps.OwnSet
import Derived.DeepKeys4
namespace Go.Proofs.Ytkmagkpieihcgaa.Hub
open Go.RowKit Go.Maps Go.WideMaps Go.ChangeMaps
set_option linter.unusedVariables false
set_option linter.unusedSimpArgs false

theorem laidK : laidOutB Try.prog = true := by kernel_rfl
theorem lawK : KeyLaw Try.prog 38 := deep_law_laid laidK (m := 2) (by omega) (of_decide_eq_true (by kernel_rfl)) (by kernel_rfl) (by kernel_rfl)
theorem keyedK : Keyed Try.prog 38 := Keyed.of_law lawK
/-- The key of a user and a mark. -/
def klit (u i : ByteArray) : Lit := .string (keyBytes [.string u.data.toList, .string i.data.toList])
theorem klit_key (u i : ByteArray) (hu : u.size ≤ maxLen) (hi : i.size ≤ maxLen) : keyOf Try.prog 38 (.agg #[.string u, .string i]) = some (klit u i) := by
  have k1 : Try.prog.keyType 38 = true := by kernel_rfl
  have k2 : (Value.agg #[.string u, .string i]).formed Try.prog 38 = true := by
    simp [Value.formed, Try.underlying38]
    kernel_rfl
  unfold keyOf
  simp only [Try.underlying38, k1, k2]
  obtain ⟨d, hd⟩ : ∃ d, Try.prog.types.size = d + 1 := ⟨Try.prog.types.size - 1, by
    have : 0 < Try.prog.types.size := of_decide_eq_true (by kernel_rfl)
    omega⟩
  rw [hd]
  have c1 : Try.prog.cellsOf 38 = 2 := by kernel_rfl
  have c2 : Try.prog.cellsOf 9 = 1 := by kernel_rfl
  have e1 : ∀ (s : ByteArray), s.size ≤ maxLen → Try.prog.keyLits (d + 1) 9 [.string s] = some [.string s.data.toList] := fun s hs => by
    unfold Program.keyLits
    simp only [Try.underlying9]
    rw [if_pos hs]
  have e2 : Try.prog.keyLits (d + 1 + 1) 38 (Value.agg #[Value.string u, Value.string i]).cells.toList = some [.string u.data.toList, .string i.data.toList] := by
    unfold Program.keyLits
    simp only [Try.underlying38]
    have hl : (Value.agg #[Value.string u, Value.string i]).cells.toList = [Value.string u, Value.string i] := rfl
    rw [hl]
    simp [c1, c2, e1 u hu, e1 i hi]
  rw [e2]
  rfl
theorem klit_lit (u i : ByteArray) (hu : u.size ≤ maxLen) (hi : i.size ≤ maxLen) : WideAt.IsKeyLit (klit u i) := trivial
theorem klit_inj {u i u' i' : ByteArray} (hu : u.size ≤ maxLen) (hi : i.size ≤ maxLen) (hu' : u'.size ≤ maxLen) (hi' : i'.size ≤ maxLen) (h : klit u i = klit u' i') : u = u' ∧ i = i' := by
  have e1 := klit_key u i hu hi
  have e2 := klit_key u' i' hu' hi'
  rw [h] at e1
  have := keyedK.inj e1 e2
  simpa using this
def pkE (u i : ByteArray) : EntX := ⟨⟨#[]⟩, 0, 0, u, ⟨#[]⟩, ⟨#[]⟩, ⟨#[]⟩, i, 0⟩
theorem firstD_pk (E : Nat → EntX) (e : EntX) : ∀ n, firstD E e n = firstD E (pkE e.user e.ref) n
  | 0 => rfl
  | n + 1 => by unfold firstD; rw [firstD_pk E e n]; rfl
theorem firstD_congr (E E' : Nat → EntX) (e : EntX) : ∀ n, (∀ j, j < n → matchE e (E j) = matchE e (E' j)) → firstD E e n = firstD E' e n
  | 0, _ => rfl
  | n + 1, h => by unfold firstD; rw [h n (by omega), firstD_congr E E' e n (fun j hj => h j (by omega))]
/-- What the map of places says of a list. -/
def InvP (D : DataW Unit) (L : List EntX) : Prop :=
  IsMap D ∧ ∀ u i : ByteArray, u.size ≤ maxLen → i.size ≤ maxLen → (firstD (gtEnt L) (pkE u i) L.length < 0 → has D (klit u i) = false) ∧ (0 ≤ firstD (gtEnt L) (pkE u i) L.length → has D (klit u i) = true ∧ D.atKey (klit u i) (.lit (.int .i64 0)) = .lit (.int .i64 (firstD (gtEnt L) (pkE u i) L.length)))
theorem invP_nil : InvP (.map []) [] := ⟨isMap_empty, fun u i _ _ => ⟨fun _ => rfl, fun h => absurd h (by unfold firstD; simp)⟩⟩
theorem first_snoc (L : List EntX) (e p : EntX) : firstD (gtEnt (L ++ [e])) p (L ++ [e]).length = if matchE p e then (L.length : Int) else firstD (gtEnt L) p L.length := by
  have hl : (L ++ [e]).length = L.length + 1 := by simp
  rw [hl]
  unfold firstD
  rw [gtEnt_end, firstD_congr _ (gtEnt L) p L.length (fun j hj => by rw [gtEnt_app L e j hj])]
  cases L <;> rfl
theorem invP_other {D : DataW Unit} {L : List EntX} (h : InvP D L) (e : EntX) (he : (e.ref.toList == []) = false) : InvP D (L ++ [e]) := by
  refine ⟨h.1, fun u i hu hi => ?_⟩
  have hm : matchE (pkE u i) e = false := by unfold matchE; rw [he]; simp
  rw [first_snoc, hm]
  exact h.2 u i hu hi
theorem invP_text {D : DataW Unit} {L : List EntX} (h : InvP D L) (m : Nat) (t : ByteArray) : InvP D (textAt L m t) := by
  refine ⟨h.1, fun u i hu hi => ?_⟩
  have e : firstD (gtEnt (textAt L m t)) (pkE u i) (textAt L m t).length = firstD (gtEnt L) (pkE u i) L.length := by
    rw [textAt_len]
    refine firstD_congr _ _ _ _ (fun j hj => ?_)
    rw [textAt_at L m j t hj]
    by_cases ej : j = m
    · subst ej; rw [if_pos rfl]; rfl
    · rw [if_neg ej]
  rw [e]
  exact h.2 u i hu hi
theorem invP_put {D : DataW Unit} {L : List EntX} (h : InvP D L) (e : EntX) (he : (e.ref.toList == []) = true) (hu0 : e.user.size ≤ maxLen) (hi0 : e.id.size ≤ maxLen) : InvP (D.put (klit e.user e.id) (.lit (.int .i64 (L.length : Int)))) (L ++ [e]) := by
  refine ⟨by obtain ⟨es, rfl⟩ := h.1; exact ⟨_, rfl⟩, fun u i hu hi => ?_⟩
  rw [first_snoc]
  by_cases hq : e.user = u ∧ e.id = i
  · obtain ⟨rfl, rfl⟩ := hq
    have hm : matchE (pkE e.user e.id) e = true := by unfold matchE pkE; rw [he]; simp
    rw [hm]
    refine ⟨fun h9 => absurd h9 (by simp), fun _ => ⟨has_put_same h.1 (klit_lit _ _ hu hi) _, ?_⟩⟩
    rw [atKey_put_same h.1 (klit_lit _ _ hu hi)]
    rfl
  · have hm : matchE (pkE u i) e = false := by
      unfold matchE pkE
      by_cases h1 : e.user = u
      · have h2 : e.id ≠ i := fun h2 => hq ⟨h1, h2⟩
        have : (e.id.toList == i.toList) = false := by
          apply beq_eq_false_iff_ne.2
          intro h9
          rw [ByteArray.toList_eq, ByteArray.toList_eq] at h9
          exact h2 (Go.WideShapes.bytes_inj h9)
        simp [this]
      · have : (e.user.toList == u.toList) = false := by
          apply beq_eq_false_iff_ne.2
          intro h9
          rw [ByteArray.toList_eq, ByteArray.toList_eq] at h9
          exact h1 (Go.WideShapes.bytes_inj h9)
        simp [this]
    have hne : klit u i ≠ klit e.user e.id := fun h9 => by
      obtain ⟨a, b⟩ := klit_inj hu hi hu0 hi0 h9
      exact hq ⟨a.symm, b.symm⟩
    rw [hm, has_put_other hne, atKey_put_other hne]
    exact h.2 u i hu hi
end Go.Proofs.Ytkmagkpieihcgaa.Hub
