/-
  What the program's looseStep says of the step with which a text begins: plain lemmas.
-/
import Derived.Test.YtocpbcghkphcgaaGetLD
import Derived.Test.YtocpbcghkphcgaaAnyP
import Derived.Lib.IndexMore
import Derived.Lib.Strings
namespace Go.Proofs.Ytocpbcghkphcgaa.Hub
set_option linter.unusedVariables false
set_option linter.unusedSimpArgs false

theorem any_run (y : List UInt8) : ∀ x : List UInt8, (∀ c ∈ x, ([47, 91] : List UInt8).contains c = false) → Lib.indexAny (x ++ y) [47, 91] = if Lib.indexAny y [47, 91] = -1 then -1 else Lib.indexAny y [47, 91] + (x.length : Int)
  | [], _ => by
    rw [List.nil_append]
    split
    · assumption
    · simp
  | b :: x, h => by
    have ih := any_run y x (fun c hc => h c (List.mem_cons_of_mem _ hc))
    have hb := h b (by simp)
    rw [List.cons_append]
    have heq : Lib.indexAny (b :: (x ++ y)) [47, 91] = if ([47, 91] : List UInt8).contains b = true then (0 : Int) else if (Lib.indexAny (x ++ y) [47, 91] == -1) = true then -1 else Lib.indexAny (x ++ y) [47, 91] + 1 := rfl
    rw [heq, if_neg (by rw [hb]; decide), ih]
    have hge := Lib.indexAny_ge [47, 91] y
    by_cases hy : Lib.indexAny y [47, 91] = -1
    · rw [if_pos hy, if_pos hy]; rfl
    · rw [if_neg hy, if_neg hy]
      have : (Lib.indexAny y [47, 91] + (x.length : Int) == -1) = false := beq_eq_false_iff_ne.2 (by omega)
      rw [this]
      simp only [List.length_cons, Bool.false_eq_true, if_false]
      omega
theorem cut_first {c1 c2 : UInt8} {x y : List UInt8} (h : c1 ∉ x) : Lib.cut (x ++ c1 :: c2 :: y) [c1, c2] = (x, y, true) := by
  have hi : Lib.index (x ++ c1 :: c2 :: y) [c1, c2] = (x.length : Int) := by
    refine Lib.index_first (by simp) ?_ ?_
    · unfold Lib.occAt
      rw [List.drop_left]
      simp [List.isPrefixOf]
    · intro j hj
      unfold Lib.occAt
      rw [List.drop_append_of_le_length (by omega), List.drop_eq_getElem_cons hj]
      have hne : c1 ≠ x[j] := fun e => h (e ▸ List.getElem_mem hj)
      have : (c1 == x[j]) = false := by simpa using hne
      show (c1 == x[j] && _) = false
      rw [this]
      rfl
  unfold Lib.cut
  rw [hi, if_pos (by omega)]
  have e1 : ((x.length : Int)).toNat = x.length := by omega
  rw [e1, List.take_left]
  have e2 : (x ++ c1 :: c2 :: y).drop (x.length + [c1, c2].length) = y := by
    rw [← List.drop_drop, List.drop_left]
    rfl
  rw [e2]
theorem cut_len (s sep : List UInt8) : (Lib.cut s sep).1.length ≤ s.length ∧ (Lib.cut s sep).2.1.length ≤ s.length := by
  unfold Lib.cut
  split
  · refine ⟨?_, ?_⟩
    · show (s.take _).length ≤ _; rw [List.length_take]; omega
    · show (s.drop _).length ≤ _; rw [List.length_drop]; omega
  · exact ⟨Nat.le_refl _, by simp⟩
/-- What is left behind the stroke or the strokes. -/
def restI (l : List UInt8) : List UInt8 := if Lib.hasPrefix l [47, 47] = true then l.drop 2 else Lib.trimPrefix l [47]
theorem has2_yes (q : List UInt8) : Lib.hasPrefix (47 :: 47 :: q) [47, 47] = true := by simp [Lib.hasPrefix, List.isPrefixOf]
theorem has2_no0 {c : UInt8} (q : List UInt8) (h : c ≠ 47) : Lib.hasPrefix (c :: q) [47, 47] = false := by
  have h2 : ((47 : UInt8) == c) = false := by simpa using Ne.symm h
  unfold Lib.hasPrefix
  simp [List.isPrefixOf, h2]
theorem has2_no1 {c : UInt8} (q : List UInt8) (h : c ≠ 47) : Lib.hasPrefix (47 :: c :: q) [47, 47] = false := by
  have h2 : ((47 : UInt8) == c) = false := by simpa using Ne.symm h
  unfold Lib.hasPrefix
  cases q <;> simp [List.isPrefixOf, h2]
theorem trim1_yes (q : List UInt8) : Lib.trimPrefix (47 :: q) [47] = q := by simp [Lib.trimPrefix, Lib.hasPrefix, List.isPrefixOf]
theorem trim1_no {c : UInt8} (q : List UInt8) (h : c ≠ 47) : Lib.trimPrefix (c :: q) [47] = c :: q := by
  have h2 : ((47 : UInt8) == c) = false := by simpa using Ne.symm h
  simp [Lib.trimPrefix, Lib.hasPrefix, List.isPrefixOf, h2]
theorem rest_of {l : List UInt8} {i : Nat} {d9 : Bool} {n9 a9 t9 : ByteArray} {r9 : List UInt8} (hs : stepT n9 a9 t9 = true) (h9 : l = stepL i d9 n9 a9 t9 ++ r9) : Lib.hasPrefix l [47, 47] = d9 ∧ restI l = n9.data.toList ++ (tailL a9 t9 ++ r9) := by
  have e9 : l = headL i d9 ++ (n9.data.toList ++ (tailL a9 t9 ++ r9)) := by rw [h9, stepL_parts]; simp [List.append_assoc]
  obtain ⟨m1, m2⟩ := step_name hs
  cases hc : n9.data.toList with
  | nil => exact absurd hc m2
  | cons c q =>
    have hc47 := (nm_ne (m1 c (by rw [hc]; simp))).1
    rw [hc] at e9
    unfold restI headL at *
    cases d9
    · rw [if_neg (by decide)] at e9
      by_cases hi : 0 < i
      · rw [if_pos hi] at e9
        have e : l = 47 :: c :: (q ++ (tailL a9 t9 ++ r9)) := e9
        rw [e, has2_no1 _ hc47, if_neg (by decide), trim1_yes]
        exact ⟨rfl, rfl⟩
      · rw [if_neg hi] at e9
        have e : l = c :: (q ++ (tailL a9 t9 ++ r9)) := e9
        rw [e, has2_no0 _ hc47, if_neg (by decide), trim1_no _ hc47]
        exact ⟨rfl, rfl⟩
    · rw [if_pos rfl] at e9
      have e : l = 47 :: 47 :: (c :: q ++ (tailL a9 t9 ++ r9)) := e9
      rw [e, has2_yes, if_pos rfl]
      exact ⟨rfl, rfl⟩
/-- Where the name ends. -/
def endI (r : ByteArray) (z : Int) : Nat := if z < 0 then r.size else z.toNat
theorem name_of {l : List UInt8} {R : ByteArray} {z : Int} (hR : R.data.toList = restI l) (hz : AnyAt R z) {i : Nat} {d9 : Bool} {n9 a9 t9 : ByteArray} {r9 : List UInt8} (hs : stepT n9 a9 t9 = true) (he : StepEnd r9) (h9 : l = stepL i d9 n9 a9 t9 ++ r9) (hlow : ∀ c ∈ l, c.toNat < 128) :
    Lib.hasPrefix l [47, 47] = d9 ∧ R.data.toList.take (endI R z) = n9.data.toList ∧ R.data.toList.drop (endI R z) = tailL a9 t9 ++ r9 := by
  obtain ⟨h1, h2⟩ := rest_of hs h9
  have hRR : R.data.toList = n9.data.toList ++ (tailL a9 t9 ++ r9) := hR.trans h2
  have hlR : ∀ c ∈ R.data.toList, c.toNat < 128 := by
    intro c hc
    refine hlow c ?_
    have e9 : l = headL i d9 ++ (n9.data.toList ++ (tailL a9 t9 ++ r9)) := by rw [h9, stepL_parts]; simp [List.append_assoc]
    rw [e9, ← hRR]
    exact List.mem_append_right _ hc
  have hz2 := hz.2 hlR
  have hno : ∀ c ∈ n9.data.toList, ([47, 91] : List UInt8).contains c = false := by
    intro c hc
    have h3 := nm_ne ((step_name hs).1 c hc)
    simp [h3.1, h3.2.1]
  rw [hRR, any_run _ _ hno] at hz2
  have hl : R.data.toList.length = R.size := rfl
  have hn : n9.data.toList.length = n9.size := rfl
  have hend : endI R z = n9.data.toList.length := by
    unfold endI
    cases ht : tailL a9 t9 ++ r9 with
    | nil =>
      rw [ht] at hz2
      have : z = -1 := by rw [hz2]; rfl
      rw [if_pos (by omega), ← hl, hRR, ht, List.append_nil]
    | cons c q =>
      have hc : ([47, 91] : List UInt8).contains c = true := by
        unfold tailL at ht
        split at ht
        · rcases he with rfl | ⟨q', rfl⟩
          · cases ht
          · injection ht with e1 _; subst e1; decide
        · injection ht with e1 _; subst e1; decide
      have h0 : Lib.indexAny (c :: q) [47, 91] = 0 := by unfold Lib.indexAny; rw [if_pos hc]
      rw [ht, h0, if_neg (by decide)] at hz2
      rw [if_neg (by omega)]
      omega
  refine ⟨h1, ?_, ?_⟩
  · rw [hend, hRR, List.take_left]
  · rw [hend, hRR, List.drop_left]
section
variable {l : List UInt8} {R : ByteArray} {z : Int} {d : Bool} {n : ByteArray}
theorem leafI {b : List UInt8} (hR : R.data.toList = restI l) (hz : AnyAt R z) (hd : Lib.hasPrefix l [47, 47] = d) (hn : n.data.toList = R.data.toList.take (endI R z)) (hb : b = R.data.toList.drop (endI R z)) (h0 : Lib.hasPrefix b [91] = false) : SaysI l d n ⟨#[]⟩ ⟨#[]⟩ b := by
  intro i d9 n9 a9 t9 r9 hs he h9 hlow
  obtain ⟨h1, h2, h3⟩ := name_of hR hz hs he h9 hlow
  obtain ⟨rfl, h5⟩ := tail_shut (hb.trans h3) (fun q e => by rw [e] at h0; revert h0; simp [Lib.hasPrefix, List.isPrefixOf])
  exact ⟨hd.symm.trans h1, bytes_same (hn.trans h2), rfl, (step_none hs rfl).symm, h5⟩
theorem leafJ {a t : ByteArray} {q : List UInt8} (hR : R.data.toList = restI l) (hz : AnyAt R z) (hd : Lib.hasPrefix l [47, 47] = d) (hn : n.data.toList = R.data.toList.take (endI R z)) (hb : 91 :: q = R.data.toList.drop (endI R z)) (ha : a.data.toList = (Lib.cut q [61, 39]).1) (ht : t.data.toList = (Lib.cut (Lib.cut q [61, 39]).2.1 [39, 93]).1) : SaysI l d n a t (Lib.cut (Lib.cut q [61, 39]).2.1 [39, 93]).2.1 := by
  intro i d9 n9 a9 t9 r9 hs he h9 hlow
  obtain ⟨h1, h2, h3⟩ := name_of hR hz hs he h9 hlow
  obtain ⟨hne, hq⟩ := tail_open he (hb.trans h3)
  have hno := attr_no hs hne
  rw [hq, cut_first hno.1] at ha ht ⊢
  rw [cut_first hno.2] at ht ⊢
  exact ⟨hd.symm.trans h1, bytes_same (hn.trans h2), bytes_same ha, bytes_same ht, rfl⟩
end
end Go.Proofs.Ytocpbcghkphcgaa.Hub
