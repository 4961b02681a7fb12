/-
  What a path is read from: plain lemmas on lists of bytes.
-/
import Derived.Test.YtocpbcghkphcgaaPathPutD
import Derived.Lib.IndexMore
import Derived.Lib.IndexAny
import Derived.Lib.Strings
namespace Go.Proofs.Ytocpbcghkphcgaa.Hub
set_option linter.unusedVariables false
set_option linter.unusedSimpArgs false

/-- Two cuttings of a list at the end of a run are one. -/
theorem uniq_run {α : Type} (p : α → Bool) : ∀ (x x' y y' : List α), x ++ y = x' ++ y' → (∀ c ∈ x, p c = true) → (∀ c ∈ x', p c = true) → (∀ c q, y = c :: q → p c = false) → (∀ c q, y' = c :: q → p c = false) → x = x' ∧ y = y'
  | [], [], _, _, h, _, _, _, _ => ⟨rfl, h⟩
  | [], a :: x', y, y', h, _, hx', hy, _ => by
    have h1 := hy a (x' ++ y') h
    have h2 := hx' a (by simp)
    rw [h1] at h2; cases h2
  | a :: x, [], y, y', h, hx, _, _, hy' => by
    have h1 := hy' a (x ++ y) h.symm
    have h2 := hx a (by simp)
    rw [h1] at h2; cases h2
  | a :: x, b :: x', y, y', h, hx, hx', hy, hy' => by
    injection h with h1 h2
    subst h1
    obtain ⟨e1, e2⟩ := uniq_run p x x' y y' h2 (fun c hc => hx c (List.mem_cons_of_mem _ hc)) (fun c hc => hx' c (List.mem_cons_of_mem _ hc)) hy hy'
    exact ⟨by rw [e1], e2⟩
/-- A byte of a name, or a star. -/
def nmB (b : UInt8) : Bool := insB (b.toNat : Int) || decide (b = 42)
theorem nm_ne {c : UInt8} (h : nmB c = true) : c ≠ 47 ∧ c ≠ 91 ∧ c ≠ 61 := by
  refine ⟨?_, ?_, ?_⟩ <;> (rintro rfl; revert h; decide)
theorem nm_small {c : UInt8} (h : nmB c = true) : c.toNat < 128 := by
  unfold nmB at h
  rw [Bool.or_eq_true] at h
  rcases h with h | h
  · unfold insB at h
    have := of_decide_eq_true h
    omega
  · have := of_decide_eq_true h
    subst this
    decide
theorem val_ne {c : UInt8} (h : valB (c.toNat : Int) = true) : c ≠ 39 := by rintro rfl; revert h; decide
theorem val_small {c : UInt8} (h : valB (c.toNat : Int) = true) : c.toNat < 128 := by
  unfold valB at h
  have := of_decide_eq_true h
  omega
theorem name_all {n : ByteArray} (h : nameT n = true) : (∀ c ∈ n.data.toList, nmB c = true) ∧ n.data.toList ≠ [] := by
  have h1 : NameP n := of_decide_eq_true h
  refine ⟨fun c hc => ?_, fun e => ?_⟩
  · obtain ⟨j, hj, e⟩ := List.mem_iff_getElem.1 hc
    have h2 := h1.2.2.1 j hj
    unfold nmB
    rw [← e]
    show (insB ((n.data.toList[j]'hj).toNat : Int) || _) = true
    have e3 : n.data.toList[j]'hj = n[j]'hj := rfl
    rw [e3, h2]
    rfl
  · have : n.data.toList.length = n.size := rfl
    rw [e] at this
    have := h1.1
    simp at *
    omega
theorem step_name {n a t : ByteArray} (h : stepT n a t = true) : (∀ c ∈ n.data.toList, nmB c = true) ∧ n.data.toList ≠ [] := by
  unfold stepT at h
  rw [Bool.and_eq_true, Bool.or_eq_true] at h
  rcases h.1 with h1 | h1
  · have := of_decide_eq_true h1
    subst this
    exact ⟨by decide, by decide⟩
  · exact name_all h1
theorem step_attr {n a t : ByteArray} (h : stepT n a t = true) (ha : ¬ a = ⟨#[]⟩) : (∀ c ∈ a.data.toList, nmB c = true) ∧ (∀ c ∈ t.data.toList, valB (c.toNat : Int) = true) := by
  unfold stepT at h
  rw [Bool.and_eq_true, if_neg ha, Bool.and_eq_true] at h
  refine ⟨(name_all h.2.1).1, ?_⟩
  have h2 := h.2.2
  unfold valT at h2
  rw [Bool.and_eq_true] at h2
  have h3 := h2.2
  unfold eachB at h3
  rw [List.all_eq_true] at h3
  exact h3
theorem step_none {n a t : ByteArray} (h : stepT n a t = true) (ha : a = ⟨#[]⟩) : t = ⟨#[]⟩ := by
  unfold stepT at h
  rw [Bool.and_eq_true, if_pos ha] at h
  exact of_decide_eq_true h.2
/-- What stands behind a name. -/
def tailL (a t : ByteArray) : List UInt8 := if a = ⟨#[]⟩ then [] else 91 :: (a.data.toList ++ ([61, 39] ++ (t.data.toList ++ [39, 93])))
/-- What stands ahead of it. -/
def headL (i : Nat) (d : Bool) : List UInt8 := if d then [47, 47] else if 0 < i then [47] else []
theorem stepL_parts (i : Nat) (d : Bool) (n a t : ByteArray) : stepL i d n a t = headL i d ++ (n.data.toList ++ tailL a t) := rfl
/-- Behind a step there is nothing, or a stroke. -/
def StepEnd (r : List UInt8) : Prop := r = [] ∨ ∃ q, r = 47 :: q
theorem tail_head {a t : ByteArray} {r : List UInt8} (hr : StepEnd r) : ∀ c q, tailL a t ++ r = c :: q → nmB c = false := by
  intro c q h
  unfold tailL at h
  split at h
  · rcases hr with rfl | ⟨q', rfl⟩
    · cases h
    · injection h with h1 h2
      subst h1
      decide
  · injection h with h1 h2
    subst h1
    decide
theorem bytes_same {a b : ByteArray} (h : a.data.toList = b.data.toList) : a = b := by
  cases a; cases b
  simp only [Array.toList_inj] at h
  rw [h]
/-- What the model says of the step with which a text begins. -/
def SaysS (l : List UInt8) (d : Bool) (n a t : ByteArray) (k : Nat) : Prop := ∀ (d9 : Bool) (n9 a9 t9 : ByteArray) (r9 : List UInt8), stepT n9 a9 t9 = true → StepEnd r9 → l = stepL 0 d9 n9 a9 t9 ++ r9 → d = d9 ∧ n = n9 ∧ a = a9 ∧ t = t9 ∧ k = (stepL 0 d9 n9 a9 t9).length
theorem says_head {l r : List UInt8} {d : Bool} {n : ByteArray} (hl : l = headL 0 d ++ (n.data.toList ++ r)) (hd : d = false → ∀ q, l ≠ 47 :: 47 :: q) (hn : ∀ c ∈ n.data.toList, nmB c = true) (hr : ∀ c q, r = c :: q → nmB c = false)
    {d9 : Bool} {n9 a9 t9 : ByteArray} {r9 : List UInt8} (hs : stepT n9 a9 t9 = true) (he : StepEnd r9) (h9 : l = stepL 0 d9 n9 a9 t9 ++ r9) : d = d9 ∧ n = n9 ∧ r = tailL a9 t9 ++ r9 := by
  obtain ⟨m1, m2⟩ := step_name hs
  have ht := tail_head (a := a9) (t := t9) he
  have e9 : l = headL 0 d9 ++ (n9.data.toList ++ (tailL a9 t9 ++ r9)) := by rw [h9, stepL_parts]; simp [List.append_assoc]
  cases d9
  · cases d
    · rw [hl] at e9
      obtain ⟨u1, u2⟩ := uniq_run nmB _ _ _ _ (by simpa [headL] using e9) hn m1 hr ht
      exact ⟨rfl, bytes_same u1, u2⟩
    · exfalso
      rw [hl] at e9
      cases hc : n9.data.toList with
      | nil => exact m2 hc
      | cons c q =>
        rw [hc] at e9
        have : c = 47 := by
          have := congrArg List.head? e9
          simp [headL] at this
          exact this.symm
        exact (nm_ne (m1 c (by rw [hc]; simp))).1 this
  · cases d
    · exfalso
      exact hd rfl _ (by rw [e9]; rfl)
    · rw [hl] at e9
      obtain ⟨u1, u2⟩ := uniq_run nmB _ _ _ _ (List.append_cancel_left e9) hn m1 hr ht
      exact ⟨rfl, bytes_same u1, u2⟩
/-- A tail that begins with a bracket. -/
theorem tail_open {a9 t9 : ByteArray} {r9 q : List UInt8} (he : StepEnd r9) (h : 91 :: q = tailL a9 t9 ++ r9) : ¬ a9 = ⟨#[]⟩ ∧ q = a9.data.toList ++ 61 :: 39 :: (t9.data.toList ++ 39 :: 93 :: r9) := by
  unfold tailL at h
  split at h
  · rcases he with rfl | ⟨q', rfl⟩
    · cases h
    · injection h with h1 _
      exact absurd h1 (by decide)
  · rename_i ha
    injection h with _ h2
    refine ⟨ha, ?_⟩
    rw [h2]
    simp [List.append_assoc]
theorem tail_shut {a9 t9 : ByteArray} {r9 r : List UInt8} (h : r = tailL a9 t9 ++ r9) (hr : ∀ q, r ≠ 91 :: q) : a9 = ⟨#[]⟩ ∧ r = r9 := by
  unfold tailL at h
  split at h
  · rename_i ha
    exact ⟨ha, h⟩
  · exact absurd h (hr _)
theorem cut_uniq {c : UInt8} {a b a' b' : List UInt8} (h : a ++ c :: b = a' ++ c :: b') (h1 : c ∉ a) (h2 : c ∉ a') : a = a' ∧ b = b' := by
  obtain ⟨e1, e2⟩ := uniq_run (fun x => decide (x ≠ c)) a a' (c :: b) (c :: b') h (fun x hx => decide_eq_true (fun e => h1 (e ▸ hx))) (fun x hx => decide_eq_true (fun e => h2 (e ▸ hx))) (fun x q e => by injection e with e1 _; subst e1; simp) (fun x q e => by injection e with e1 _; subst e1; simp)
  injection e2 with _ e3
  exact ⟨e1, e3⟩
theorem attr_no {n a t : ByteArray} (h : stepT n a t = true) (ha : ¬ a = ⟨#[]⟩) : (61 : UInt8) ∉ a.data.toList ∧ (39 : UInt8) ∉ t.data.toList :=
  ⟨fun hm => (nm_ne ((step_attr h ha).1 _ hm)).2.2 rfl, fun hm => val_ne ((step_attr h ha).2 _ hm) rfl⟩
section
variable {l : List UInt8} {d : Bool} {n : ByteArray}
theorem leafA {r : List UInt8} (hl : l = headL 0 d ++ (n.data.toList ++ r)) (hd : d = false → ∀ q, l ≠ 47 :: 47 :: q) (hn : ∀ c ∈ n.data.toList, nmB c = true) (hr : ∀ c q, r = c :: q → nmB c = false) (h0 : ∀ q, r ≠ 91 :: q) : SaysS l d n ⟨#[]⟩ ⟨#[]⟩ ((headL 0 d).length + n.size) := by
  intro d9 n9 a9 t9 r9 hs he h9
  obtain ⟨rfl, rfl, h⟩ := says_head hl hd hn hr hs he h9
  obtain ⟨rfl, _⟩ := tail_shut h h0
  refine ⟨rfl, rfl, rfl, (step_none hs rfl).symm, ?_⟩
  rw [stepL_parts, List.length_append, List.length_append]
  have h1 : n.data.toList.length = n.size := rfl
  simp [tailL, h1]
theorem leafB {q : List UInt8} (hl : l = headL 0 d ++ (n.data.toList ++ 91 :: q)) (hd : d = false → ∀ q, l ≠ 47 :: 47 :: q) (hn : ∀ c ∈ n.data.toList, nmB c = true) (h0 : (61 : UInt8) ∉ q) (a t : ByteArray) (k : Nat) : SaysS l d n a t k := by
  intro d9 n9 a9 t9 r9 hs he h9
  obtain ⟨rfl, rfl, h⟩ := says_head hl hd hn (fun c q e => by injection e with e1 _; subst e1; decide) hs he h9
  obtain ⟨ha, hq⟩ := tail_open he h
  exact absurd (by rw [hq]; simp) h0
theorem leafC {q a b : List UInt8} (hl : l = headL 0 d ++ (n.data.toList ++ 91 :: q)) (hd : d = false → ∀ q, l ≠ 47 :: 47 :: q) (hn : ∀ c ∈ n.data.toList, nmB c = true) (hq : q = a ++ 61 :: b) (h0 : (61 : UInt8) ∉ a) (h1 : ∀ b', b ≠ 39 :: b') (x t : ByteArray) (k : Nat) : SaysS l d n x t k := by
  intro d9 n9 a9 t9 r9 hs he h9
  obtain ⟨rfl, rfl, h⟩ := says_head hl hd hn (fun c q e => by injection e with e1 _; subst e1; decide) hs he h9
  obtain ⟨ha, hq2⟩ := tail_open he h
  obtain ⟨_, e⟩ := cut_uniq (hq.symm.trans hq2) h0 (attr_no hs ha).1
  exact absurd e (h1 _)
theorem leafD {q a b : List UInt8} (hl : l = headL 0 d ++ (n.data.toList ++ 91 :: q)) (hd : d = false → ∀ q, l ≠ 47 :: 47 :: q) (hn : ∀ c ∈ n.data.toList, nmB c = true) (hq : q = a ++ 61 :: 39 :: b) (h0 : (61 : UInt8) ∉ a) (h1 : (39 : UInt8) ∉ b) (x t : ByteArray) (k : Nat) : SaysS l d n x t k := by
  intro d9 n9 a9 t9 r9 hs he h9
  obtain ⟨rfl, rfl, h⟩ := says_head hl hd hn (fun c q e => by injection e with e1 _; subst e1; decide) hs he h9
  obtain ⟨ha, hq2⟩ := tail_open he h
  obtain ⟨_, e⟩ := cut_uniq (hq.symm.trans hq2) h0 (attr_no hs ha).1
  injection e with _ e
  exact absurd (by rw [e]; simp) h1
theorem leafE {q a b c : List UInt8} (hl : l = headL 0 d ++ (n.data.toList ++ 91 :: q)) (hd : d = false → ∀ q, l ≠ 47 :: 47 :: q) (hn : ∀ c ∈ n.data.toList, nmB c = true) (hq : q = a ++ 61 :: 39 :: (b ++ 39 :: c)) (h0 : (61 : UInt8) ∉ a) (h1 : (39 : UInt8) ∉ b) (h2 : ∀ c', c ≠ 93 :: c') (x t : ByteArray) (k : Nat) : SaysS l d n x t k := by
  intro d9 n9 a9 t9 r9 hs he h9
  obtain ⟨rfl, rfl, h⟩ := says_head hl hd hn (fun c q e => by injection e with e1 _; subst e1; decide) hs he h9
  obtain ⟨ha, hq2⟩ := tail_open he h
  obtain ⟨_, e⟩ := cut_uniq (hq.symm.trans hq2) h0 (attr_no hs ha).1
  injection e with _ e
  obtain ⟨_, e2⟩ := cut_uniq e h1 (attr_no hs ha).2
  exact absurd e2 (h2 _)
theorem leafF {q c : List UInt8} {a t : ByteArray} (hl : l = headL 0 d ++ (n.data.toList ++ 91 :: q)) (hd : d = false → ∀ q, l ≠ 47 :: 47 :: q) (hn : ∀ c ∈ n.data.toList, nmB c = true) (hq : q = a.data.toList ++ 61 :: 39 :: (t.data.toList ++ 39 :: 93 :: c)) (h0 : (61 : UInt8) ∉ a.data.toList) (h1 : (39 : UInt8) ∉ t.data.toList) : SaysS l d n a t ((headL 0 d).length + n.size + a.size + t.size + 5) := by
  intro d9 n9 a9 t9 r9 hs he h9
  obtain ⟨rfl, rfl, h⟩ := says_head hl hd hn (fun c q e => by injection e with e1 _; subst e1; decide) hs he h9
  obtain ⟨ha, hq2⟩ := tail_open he h
  obtain ⟨e1, e⟩ := cut_uniq (hq.symm.trans hq2) h0 (attr_no hs ha).1
  injection e with _ e
  obtain ⟨e2, _⟩ := cut_uniq e h1 (attr_no hs ha).2
  have e3 := bytes_same e1
  have e4 := bytes_same e2
  subst e3 e4
  refine ⟨rfl, rfl, rfl, rfl, ?_⟩
  have g1 : n.data.toList.length = n.size := rfl
  have g2 : a.data.toList.length = a.size := rfl
  have g3 : t.data.toList.length = t.size := rfl
  rw [stepL_parts]
  unfold tailL
  rw [if_neg ha]
  simp only [List.length_append, List.length_cons, List.length_nil, g1, g2, g3]
  omega
end
end Go.Proofs.Ytocpbcghkphcgaa.Hub
