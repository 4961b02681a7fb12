/-
  The runs of two texts with a blank between, and the words of what is a word: plain lemmas.
-/
import Derived.Test.YtlonpaigfalbkaaDoorWordsD
namespace Go.Proofs.YtlonpaigfalbkaaDoor.Hub
open Go.RowKit
set_option linter.unusedVariables false
set_option linter.unusedSimpArgs false

theorem rgo (s : ByteArray) (k : Nat) (h : k < s.size) (hb : letAt s k = true) : runEnd s (s.size - k) k = runEnd s (s.size - (k + 1)) (k + 1) := by
  rw [letAt_in s k h] at hb
  exact run_go s k h hb
theorem rstop (s : ByteArray) (k : Nat) (h : k < s.size) (hb : letAt s k = false) : runEnd s (s.size - k) k = k := by
  rw [letAt_in s k h] at hb
  exact run_stop s k h hb
theorem rend (s : ByteArray) : runEnd s (s.size - s.size) s.size = s.size := by rw [Nat.sub_self]; rfl
/-- A text is laid out in another one, up to what is no letter or the end. -/
structure Part (c a : ByteArray) (o : Nat) : Prop where
  le : o + a.size ≤ c.size
  same : ∀ k, k < a.size → letAt c (o + k) = letAt a k
  bytes : ∀ k e, k ≤ e → e ≤ a.size → c.extract (o + k) (o + e) = a.extract k e
  stop : o + a.size < c.size → letAt c (o + a.size) = false
theorem part_end {c a : ByteArray} {o : Nat} (P : Part c a o) : ∀ m k, a.size - k = m → k ≤ a.size → runEnd c (c.size - (o + k)) (o + k) = o + runEnd a (a.size - k) k := by
  intro m
  induction m with
  | zero =>
    intro k hm hk
    obtain rfl : k = a.size := by omega
    rw [rend]
    by_cases h : o + a.size < c.size
    · exact rstop c _ h (P.stop h)
    · have := P.le
      have e : o + a.size = c.size := by omega
      rw [e, rend]
  | succ m ih =>
    intro k hm hk
    have hka : k < a.size := by omega
    have hkc : o + k < c.size := by have := P.le; omega
    have hs := P.same k hka
    cases hl : letAt a k
    · rw [hl] at hs
      rw [rstop a k hka hl, rstop c _ hkc hs]
    · rw [hl] at hs
      rw [rgo a k hka hl, rgo c _ hkc hs]
      exact ih (k + 1) (by omega) (by omega)
theorem part_runs {c a : ByteArray} {o : Nat} (P : Part c a o) : ∀ m k, a.size - k ≤ m → k ≤ a.size → runsV c (o + k) = runsV a k ++ runsV c (o + a.size) := by
  intro m
  induction m with
  | zero =>
    intro k hm hk
    obtain rfl : k = a.size := by omega
    rw [runs_end]; rfl
  | succ m ih =>
    intro k hm hk
    by_cases hka : k < a.size
    · have hkc : o + k < c.size := by have := P.le; omega
      have hs := P.same k hka
      cases hl : letAt a k
      · rw [hl] at hs
        rw [runs_skip a k hka hl, runs_skip c _ hkc hs]
        exact ih (k + 1) (by omega) (by omega)
      · rw [hl] at hs
        obtain ⟨h1, h2⟩ := runs_take a k hka hl
        obtain ⟨h3, h4⟩ := runs_take c _ hkc hs
        have h5 := runEnd_size a k hk
        rw [h4, h2, part_end P _ k rfl hk, P.bytes _ _ h5.1 h5.2, ih _ (by omega) h5.2]
        rfl
    · obtain rfl : k = a.size := by omega
      rw [runs_end]; rfl
theorem letAt_app_l (a b : ByteArray) (k : Nat) (h : k < a.size) : letAt (a ++ b) k = letAt a k := by
  unfold letAt
  rw [ByteArray.data_append, Array.getElem?_append_left h]
theorem letAt_app_r (a b : ByteArray) (k : Nat) : letAt (a ++ b) (a.size + k) = letAt b k := by
  unfold letAt
  rw [ByteArray.data_append, Array.getElem?_append_right (by show a.size ≤ _; omega)]
  have e : a.size + k - a.data.size = k := by show a.size + k - a.size = k; omega
  rw [e]
theorem app_runs (a b : ByteArray) : runsV ((a ++ ⟨#[32]⟩) ++ b) 0 = runsV a 0 ++ runsV b 0 := by
  have z1 : (⟨#[32]⟩ : ByteArray).size = 1 := rfl
  have hsz : ((a ++ ⟨#[32]⟩) ++ b).size = a.size + 1 + b.size := by rw [ByteArray.size_append, ByteArray.size_append, z1]
  have hbl : letAt ((a ++ ⟨#[32]⟩) ++ b) a.size = false := by
    rw [letAt_app_l _ _ _ (by rw [ByteArray.size_append, z1]; omega)]
    have := letAt_app_r a ⟨#[32]⟩ 0
    rw [Nat.add_zero] at this
    rw [this]; rfl
  have P1 : Part ((a ++ ⟨#[32]⟩) ++ b) a 0 := by
    refine ⟨by omega, fun k hk => ?_, fun k e h1 h2 => ?_, fun _ => by rw [Nat.zero_add]; exact hbl⟩
    · rw [Nat.zero_add, letAt_app_l _ _ _ (by rw [ByteArray.size_append, z1]; omega), letAt_app_l _ _ _ hk]
    · apply Go.WideShapes.bytes_inj
      rw [extract_list, extract_list, ByteArray.data_append, ByteArray.data_append, Array.toList_append, Array.toList_append, Nat.zero_add, Nat.zero_add]
      have hl : a.data.toList.length = a.size := rfl
      rw [List.append_assoc, List.drop_append_of_le_length (by omega), List.take_append_of_le_length (by rw [List.length_drop]; omega)]
  have P2 : Part ((a ++ ⟨#[32]⟩) ++ b) b (a.size + 1) := by
    have h1 : (a ++ (⟨#[32]⟩ : ByteArray)).size = a.size + 1 := by rw [ByteArray.size_append, z1]
    refine ⟨by omega, fun k hk => ?_, fun k e h1' h2 => ?_, fun h => absurd h (by omega)⟩
    · have := letAt_app_r (a ++ ⟨#[32]⟩) b k
      rw [h1] at this
      exact this
    · apply Go.WideShapes.bytes_inj
      rw [extract_list, extract_list, ByteArray.data_append, Array.toList_append]
      have hl : (a ++ (⟨#[32]⟩ : ByteArray)).data.toList.length = a.size + 1 := h1
      rw [List.drop_append, List.drop_eq_nil_of_le (by omega), List.nil_append, hl]
      congr 1
      · omega
      · congr 1; omega
  have e1 := part_runs P1 _ 0 (Nat.le_refl _) (Nat.zero_le _)
  have e2 := part_runs P2 _ 0 (Nat.le_refl _) (Nat.zero_le _)
  rw [Nat.zero_add, Nat.zero_add] at e1
  rw [e1, runs_skip _ _ (by omega) hbl]
  rw [Nat.add_zero] at e2
  rw [e2, show a.size + 1 + b.size = ((a ++ ⟨#[32]⟩) ++ b).size from hsz.symm, runs_end, List.append_nil]
/-- Whether a text stands in a list. -/
def hasB (L : List ByteArray) (x : ByteArray) : Bool := L.any (fun y => y.toList == x.toList)
theorem hasB_iff (L : List ByteArray) (x : ByteArray) : hasB L x = true ↔ x ∈ L := by
  unfold hasB
  rw [List.any_eq_true]
  constructor
  · rintro ⟨y, hy, e⟩
    have e2 := eq_of_beq e
    rw [ByteArray.toList_eq, ByteArray.toList_eq] at e2
    rw [← Go.WideShapes.bytes_inj e2]
    exact hy
  · intro h
    exact ⟨x, h, by simp⟩
theorem hasB_yes {L : List ByteArray} {x : ByteArray} (h : x ∈ L) : hasB L x = true := (hasB_iff L x).2 h
theorem hasB_no {L : List ByteArray} {x : ByteArray} (h : x ∉ L) : hasB L x = false := by
  cases e : hasB L x
  · rfl
  · exact absurd ((hasB_iff L x).1 e) h
/-- Words on top of others: those that are new. -/
theorem add_all (q : List ByteArray) (hq : ∀ r ∈ q, foldT r ≠ ⟨#[]⟩) (L : List ByteArray) : q.foldl (fun L r => addW L (foldT r)) L = L ++ (wl q).filter (fun x => !hasB L x) := by
  have key : ∀ n (q : List ByteArray), q.length = n → (∀ r ∈ q, foldT r ≠ ⟨#[]⟩) → q.foldl (fun L r => addW L (foldT r)) L = L ++ (wl q).filter (fun x => !hasB L x) := by
    intro n
    induction n with
    | zero =>
      intro q hn _
      obtain rfl := List.eq_nil_of_length_eq_zero hn
      simp [wl]
    | succ n ih =>
      intro q hn hq
      have hne : q ≠ [] := by intro e; rw [e] at hn; cases hn
      obtain ⟨q', r, rfl⟩ : ∃ q' r, q = q' ++ [r] := ⟨q.dropLast, q.getLast hne, (List.dropLast_concat_getLast hne).symm⟩
      have hn' : q'.length = n := by simpa using hn
      have h1 := ih q' hn' (fun r hr => hq r (List.mem_append_left _ hr))
      have hX := hq r (by simp)
      rw [List.foldl_append, h1, wl_snoc]
      show addW _ (foldT r) = _
      by_cases hm : foldT r ∈ wl q'
      · rw [addW_old (wl q') _ hm]
        rw [addW_old]
        by_cases hL : foldT r ∈ L
        · exact List.mem_append_left _ hL
        · exact List.mem_append_right _ (List.mem_filter.2 ⟨hm, by rw [hasB_no hL]; rfl⟩)
      · rw [addW_new (wl q') _ hX hm, List.filter_append]
        by_cases hL : foldT r ∈ L
        · rw [addW_old _ _ (List.mem_append_left _ hL)]
          simp [hasB_yes hL]
        · rw [addW_new _ _ hX (by
            intro h9
            rcases List.mem_append.1 h9 with h9 | h9
            · exact hL h9
            · exact hm (List.mem_filter.1 h9).1)]
          simp [hasB_no hL]
  exact key q.length q rfl hq
/-- A text that is one word. -/
structure Word (t : ByteArray) : Prop where
  some : 0 < t.size
  lets : ∀ k, k < t.size → letAt t k = true
  small : foldT t = t
theorem all_end (t : ByteArray) (h : ∀ k, k < t.size → letAt t k = true) : ∀ m k, t.size - k = m → k ≤ t.size → runEnd t (t.size - k) k = t.size := by
  intro m
  induction m with
  | zero => intro k hm hk; obtain rfl : k = t.size := by omega
            exact rend t
  | succ m ih => intro k hm hk; rw [rgo t k (by omega) (h k (by omega))]; exact ih (k + 1) (by omega) (by omega)
theorem extract_all (t : ByteArray) : t.extract 0 t.size = t := by
  apply Go.WideShapes.bytes_inj
  rw [extract_list, List.drop_zero, Nat.sub_zero]
  exact List.take_of_length_le (Nat.le_refl _)
theorem word_runs {t : ByteArray} (h : Word t) : runsV t 0 = [t] := by
  obtain ⟨h1, h2⟩ := runs_take t 0 h.some (h.lets 0 h.some)
  rw [h2, all_end t h.lets _ 0 rfl (Nat.zero_le _), runs_end, extract_all]
theorem word_ne {t : ByteArray} (h : 0 < t.size) : t ≠ ⟨#[]⟩ := by intro e; rw [e] at h; cases h
theorem word_words {t : ByteArray} (h : Word t) : wordsT t = [t] := by
  rw [words_all, word_runs h]
  show addW [] (foldT t) = _
  rw [h.small, addW_new [] t (word_ne h.some) (by simp)]
  rfl
theorem run_lets (s : ByteArray) : ∀ f k j, k ≤ j → j < runEnd s f k → letAt s j = true
  | 0, k, j, h1, h2 => by unfold runEnd at h2; omega
  | f + 1, k, j, h1, h2 => by
    rw [runEnd] at h2
    split at h2
    · rename_i hl
      by_cases e : j = k
      · rw [e]; exact hl
      · exact run_lets s f (k + 1) j (by omega) h2
    · omega
theorem runs_good (s : ByteArray) : ∀ f k, k ≤ s.size → ∀ r ∈ runsF s f k, 0 < r.size ∧ ∀ j, j < r.size → letAt r j = true
  | 0, k, _, r, h => by cases h
  | f + 1, k, hk, r, h => by
    rw [runsF] at h
    split at h
    · rename_i hlt
      have he := runEnd_size s k hk
      split at h
      · exact runs_good s f _ (by omega) r h
      · rename_i hne
        rcases List.mem_cons.1 h with h | h
        · subst h
          refine ⟨by rw [ByteArray.size_extract]; omega, fun j hj => ?_⟩
          rw [ByteArray.size_extract] at hj
          have h1 := run_lets s _ k (k + j) (by omega) (by omega : k + j < runEnd s (s.size - k) k)
          unfold letAt at h1 ⊢
          rw [← h1]
          have e : (s.extract k (runEnd s (s.size - k) k)).data[j]? = s.data[k + j]? := by
            rw [← Array.getElem?_toList, ← Array.getElem?_toList, extract_list, List.getElem?_take, if_pos (by omega), List.getElem?_drop]
          rw [e]
        · exact runs_good s f _ he.2 r h
    · cases h
theorem gt_in (L : List ByteArray) (k : Nat) (h : k < L.length) : L[k]? = some (gt L k) := by
  unfold gt
  rw [List.getD_eq_getElem?_getD, List.getElem?_eq_getElem h]
  rfl
theorem gt_is (L : List ByteArray) (k : Nat) (h : k < L.length) : gt L k ∈ L := List.mem_of_getElem? (gt_in L k h)
/-- Whether a text stands among the first of a list. -/
def hasK (L : List ByteArray) (x : ByteArray) (k : Nat) : Bool := hasB (L.take k) x
theorem hasK_zero (L : List ByteArray) (x : ByteArray) : hasK L x 0 = false := rfl
theorem hasK_succ (L : List ByteArray) (x : ByteArray) (k : Nat) (h : k < L.length) : hasK L x (k + 1) = (hasK L x k || (gt L k).toList == x.toList) := by
  unfold hasK hasB
  rw [List.take_add_one, gt_in L k h, List.any_append]
  simp
theorem hasK_all (L : List ByteArray) (x : ByteArray) : hasK L x L.length = hasB L x := by unfold hasK; rw [List.take_length]
/-- How many of the first of a list stand not in another. -/
def newK (L M : List ByteArray) (i : Nat) : Nat := ((M.take i).filter (fun x => !hasB L x)).length
theorem newK_zero (L M : List ByteArray) : newK L M 0 = 0 := rfl
theorem newK_succ (L M : List ByteArray) (i : Nat) (h : i < M.length) : newK L M (i + 1) = newK L M i + (if hasB L (gt M i) then 0 else 1) := by
  unfold newK
  rw [List.take_add_one, gt_in M i h, List.filter_append, List.length_append]
  congr 1
  cases e : hasB L (gt M i) <;> simp [e]
theorem newK_all (L M : List ByteArray) : newK L M M.length = (M.filter (fun x => !hasB L x)).length := by unfold newK; rw [List.take_length]
theorem newK_le (L M : List ByteArray) (i : Nat) : newK L M i ≤ M.length := by
  unfold newK
  exact Nat.le_trans (List.length_filter_le _ _) (by rw [List.length_take]; omega)
theorem runs_all (s : ByteArray) : ∀ r ∈ runsV s 0, 0 < r.size ∧ (∀ j, j < r.size → letAt r j = true) ∧ r.size ≤ s.size := fun r h => by
  have h1 := runs_good s (s.size - 0) 0 (Nat.zero_le _) r h
  exact ⟨h1.1, h1.2, runs_small s (s.size - 0) 0 r h⟩
theorem fold_letB (b : UInt8) : letB (foldB b) = letB b ∧ foldB (foldB b) = foldB b := by
  by_cases h : 65 ≤ b.toNat ∧ b.toNat ≤ 90
  · have h1 := foldB_yes b h
    have h2 : (foldB b).toNat = b.toNat + 32 := by omega
    constructor
    · unfold letB
      rw [h2]
      rw [decide_eq_true (by omega), decide_eq_true (by omega)]
    · exact foldB_no _ (by omega)
  · rw [foldB_no b h]
    exact ⟨rfl, foldB_no b h⟩
theorem foldT_word {r : ByteArray} (h1 : 0 < r.size) (h2 : ∀ j, j < r.size → letAt r j = true) : Word (foldT r) := by
  have hs := foldT_size r
  refine ⟨by omega, fun k hk => ?_, ?_⟩
  · have h3 := h2 k (by omega)
    unfold letAt at h3 ⊢
    have e : (foldT r).data[k]? = (r.data[k]?).map foldB := by
      unfold foldT ofL
      rw [← Array.getElem?_toList, ← Array.getElem?_toList]
      simp
    rw [e]
    rw [Array.getElem?_eq_getElem (show k < r.data.size by show k < r.size; omega)] at h3 ⊢
    show letB (foldB _) = true
    rw [(fold_letB _).1]
    exact h3
  · unfold foldT
    apply Go.WideShapes.bytes_inj
    unfold ofL
    simp only [List.map_map]
    have e : foldB ∘ foldB = foldB := funext fun b => (fold_letB b).2
    rw [e]
theorem wl_mem : ∀ (rs : List ByteArray) (t : ByteArray), t ∈ wl rs → ∃ r ∈ rs, t = foldT r := by
  intro rs
  have key : ∀ (rs L : List ByteArray) (t : ByteArray), t ∈ rs.foldl (fun L r => addW L (foldT r)) L → t ∈ L ∨ ∃ r ∈ rs, t = foldT r := by
    intro rs
    induction rs with
    | nil => intro L t h; exact .inl h
    | cons r rs ih =>
      intro L t h
      rcases ih _ t h with h | ⟨r', hr, e⟩
      · change t ∈ addW L (foldT r) at h
        unfold addW at h
        split at h
        · exact .inl h
        · split at h
          · rcases List.mem_append.1 h with h | h
            · exact .inl h
            · exact .inr ⟨r, by simp, by simpa using h⟩
          · exact .inl h
      · exact .inr ⟨r', List.mem_cons_of_mem _ hr, e⟩
  intro t h
  rcases key rs [] t h with h | h
  · cases h
  · exact h
theorem words_word (s : ByteArray) : ∀ t ∈ wordsT s, Word t ∧ t.size ≤ s.size := fun t h => by
  rw [words_all] at h
  obtain ⟨r, hr, rfl⟩ := wl_mem _ t h
  obtain ⟨h1, h2, h3⟩ := runs_all s r hr
  exact ⟨foldT_word h1 h2, by rw [foldT_size]; exact h3⟩
theorem words_two (a b : ByteArray) : wordsT ((a ++ ⟨#[32]⟩) ++ b) = wordsT a ++ (wordsT b).filter (fun x => !hasB (wordsT a) x) := by
  rw [words_all ((a ++ ⟨#[32]⟩) ++ b), app_runs, List.foldl_append, ← words_all a]
  have e : wordsT b = wl (runsV b 0) := words_all b
  rw [e]
  exact add_all _ (fun r hr => word_ne (by rw [foldT_size]; exact (runs_all b r hr).1)) _
theorem words_len' (s : ByteArray) : (wordsT s).length ≤ s.size := by
  have h : wordsT s = wl (runsV s 0) := words_all s
  have h1 := wl_len (runsV s 0)
  have key : ∀ f k, (runsF s f k).length ≤ f := by
    intro f
    induction f with
    | zero => intro k; exact Nat.le_refl _
    | succ f ih =>
      intro k
      rw [runsF]
      split
      · split
        · have := ih (k + 1); omega
        · have := ih (runEnd s (s.size - k) k); rw [List.length_cons]; omega
      · exact Nat.zero_le _
  have h2 := key (s.size - 0) 0
  rw [h]
  unfold runsV at h1 ⊢
  omega
end Go.Proofs.YtlonpaigfalbkaaDoor.Hub
