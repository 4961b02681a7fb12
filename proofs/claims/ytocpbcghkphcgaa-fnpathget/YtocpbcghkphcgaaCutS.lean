/-
  The model's l1Cut at this seat: the parts of cutL, in a list of its own; a text cut once.
-/
import Derived.Test.YtocpbcghkphcgaaLineBase
import Derived.Lib.Bytealg
import Derived.WalkKit
import Derived.RangeFuncBox
namespace Go.Proofs.Ytocpbcghkphcgaa.Hub
open Go.RowKit Go.Lib
set_option linter.unusedVariables false

def ofL (l : List UInt8) : ByteArray := ⟨l.toArray⟩
/-- The bytes of a text between two places. -/
def sub (s : ByteArray) (a b : Nat) : List UInt8 := (s.data.toList.drop a).take (b - a)
theorem ofL_size (l : List UInt8) : (ofL l).size = l.length := by simp [ofL, ByteArray.size]
theorem extract_list (s : ByteArray) (a b : Nat) : (s.extract a b).data.toList = (s.data.toList.drop a).take (b - a) := by
  rw [← ByteArray.toList_eq, Lib.extract_toList]
/-- A text ahead of the first of texts. -/
def consTo (pre : List UInt8) : List (List UInt8) → List (List UInt8)
  | [] => [pre]
  | p :: ps => (pre ++ p) :: ps
/-- A text cut at a byte, so many times at most. -/
def cutL (c : UInt8) : Nat → List UInt8 → List (List UInt8)
  | _, [] => [[]]
  | 0, x :: xs => [x :: xs]
  | m + 1, x :: xs => if x = c then [] :: cutL c m xs else consTo [x] (cutL c (m + 1) xs)
theorem cutL_cons (c : UInt8) (m : Nat) (x : UInt8) (xs : List UInt8) : cutL c (m + 1) (x :: xs) = if x = c then [] :: cutL c m xs else consTo [x] (cutL c (m + 1) xs) := by rw [cutL]
theorem cutL_zero (c : UInt8) (l : List UInt8) : cutL c 0 l = [l] := by cases l <;> simp [cutL]
theorem cutL_ne (c : UInt8) : ∀ (m : Nat) (l : List UInt8), cutL c m l ≠ []
  | _, [] => by simp [cutL]
  | 0, _ :: _ => by simp [cutL]
  | m + 1, x :: xs => by
    rw [cutL_cons]
    split
    · simp
    · cases h : cutL c (m + 1) xs with
      | nil => simp [consTo]
      | cons p ps => simp [consTo]
theorem consTo_nil (ps : List (List UInt8)) (h : ps ≠ []) : consTo [] ps = ps := by
  cases ps with
  | nil => exact absurd rfl h
  | cons p ps => rfl
theorem consTo_consTo (a b : List UInt8) (ps : List (List UInt8)) : consTo a (consTo b ps) = consTo (a ++ b) ps := by
  cases ps with
  | nil => simp [consTo]
  | cons p ps => simp [consTo]
/-- A byte that is not the one goes to the part that is begun. -/
theorem cut_other (c : UInt8) (m : Nat) (x : UInt8) (xs pre : List UInt8) (hm : 1 ≤ m) (hx : x ≠ c) : consTo pre (cutL c m (x :: xs)) = consTo (pre ++ [x]) (cutL c m xs) := by
  obtain ⟨k, rfl⟩ : ∃ k, m = k + 1 := ⟨m - 1, by omega⟩
  rw [cutL_cons, if_neg hx, consTo_consTo]
theorem cut_hit (c : UInt8) (m : Nat) (xs pre : List UInt8) (hm : 1 ≤ m) : consTo pre (cutL c m (c :: xs)) = pre :: cutL c (m - 1) xs := by
  obtain ⟨k, rfl⟩ : ∃ k, m = k + 1 := ⟨m - 1, by omega⟩
  rw [cutL_cons, if_pos rfl]
  simp [consTo]
theorem cut_end (c : UInt8) (m : Nat) (l pre : List UInt8) (h : l = [] ∨ m = 0) : consTo pre (cutL c m l) = [pre ++ l] := by
  rcases h with rfl | rfl
  · cases m <;> simp [cutL, consTo]
  · rw [cutL_zero]; rfl
/-- Parts of a text, as the cells of a list. -/
def strs (ps : List (List UInt8)) : List Value := ps.map fun p => Value.string (ofL p)
theorem strs_snoc (ps : List (List UInt8)) (p : List UInt8) : strs (ps ++ [p]) = strs ps ++ [.string (ofL p)] := by simp [strs]
theorem strs_len (ps : List (List UInt8)) : (strs ps).length = ps.length := by simp [strs]
theorem sub_ofL (s : ByteArray) (a b : Nat) : ofL (sub s a b) = s.extract a b := by
  apply WideShapes.bytes_inj
  rw [extract_list]
  simp [ofL, sub]
theorem sub_succ (s : ByteArray) (a k : Nat) (ha : a ≤ k) (h : k < s.size) : sub s a (k + 1) = sub s a k ++ [s[k]] := by
  unfold sub
  have hl : s.data.toList.length = s.size := rfl
  rw [show k + 1 - a = (k - a) + 1 by omega, List.take_succ_eq_append_getElem (by rw [List.length_drop]; omega), List.getElem_drop]
  have e : s[k] = s.data.toList[a + (k - a)]'(by omega) := by
    show s.data.toList[k]'(by omega) = _
    congr 1
    omega
  rw [e]
theorem sub_self (s : ByteArray) (a : Nat) : sub s a a = [] := by simp [sub]
theorem drop_cons (s : ByteArray) (k : Nat) (h : k < s.size) : s.data.toList.drop k = s[k] :: s.data.toList.drop (k + 1) := by
  have hl : s.data.toList.length = s.size := rfl
  rw [List.drop_eq_getElem_cons (by omega)]
  rfl
theorem sub_end (s : ByteArray) (a k : Nat) (ha : a ≤ k) (hk : k ≤ s.size) : sub s a k ++ s.data.toList.drop k = s.data.toList.drop a := by
  unfold sub
  have : s.data.toList.drop k = (s.data.toList.drop a).drop (k - a) := by rw [List.drop_drop]; congr 1; omega
  rw [this, List.take_append_drop]
theorem info_str : (Try.prog.info? 9).map (fun i => (i.zero, i.size, i.bytes)) = some (some (.string ⟨#[]⟩), 1, 16) := by kernel_rfl

theorem cell_one (W : World) (v : Value) : ∀ (j : Nat) (u : Value), [v][j]? = some u → (W.alloc (.cells #[v] 9)).cell? ((⟨W.heap.size, 0, none⟩ : Addr).add j) = some u := by
  intro j u hj
  match j, hj with
  | 0, hj => simp at hj; subst hj; simp [Addr.add]
theorem one_cell (x : ByteArray) : ∀ u ∈ [Value.string x], u.oneCell' = true := by
  intro u hu
  simp at hu
  subst hu
  rfl
theorem le_maxLen (n : Nat) (h : n ≤ 1099511627777) : n ≤ maxLen := by unfold maxLen; omega
/-- A list of its own, behind a call: a slice of so many cells. -/
def Parts (n₀ : Nat) (ps : List (List UInt8)) (w : World) (e : Ending) (w' : World) : Prop :=
  ∃ g cap : Nat, e = .returned (.slice (some ⟨g, 0, none⟩) ps.length cap) ∧ w'.ownsRow n₀ 9 1 (.slice (some ⟨g, 0, none⟩) ps.length cap) ps.length (strs ps) ∧ Below n₀ w w'

set_option maxRecDepth 100000 in
set_option maxHeartbeats 1000000 in
theorem l1Cut_any (s : ByteArray) (c : UInt8) (m : Nat) (hm : m ≤ 9223372036854775800) (w : World) (hs : s.size ≤ 1099511627776) :
    Calls Try.prog 44 #[.string s, .int .u8 (c.toNat : Int), .int .i64 (m : Int)] w fun e w' => Parts w.heap.size (cutL c m s.data.toList) w e w' := by
  obtain ⟨R, hR⟩ : ∃ R, cutL c m s.data.toList = R := ⟨_, rfl⟩
  have HR : Hid (cutL c m s.data.toList = R) := hR
  rw [hR]
  clear hR
  obtain ⟨i0, hi, hz0, hz1, hz2⟩ := info_parts info_str
  go_enter Try.func44, Try.ntmps44
  go_wp2_with fail
  go_loopw [7, 8, 9] (fun o f i wr => ∃ (ps : List (List UInt8)) (a k g cap : Nat), a ≤ k ∧ k ≤ s.size ∧ f = .int .i64 a ∧ i = .int .i64 k ∧ ps.length ≤ m ∧ ps.length ≤ a ∧ o = .slice (some ⟨g, 0, none⟩) ps.length cap ∧ Hid (w.heap.size ≤ g) ∧ wr.ownsRow w.heap.size 9 1 o ps.length (strs ps) ∧ Hid (ps ++ consTo (sub s a k) (cutL c (m - ps.length) (s.data.toList.drop k)) = R) ∧ Below w.heap.size w wr) (fun _ _ i _ => s.size - (intOf i).toNat)
  case atStart =>
    refine ⟨[], 0, 0, w.heap.size, 0, by omega, by omega, rfl, rfl, by simp, by simp, rfl, Nat.le_refl w.heap.size, World.ownsRow_made w #[] 0 (Nat.le_refl _) (Nat.zero_le _) rfl, ?_, (Below.refl _ w).alloc (Nat.le_refl _) _⟩
    show [] ++ consTo (sub s 0 0) (cutL c (m - 0) (s.data.toList.drop 0)) = R
    rw [sub_self, List.nil_append, consTo_nil _ (cutL_ne _ _ _), ← HR.out]
    rfl
  case round =>
    obtain ⟨ps, a, k, g, cap, ha, hk, rfl, rfl, hpm, hpa, rfl, hg, hown, HA, hnx⟩ := hrel
    by_cases hlt : k < s.size
    · by_cases hpl : ps.length < m
      · have hplI : (ps.length : Int) < (m : Int) := by omega
        by_cases hx : s[k] = c
        · subst hx
          have HB : Hid ((ps ++ [sub s a k]) ++ consTo (sub s (k + 1) (k + 1)) (cutL s[k] (m - (ps ++ [sub s a k]).length) (s.data.toList.drop (k + 1))) = R) := by
            have := HA.out
            rw [drop_cons s k hlt, cut_hit _ _ _ _ (by omega)] at this
            show _ = R
            rw [sub_self, consTo_nil _ (cutL_ne _ _ _), ← this, List.append_assoc, List.length_append, List.length_singleton, Nat.sub_sub]
            rfl
          have haI : (a : Int) ≤ (k : Int) := by omega
          have hex := sub_ofL s a k
          have HX : Hid (ofL (sub s a k) = s.extract a k) := hex
          clear hex HA HR
          go_wp2_with (at_builtin; refine wpList_append_own _ rfl _ _ 55 rfl w.heap.size 9 i0 (.string ⟨#[]⟩) 1 16 Try.underlying55 hi hz0 hz1 hz2 rfl (by decide) _ _ _ rfl (hown.alloc _) ⟨wr.heap.size, 0, none⟩ 1 1 [.string (s.extract a k)] rfl rfl (cell_one _ _) (one_cell _) (le_maxLen _ (by omega)) (by omega) (by have := hnx.size; simp; omega) ?_; intro v' w1 hown' hgrow hnil)
          obtain ⟨g', cap', rfl⟩ := ownsRow_succ hown'
          have hb1 := (hnx.alloc hnx.size _).grown hgrow (by have := hnx.size; simp; omega) (fun j e => by cases e; exact hg.out)
          have hg' : Hid (w.heap.size ≤ g') := by
            rcases hown'.2 with ⟨e, _⟩ | ⟨g2, c2, cur, e, h2, _⟩
            · cases e
            · cases e; exact h2
          clear hgrow hown
          go_wp2_with fail
          go_roundw
          case rel =>
            refine ⟨ps ++ [sub s a k], k + 1, k + 1, g', cap', by omega, by omega, by go_num, by go_num, by simp; omega, by simp; omega, by simp, hg', ?_, HB, hb1⟩
            rw [strs_snoc, HX.out]
            simpa using hown'
          case measure => simp [intOf]; omega
        · have hb : ((s[k].toNat : Int) == (c.toNat : Int)) = false := beq_eq_false_iff_ne.2 (fun e => hx (UInt8.toNat_inj.1 (by omega)))
          have HB : Hid (ps ++ consTo (sub s a (k + 1)) (cutL c (m - ps.length) (s.data.toList.drop (k + 1))) = R) := by
            have := HA.out
            rw [drop_cons s k hlt, cut_other _ _ _ _ _ (by omega) hx] at this
            show _ = R
            rw [sub_succ s a k ha hlt]
            exact this
          clear HA HR hx
          go_wp2_with fail
          go_roundw
          case rel => exact ⟨ps, a, k + 1, g, cap, by omega, by omega, rfl, by go_num, hpm, hpa, rfl, hg, hown, HB, hnx⟩
          case measure => simp [intOf]; omega
      · have hplI : ¬ (ps.length : Int) < (m : Int) := by omega
        have hpd : decide ((ps.length : Int) < (m : Int)) = false := by simp; omega
        have hfin : ps ++ [s.data.toList.drop a] = R := by
          have := HA.out
          rw [cut_end c _ _ _ (.inr (by omega)), sub_end s a k ha hk] at this
          exact this
        have hex : ofL (s.data.toList.drop a) = s.extract a s.size := by
          rw [← sub_ofL, ← sub_end s a s.size (by omega) (Nat.le_refl _), List.drop_of_length_le (by have : s.data.toList.length = s.size := rfl; omega), List.append_nil]
        have HF : Hid (ps ++ [s.data.toList.drop a] = R) := hfin
        have HX : Hid (ofL (s.data.toList.drop a) = s.extract a s.size) := hex
        have haI : (a : Int) ≤ (s.size : Int) := by omega
        clear hfin hex HA HR
        go_wp2_with (at_builtin; refine wpList_append_own _ rfl _ _ 55 rfl w.heap.size 9 i0 (.string ⟨#[]⟩) 1 16 Try.underlying55 hi hz0 hz1 hz2 rfl (by decide) _ _ _ rfl (hown.alloc _) ⟨wr.heap.size, 0, none⟩ 1 1 [.string (s.extract a s.size)] rfl rfl (cell_one _ _) (one_cell _) (le_maxLen _ (by omega)) (by omega) (by have := hnx.size; simp; omega) ?_; intro v' w1 hown' hgrow hnil)
        obtain ⟨g', cap', rfl⟩ := ownsRow_succ hown'
        have hb1 := (hnx.alloc hnx.size _).grown hgrow (by have := hnx.size; simp; omega) (fun j e => by cases e; exact hg.out)
        clear hgrow hown
        go_wp2_with fail
        go_ret
        have e := HF.out
        subst e
        refine ⟨g', cap', by simp, ?_, hb1⟩
        rw [strs_snoc, HX.out]
        simpa using hown'
    · have hkd : decide ((k : Int) < (s.size : Int)) = false := by simp; omega
      have hfin : ps ++ [s.data.toList.drop a] = R := by
        have := HA.out
        rw [cut_end c _ _ _ (.inl (List.drop_of_length_le (by have : s.data.toList.length = s.size := rfl; omega))), sub_end s a k ha hk] at this
        exact this
      have hex : ofL (s.data.toList.drop a) = s.extract a s.size := by
        rw [← sub_ofL, ← sub_end s a s.size (by omega) (Nat.le_refl _), List.drop_of_length_le (by have : s.data.toList.length = s.size := rfl; omega), List.append_nil]
      have HF : Hid (ps ++ [s.data.toList.drop a] = R) := hfin
      have HX : Hid (ofL (s.data.toList.drop a) = s.extract a s.size) := hex
      have haI : (a : Int) ≤ (s.size : Int) := by omega
      clear hfin hex HA HR
      go_wp2_with (at_builtin; refine wpList_append_own _ rfl _ _ 55 rfl w.heap.size 9 i0 (.string ⟨#[]⟩) 1 16 Try.underlying55 hi hz0 hz1 hz2 rfl (by decide) _ _ _ rfl (hown.alloc _) ⟨wr.heap.size, 0, none⟩ 1 1 [.string (s.extract a s.size)] rfl rfl (cell_one _ _) (one_cell _) (le_maxLen _ (by omega)) (by omega) (by have := hnx.size; simp; omega) ?_; intro v' w1 hown' hgrow hnil)
      obtain ⟨g', cap', rfl⟩ := ownsRow_succ hown'
      have hb1 := (hnx.alloc hnx.size _).grown hgrow (by have := hnx.size; simp; omega) (fun j e => by cases e; exact hg.out)
      clear hgrow hown
      go_wp2_with fail
      go_ret
      have e := HF.out
      subst e
      refine ⟨g', cap', by simp, ?_, hb1⟩
      rw [strs_snoc, HX.out]
      simpa using hown'


theorem cut1_cases (c : UInt8) : ∀ l : List UInt8, (cutL c 1 l = [l] ∧ c ∉ l) ∨ ∃ a b, l = a ++ c :: b ∧ c ∉ a ∧ cutL c 1 l = [a, b]
  | [] => .inl ⟨by simp [cutL], by simp⟩
  | x :: xs => by
    by_cases hx : x = c
    · subst hx
      exact .inr ⟨[], xs, rfl, by simp, by rw [cutL_cons, if_pos rfl, cutL_zero]⟩
    · rcases cut1_cases c xs with ⟨h1, h2⟩ | ⟨a, b, h1, h2, h3⟩
      · refine .inl ⟨?_, ?_⟩
        · rw [cutL_cons, if_neg hx, h1]; rfl
        · intro h
          rcases List.mem_cons.1 h with h | h
          · exact hx h.symm
          · exact h2 h
      · refine .inr ⟨x :: a, b, by rw [h1]; rfl, ?_, ?_⟩
        · intro h
          rcases List.mem_cons.1 h with h | h
          · exact hx h.symm
          · exact h2 h
        · rw [cutL_cons, if_neg hx, h3]; rfl
end Go.Proofs.Ytocpbcghkphcgaa.Hub
