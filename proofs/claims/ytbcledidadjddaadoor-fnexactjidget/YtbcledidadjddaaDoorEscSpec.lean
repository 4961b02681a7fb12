/-
  The model's l1Escape: at every text of at most 2^40 bytes it answers escL of its bytes, byte by byte.
-/
import Derived.Test.YtbcledidadjddaaDoorTextSpec
namespace Go.Proofs.YtbcledidadjddaaDoor.Hub
open Go.RowKit Go.Lib
set_option linter.unusedVariables false

/-- How a byte stands in marked text. -/
def escB (c : UInt8) : List UInt8 :=
  if c = 38 then [38, 97, 109, 112, 59] else if c = 60 then [38, 108, 116, 59] else if c = 62 then [38, 103, 116, 59] else if c = 34 then [38, 113, 117, 111, 116, 59]
  else if c = 39 then [38, 97, 112, 111, 115, 59] else if c = 10 then [38, 35, 49, 48, 59] else if c = 9 then [38, 35, 57, 59] else [c]
def escL (l : List UInt8) : List UInt8 := l.flatMap escB
def ofL (l : List UInt8) : ByteArray := ⟨l.toArray⟩
theorem escB_le (c : UInt8) : (escB c).length ≤ 6 := by
  unfold escB
  repeat' split
  all_goals simp
theorem escL_le : ∀ l : List UInt8, (escL l).length ≤ 6 * l.length
  | [] => by simp [escL]
  | c :: l => by
    have h1 := escL_le l
    have h2 := escB_le c
    unfold escL at h1 ⊢
    rw [List.flatMap_cons, List.length_append, List.length_cons]
    omega
theorem escL_append (a b : List UInt8) : escL (a ++ b) = escL a ++ escL b := by simp [escL]
theorem ofL_size (l : List UInt8) : (ofL l).size = l.length := by simp [ofL, ByteArray.size]
theorem ofL_append (a b : List UInt8) : ofL (a ++ b) = ofL a ++ ofL b := by
  apply ByteArray.ext
  simp [ofL]
theorem take_snoc (s : ByteArray) (k : Nat) (h : k < s.size) : s.data.toList.take (k + 1) = s.data.toList.take k ++ [s[k]] := by
  rw [List.take_succ_eq_append_getElem (by simpa using h)]; rfl
theorem esc_snoc (s : ByteArray) (k : Nat) (h : k < s.size) : ofL (escL (s.data.toList.take (k + 1))) = ofL (escL (s.data.toList.take k)) ++ ofL (escB s[k]) := by
  rw [take_snoc s k h, escL_append, ofL_append]
  simp [escL]

theorem extract_list (s : ByteArray) (a b : Nat) : (s.extract a b).data.toList = (s.data.toList.drop a).take (b - a) := by
  rw [← ByteArray.toList_eq, Lib.extract_toList]
theorem extract_one (s : ByteArray) (k : Nat) (h : k < s.size) : s.extract k (k + 1) = ofL [s[k]] := by
  apply WideShapes.bytes_inj
  rw [extract_list]
  have h2 : k < s.data.toList.length := h
  have e1 : k + 1 - k = 1 := by omega
  rw [e1, List.drop_eq_getElem_cons h2]
  rfl

set_option maxRecDepth 100000 in
set_option maxHeartbeats 2000000 in
theorem l1Escape_any (s : ByteArray) (w : World) (hs : s.size ≤ 1099511627776) :
    Calls Tryd.prog 72 #[.string s] w fun e w' => e = .returned (.string (ofL (escL s.data.toList))) ∧ w' = w := by
  go_enter Tryd.func72, Tryd.ntmps72
  go_wp2_with fail
  go_loop [3, 4] (fun o i => ∃ k : Nat, k ≤ s.size ∧ i = .int .i64 k ∧ o = .string (ofL (escL (s.data.toList.take k)))) (fun _ i => s.size - (intOf i).toNat)
  case atStart => exact ⟨0, Nat.zero_le _, rfl, rfl⟩
  case round =>
    obtain ⟨k, hk, rfl, rfl⟩ := hrel
    by_cases hlt : k < s.size
    · have HS : Hid (ofL (escL (s.data.toList.take (k + 1))) = ofL (escL (s.data.toList.take k)) ++ ofL (escB s[k])) := esc_snoc s k hlt
      have hsz : (ofL (escL (s.data.toList.take k))).size ≤ 6597069766656 := by
        rw [ofL_size]
        have h1 := escL_le (s.data.toList.take k)
        have h2 : (s.data.toList.take k).length ≤ k := List.length_take_le _ _
        omega
      generalize ofL (escL (s.data.toList.take k)) = O at HS hsz ⊢
      generalize hc : s[k] = c at HS
      have hcn : s[k].toNat = c.toNat := by rw [hc]
      rcases (by
        by_cases h1 : c = 38
        · exact .inl h1
        by_cases h2 : c = 60
        · exact .inr (.inl h2)
        by_cases h3 : c = 62
        · exact .inr (.inr (.inl h3))
        by_cases h4 : c = 34
        · exact .inr (.inr (.inr (.inl h4)))
        by_cases h5 : c = 39
        · exact .inr (.inr (.inr (.inr (.inl h5))))
        by_cases h6 : c = 10
        · exact .inr (.inr (.inr (.inr (.inr (.inl h6)))))
        by_cases h7 : c = 9
        · exact .inr (.inr (.inr (.inr (.inr (.inr (.inl h7))))))
        · exact .inr (.inr (.inr (.inr (.inr (.inr (.inr ⟨h1, h2, h3, h4, h5, h6, h7⟩)))))) :
        c = 38 ∨ c = 60 ∨ c = 62 ∨ c = 34 ∨ c = 39 ∨ c = 10 ∨ c = 9 ∨ (c ≠ 38 ∧ c ≠ 60 ∧ c ≠ 62 ∧ c ≠ 34 ∧ c ≠ 39 ∧ c ≠ 10 ∧ c ≠ 9)) with h | h | h | h | h | h | h | h
      · subst h
        have hn : (s[k].toNat : Int) = 38 := by rw [hcn]; rfl
        clear hcn hc
        go_wp2_with fail
        go_round
        case rel => exact ⟨k + 1, by omega, by go_num, by rw [HS.out]; rfl⟩
        case measure => simp [intOf]; omega
      · subst h
        have hn : (s[k].toNat : Int) = 60 := by rw [hcn]; rfl
        clear hcn hc
        go_wp2_with fail
        go_round
        case rel => exact ⟨k + 1, by omega, by go_num, by rw [HS.out]; rfl⟩
        case measure => simp [intOf]; omega
      · subst h
        have hn : (s[k].toNat : Int) = 62 := by rw [hcn]; rfl
        clear hcn hc
        go_wp2_with fail
        go_round
        case rel => exact ⟨k + 1, by omega, by go_num, by rw [HS.out]; rfl⟩
        case measure => simp [intOf]; omega
      · subst h
        have hn : (s[k].toNat : Int) = 34 := by rw [hcn]; rfl
        clear hcn hc
        go_wp2_with fail
        go_round
        case rel => exact ⟨k + 1, by omega, by go_num, by rw [HS.out]; rfl⟩
        case measure => simp [intOf]; omega
      · subst h
        have hn : (s[k].toNat : Int) = 39 := by rw [hcn]; rfl
        clear hcn hc
        go_wp2_with fail
        go_round
        case rel => exact ⟨k + 1, by omega, by go_num, by rw [HS.out]; rfl⟩
        case measure => simp [intOf]; omega
      · subst h
        have hn : (s[k].toNat : Int) = 10 := by rw [hcn]; rfl
        clear hcn hc
        go_wp2_with fail
        go_round
        case rel => exact ⟨k + 1, by omega, by go_num, by rw [HS.out]; rfl⟩
        case measure => simp [intOf]; omega
      · subst h
        have hn : (s[k].toNat : Int) = 9 := by rw [hcn]; rfl
        clear hcn hc
        go_wp2_with fail
        go_round
        case rel => exact ⟨k + 1, by omega, by go_num, by rw [HS.out]; rfl⟩
        case measure => simp [intOf]; omega
      · obtain ⟨h1, h2, h3, h4, h5, h6, h7⟩ := h
        have ne : ∀ (d : UInt8), c ≠ d → ¬ ((s[k].toNat : Int) = (d.toNat : Int)) := fun d hd he => hd (UInt8.toNat_inj.1 (by rw [← hcn]; exact Int.ofNat_inj.1 he))
        have n1 := ne _ h1
        have n2 := ne _ h2
        have n3 := ne _ h3
        have n4 := ne _ h4
        have n5 := ne _ h5
        have n6 := ne _ h6
        have n7 := ne _ h7
        have hsl : escB c = [c] := by unfold escB; rw [if_neg h1, if_neg h2, if_neg h3, if_neg h4, if_neg h5, if_neg h6, if_neg h7]
        rw [hsl] at HS
        clear ne hsl h1 h2 h3 h4 h5 h6 h7
        simp only [UInt8.reduceToNat, Int.cast_ofNat_Int] at n1 n2 n3 n4 n5 n6 n7
        have hex : s.extract k (k + 1) = ofL [c] := by rw [← hc]; exact extract_one s k hlt
        have HX : Hid (s.extract k (k + 1) = ofL [c]) := hex
        clear hex hcn hc
        go_wp2_with fail
        go_round
        case rel => exact ⟨k + 1, by omega, by go_num, by rw [HS.out, ← HX.out]⟩
        case measure => simp [intOf]; omega
    · have hk' : k = s.size := by omega
      subst hk'
      have HE : Hid (s.data.toList.take s.size = s.data.toList) := List.take_of_length_le (Nat.le_refl _)
      go_wp2_with fail
      go_ret
      exact ⟨ret_str (by rw [HE.out]), rfl⟩
end Go.Proofs.YtbcledidadjddaaDoor.Hub
