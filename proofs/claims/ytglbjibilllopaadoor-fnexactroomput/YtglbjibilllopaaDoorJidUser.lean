/-
  impl.isUser, impl.isHostPart, impl.isNick and the model's l4User, l4Nick: at every text they answer userT, hpartT, nickT.
-/
import Derived.Test.YtglbjibilllopaaDoorJidBytes
import Derived.Test.YtglbjibilllopaaDoorTextImpl
namespace Go.Proofs.YtglbjibilllopaaDoor.Hub
open Go.RowKit
set_option linter.unusedVariables false

set_option maxHeartbeats 800000 in
theorem isUser_any (s : ByteArray) (w : World) (hs : s.size ≤ 9223372036854775800) :
    Calls Tryd.prog 45 #[.string s] w fun e w' => e = .returned (.bool (userT s)) ∧ w' = w := by
  rcases (by omega : s.size = 0 ∨ (1 ≤ s.size ∧ s.size ≤ 8) ∨ 8 < s.size) with h0 | h0 | h0
  · have hz := size_zero s h0
    subst hz
    go_enter Tryd.func45, Tryd.ntmps45
    go_wp2_with fail
    go_ret
    exact ⟨rfl, rfl⟩
  · have he : s.toList.isEmpty = false := not_empty s (by omega)
    have hg : (s.size : Int) ≤ 8 := by omega
    have hu : userT s = eachB userB s := by unfold userT; rw [decide_eq_true h0]; rfl
    have hN := fun w => each_userByte s w hs
    rw [hu]
    obtain ⟨R, hR⟩ : ∃ R, eachB userB s = R := ⟨_, rfl⟩
    rw [hR] at hN ⊢
    clear hu hR
    cases R
    all_goals
      go_enter Tryd.func45, Tryd.ntmps45
      go_wp2_with (go_at_call 71; refine (hN _).mono ?_; rintro e w' ⟨rfl, rfl⟩)
      go_ret
      exact ⟨rfl, rfl⟩
  · have he : s.toList.isEmpty = false := not_empty s (by omega)
    have hg : decide ((s.size : Int) ≤ 8) = false := by simp; omega
    have hu : userT s = false := by unfold userT; rw [decide_eq_false (by omega)]; rfl
    rw [hu]
    clear hu
    go_enter Tryd.func45, Tryd.ntmps45
    go_wp2_with fail
    go_ret
    exact ⟨rfl, rfl⟩

/-- What a nick is asked for behind its size: that it is ok, its bytes, its edges. -/
theorem nickT_in (s : ByteArray) (h0 : 1 ≤ s.size ∧ s.size ≤ 10) : nickT s = (okT s && (eachB nickB s && (decide ((s[0]'(by omega)).toNat ≠ 32) && decide ((s[s.size - 1]'(by omega)).toNat ≠ 32)))) := by
  unfold nickT
  rw [decide_eq_true h0, edge_cases 32 s (by omega), Bool.true_and, Bool.and_assoc]

set_option maxHeartbeats 1600000 in
theorem isNick_any (s : ByteArray) (w : World) (hs : s.size ≤ 9223372036854775800) (hT : Tabs w) :
    Calls Tryd.prog 74 #[.string s] w fun e w' => e = .returned (.bool (nickT s)) ∧ Below w.heap.size w w' := by
  rcases (by omega : s.size = 0 ∨ (1 ≤ s.size ∧ s.size ≤ 10) ∨ 10 < s.size) with h0 | h0 | h0
  · have hz := size_zero s h0
    subst hz
    go_enter Tryd.func74, Tryd.ntmps74
    go_wp2_with fail
    go_ret
    exact ⟨rfl, Below.refl _ _⟩
  · have h1 : 0 < s.size := by omega
    have he : s.toList.isEmpty = false := not_empty s h1
    have hg : (s.size : Int) ≤ 10 := by omega
    have hl : s.size - 1 < s.size := by omega
    have hi : (s.size : Int) - 1 = ((s.size - 1 : Nat) : Int) := by omega
    have hN := fun w => each_nickByte s w hs
    have hO := textOk_any s w hs hT
    rw [nickT_in s h0]
    obtain ⟨R, hR⟩ : ∃ R, eachB nickB s = R := ⟨_, rfl⟩
    obtain ⟨O, hOk⟩ : ∃ O, okT s = O := ⟨_, rfl⟩
    rw [hR] at hN ⊢
    rw [hOk] at hO ⊢
    clear hR hOk
    cases O
    · go_enter Tryd.func74, Tryd.ntmps74
      go_wp2_with (go_at_call 73; refine hO.mono ?_; rintro e w1 ⟨rfl, b1⟩)
      go_ret
      exact ⟨rfl, b1⟩
    · cases R
      · go_enter Tryd.func74, Tryd.ntmps74
        go_wp2_with (first | (go_at_call 73; refine hO.mono ?_; rintro e w1 ⟨rfl, b1⟩) | (go_at_call 71; refine (hN _).mono ?_; rintro e w' ⟨rfl, rfl⟩))
        go_ret
        exact ⟨rfl, b1⟩
      · by_cases ha : s[0].toNat = 32
        · have hb : ((s[0].toNat : Int) == 32) = true := by rw [ha]; rfl
          rw [decide_eq_false (by omega : ¬ s[0].toNat ≠ 32)]
          go_enter Tryd.func74, Tryd.ntmps74
          go_wp2_with (first | (go_at_call 73; refine hO.mono ?_; rintro e w1 ⟨rfl, b1⟩) | (go_at_call 71; refine (hN _).mono ?_; rintro e w' ⟨rfl, rfl⟩))
          go_ret
          exact ⟨rfl, b1⟩
        · have hb : ((s[0].toNat : Int) == 32) = false := beq_eq_false_iff_ne.2 (by omega)
          rw [decide_eq_true ha]
          by_cases hc : (s[s.size - 1]'(by omega)).toNat = 32
          · have hd : (((s[s.size - 1]'(by omega)).toNat : Int) == 32) = true := by rw [hc]; rfl
            rw [decide_eq_false (by omega : ¬ (s[s.size - 1]'(by omega)).toNat ≠ 32)]
            go_enter Tryd.func74, Tryd.ntmps74
            go_wp2_with (first | (go_at_call 73; refine hO.mono ?_; rintro e w1 ⟨rfl, b1⟩) | (go_at_call 71; refine (hN _).mono ?_; rintro e w' ⟨rfl, rfl⟩))
            go_ret
            exact ⟨rfl, b1⟩
          · have hd : (((s[s.size - 1]'(by omega)).toNat : Int) == 32) = false := beq_eq_false_iff_ne.2 (by omega)
            rw [decide_eq_true hc]
            go_enter Tryd.func74, Tryd.ntmps74
            go_wp2_with (first | (go_at_call 73; refine hO.mono ?_; rintro e w1 ⟨rfl, b1⟩) | (go_at_call 71; refine (hN _).mono ?_; rintro e w' ⟨rfl, rfl⟩))
            go_ret
            exact ⟨ret_bool (by simp [bne, hb, hd]), b1⟩
  · have he : s.toList.isEmpty = false := not_empty s (by omega)
    have hg : decide ((s.size : Int) ≤ 10) = false := by simp; omega
    have hu : nickT s = false := by unfold nickT; rw [decide_eq_false (by omega)]; rfl
    rw [hu]
    clear hu
    go_enter Tryd.func74, Tryd.ntmps74
    go_wp2_with fail
    go_ret
    exact ⟨rfl, Below.refl _ _⟩

theorem userB_split (c : Int) : (userB c = true ∧ (smallB c = true ∨ (smallB c = false ∧ (c = 45 ∨ c = 46 ∨ c = 95)))) ∨ (userB c = false ∧ smallB c = false ∧ c ≠ 45 ∧ c ≠ 46 ∧ c ≠ 95) := by
  unfold userB smallB
  by_cases h : (97 ≤ c ∧ c ≤ 122) ∨ (48 ≤ c ∧ c ≤ 57)
  · exact .inl ⟨decide_eq_true (by omega), .inl (decide_eq_true h)⟩
  · by_cases h2 : c = 45 ∨ c = 46 ∨ c = 95
    · exact .inl ⟨decide_eq_true (by omega), .inr ⟨decide_eq_false h, h2⟩⟩
    · exact .inr ⟨decide_eq_false (by omega), decide_eq_false h, by omega, by omega, by omega⟩

set_option maxHeartbeats 1600000 in
theorem l4User_any (s : ByteArray) (w : World) (hs : s.size ≤ 9223372036854775800) :
    Calls Tryd.prog 35 #[.string s] w fun e w' => e = .returned (.bool (userT s)) ∧ w' = w := by
  obtain ⟨R, hR⟩ : ∃ R, userT s = R := ⟨_, rfl⟩
  have HR : Hid (userT s = R) := hR
  rw [hR]
  clear hR
  go_enter Tryd.func35, Tryd.ntmps35
  go_wp2_with fail
  go_loop [3] (fun i => ∃ k : Nat, k ≤ s.size ∧ i = .int .i64 k ∧ Hid (((s.data.toList.take k).all fun b => userB (b.toNat : Int)) = true)) (fun i => s.size - (intOf i).toNat)
  case atStart => exact ⟨0, Nat.zero_le _, rfl, (by simp : ((s.data.toList.take 0).all fun b => userB (b.toNat : Int)) = true)⟩
  case round =>
    obtain ⟨k, hk, rfl, HA⟩ := hrel
    by_cases hlt : k < s.size
    · have hN := fun w => l4Small_any ((s[k].toNat : Int)) w
      rcases userB_split (s[k].toNat : Int) with ⟨hu, hsm | ⟨hsm, hc⟩⟩ | ⟨hu, hsm, h1, h2, h3⟩
      · have HB : Hid (((s.data.toList.take (k + 1)).all fun b => userB (b.toNat : Int)) = true) := (by rw [all_take_succ s _ k hlt, HA.out, hu]; rfl : ((s.data.toList.take (k + 1)).all fun b => userB (b.toNat : Int)) = true)
        rw [hsm] at hN
        clear HA hu hsm
        go_wp2_with (go_at_call 65; refine (hN _).mono ?_; rintro e w' ⟨rfl, rfl⟩)
        go_round
        case rel => exact ⟨k + 1, by omega, by go_num, HB⟩
        case measure => simp [intOf]; omega
      · have HB : Hid (((s.data.toList.take (k + 1)).all fun b => userB (b.toNat : Int)) = true) := (by rw [all_take_succ s _ k hlt, HA.out, hu]; rfl : ((s.data.toList.take (k + 1)).all fun b => userB (b.toNat : Int)) = true)
        rw [hsm] at hN
        clear HA hu hsm
        rcases hc with hc | hc | hc
        all_goals simp only [hc] at hN
        · skip
          go_wp2_with (go_at_call 65; refine (hN _).mono ?_; rintro e w' ⟨rfl, rfl⟩)
          clear hc
          go_round
          case rel => exact ⟨k + 1, by omega, by simp, HB⟩
          case measure => simp [intOf]; omega
        · skip
          go_wp2_with (go_at_call 65; refine (hN _).mono ?_; rintro e w' ⟨rfl, rfl⟩)
          clear hc
          go_round
          case rel => exact ⟨k + 1, by omega, by simp, HB⟩
          case measure => simp [intOf]; omega
        · skip
          go_wp2_with (go_at_call 65; refine (hN _).mono ?_; rintro e w' ⟨rfl, rfl⟩)
          clear hc
          go_round
          case rel => exact ⟨k + 1, by omega, by simp, HB⟩
          case measure => simp [intOf]; omega
      · have hRf : R = false := by rw [← HR.out]; unfold userT; rw [all_take_false s _ k hlt hu, Bool.and_false]
        have q1 : ((s[k].toNat : Int) == 45) = false := beq_eq_false_iff_ne.2 h1
        have q2 : ((s[k].toNat : Int) == 46) = false := beq_eq_false_iff_ne.2 h2
        have q3 : ((s[k].toNat : Int) == 95) = false := beq_eq_false_iff_ne.2 h3
        rw [hsm] at hN
        subst hRf
        have r1 : ((s[k].toNat : Int) != 45) = true := by simp only [bne, q1]; rfl
        have r2 : ((s[k].toNat : Int) != 46) = true := by simp only [bne, q2]; rfl
        have r3 : ((s[k].toNat : Int) != 95) = true := by simp only [bne, q3]; rfl
        clear HA HR hu hsm
        go_wp2_with (go_at_call 65; refine (hN _).mono ?_; rintro e w' ⟨rfl, rfl⟩)
        go_ret
        exact ⟨rfl, rfl⟩
    · obtain rfl : k = s.size := by omega
      have hRt : R = (decide ((1 : Int) ≤ (s.size : Int)) && decide ((s.size : Int) ≤ 8)) := by
        rw [← HR.out]
        unfold userT
        rw [← all_take_end, HA.out, Bool.and_true, ← Bool.decide_and]
        congr 1
        simp only [eq_iff_iff]
        omega
      clear HA HR
      go_wp2_with (go_at_call 36; refine (l1In_any _ _ _ _).mono ?_; rintro e w' ⟨rfl, rfl⟩)
      go_ret
      exact ⟨ret_bool hRt.symm, rfl⟩
end Go.Proofs.YtglbjibilllopaaDoor.Hub
