/-
  The model's l4Host and l4Nick: at every text of at most 2^40 bytes they answer hostT and nickT.
-/
import Derived.Test.YtglbjibilllopaaDoorJidUser
import Derived.Test.YtglbjibilllopaaDoorJidCut
namespace Go.Proofs.YtglbjibilllopaaDoor.Hub
open Go.RowKit
set_option linter.unusedVariables false

/-- A byte of a part of a host may stand where it does. -/
def okAt (P : ByteArray) (j : Nat) (h : j < P.size) : Prop := smallB (P[j].toNat : Int) = true ∨ ((P[j].toNat : Int) = 45 ∧ j ≠ 0 ∧ j ≠ P.size - 1)
theorem small_not45 : smallB 45 = false := by decide
theorem hostB_split (c : Int) : hostB c = true ↔ smallB c = true ∨ c = 45 := by
  unfold hostB smallB
  simp only [decide_eq_true_eq]
  omega
theorem hpart_iff (P : ByteArray) : hpartT P = true ↔ 1 ≤ P.size ∧ ∀ (j : Nat) (h : j < P.size), okAt P j h := by
  unfold hpartT
  have hl : P.data.toList.length = P.size := rfl
  by_cases h0 : 1 ≤ P.size
  · rw [decide_eq_true h0, edge_cases 45 P (by omega)]
    simp only [Bool.true_and, Bool.and_eq_true, decide_eq_true_eq, eachB, List.all_eq_true]
    constructor
    · rintro ⟨ha, hb, hc⟩
      refine ⟨h0, fun j h => ?_⟩
      have hj := ha (P[j]) (by show P.data.toList[j]'(by omega) ∈ _; exact List.getElem_mem _)
      rcases (hostB_split _).1 hj with h1 | h1
      · exact .inl h1
      · refine .inr ⟨h1, ?_, ?_⟩
        · rintro rfl; omega
        · rintro rfl; omega
    · rintro ⟨_, ha⟩
      refine ⟨fun b hb => ?_, ?_, ?_⟩
      · obtain ⟨j, hj, rfl⟩ := List.getElem_of_mem hb
        have := ha j (by omega)
        rcases this with h1 | ⟨h1, _⟩
        · exact (hostB_split _).2 (.inl h1)
        · exact (hostB_split _).2 (.inr h1)
      · intro e
        rcases ha 0 (by omega) with h1 | ⟨_, h1, _⟩
        · rw [e] at h1; exact absurd h1 (by decide)
        · exact h1 rfl
      · intro e
        rcases ha (P.size - 1) (by omega) with h1 | ⟨_, _, h1⟩
        · rw [e] at h1; exact absurd h1 (by decide)
        · exact h1 rfl
  · rw [decide_eq_false h0]
    simp only [Bool.false_and]
    constructor
    · intro h; cases h
    · rintro ⟨h, _⟩; exact absurd h h0
theorem hpart_no (P : ByteArray) (j : Nat) (h : j < P.size) (hn : ¬ okAt P j h) : hpartT P = false := by
  cases hp : hpartT P
  · rfl
  · exact absurd (((hpart_iff P).1 hp).2 j h) hn
theorem cutL_part (c : UInt8) : ∀ (m : Nat) (l p : List UInt8), p ∈ cutL c m l → p.length ≤ l.length
  | _, [], p, h => by simp [cutL] at h; simp [h]
  | 0, x :: xs, p, h => by rw [cutL_zero] at h; simp at h; simp [h]
  | m + 1, x :: xs, p, h => by
    rw [cutL_cons] at h
    split at h
    · rcases List.mem_cons.1 h with rfl | h
      · simp
      · have := cutL_part c m xs p h; simp; omega
    · cases hq : cutL c (m + 1) xs with
      | nil => exact absurd hq (cutL_ne _ _ _)
      | cons q qs =>
        rw [hq] at h
        simp only [consTo] at h
        rcases List.mem_cons.1 h with rfl | h
        · have := cutL_part c (m + 1) xs q (by rw [hq]; simp)
          simp; omega
        · have := cutL_part c (m + 1) xs p (by rw [hq]; simp [h])
          simp; omega
/-- All but the first i parts are looked at no more. -/
def restOk (ps : List (List UInt8)) (i : Nat) : Prop := ∀ j (h : j < ps.length), j < i → hpartT (ofL ps[j]) = true
theorem host_no (s : ByteArray) (ps : List (List UInt8)) (hps : cutL 46 s.size s.data.toList = ps) (i : Nat) (hi : i < ps.length) (h : hpartT (ofL ps[i]) = false) : hostT s = false := by
  unfold hostT
  rw [hps]
  have : (ps.all fun p => hpartT (ofL p)) = false := by
    rw [List.all_eq_false]
    exact ⟨ps[i], List.getElem_mem _, by rw [h]; decide⟩
  rw [this, Bool.and_false]
theorem host_yes (s : ByteArray) (ps : List (List UInt8)) (hps : cutL 46 s.size s.data.toList = ps) (h : restOk ps ps.length) : hostT s = decide ((s.size : Int) ≤ 20) := by
  unfold hostT
  rw [hps]
  have : (ps.all fun p => hpartT (ofL p)) = true := by
    rw [List.all_eq_true]
    intro p hp
    obtain ⟨j, hj, rfl⟩ := List.getElem_of_mem hp
    exact h j hj hj
  rw [this, Bool.and_true]
  congr 1
  simp only [eq_iff_iff]
  omega

theorem nick_all (s : ByteArray) (h : eachB nickB s = true) : nickT s = (okT s && (decide (1 ≤ s.size ∧ s.size ≤ 10) && edgeB 32 s)) := by
  unfold nickT
  rw [h]
  cases okT s <;> cases decide (1 ≤ s.size ∧ s.size ≤ 10) <;> cases edgeB 32 s <;> rfl
set_option maxRecDepth 100000 in
set_option maxHeartbeats 2000000 in
theorem l4Nick_any (s : ByteArray) (w : World) (hs : s.size ≤ 9223372036854775800) :
    Calls Tryd.prog 67 #[.string s] w fun e w' => e = .returned (.bool (nickT s)) ∧ Below w.heap.size w w' := by
  obtain ⟨R, hR⟩ : ∃ R, nickT s = R := ⟨_, rfl⟩
  have HR : Hid (nickT s = R) := hR
  rw [hR]
  clear hR
  go_enter Tryd.func67, Tryd.ntmps67
  go_wp2_with fail
  go_loop [3] (fun i => ∃ k : Nat, k ≤ s.size ∧ i = .int .i64 k ∧ Hid (((s.data.toList.take k).all fun b => nickB (b.toNat : Int)) = true)) (fun i => s.size - (intOf i).toNat)
  case atStart => exact ⟨0, Nat.zero_le _, rfl, (by simp : ((s.data.toList.take 0).all fun b => nickB (b.toNat : Int)) = true)⟩
  case round =>
    obtain ⟨k, hk, rfl, HA⟩ := hrel
    by_cases hlt : k < s.size
    · cases hin : nickB (s[k].toNat : Int)
      · have hRf : R = false := by
          rw [← HR.out]; unfold nickT; rw [all_take_false s _ k hlt hin, Bool.and_false, Bool.false_and]
        have hn := of_decide_eq_false hin
        subst hRf
        clear HA HR hin
        rcases (by omega : (s[k].toNat : Int) < 32 ∨ (32 ≤ (s[k].toNat : Int) ∧ (s[k].toNat : Int) = 127)) with h1 | ⟨h1, h2⟩
        · clear hn
          go_wp2_with fail
          go_ret
          exact ⟨rfl, Below.refl _ _⟩
        · clear hn
          go_wp2_with fail
          go_ret
          exact ⟨rfl, Below.refl _ _⟩
      · have hn := of_decide_eq_true hin
        have HB : Hid (((s.data.toList.take (k + 1)).all fun b => nickB (b.toNat : Int)) = true) := (by rw [all_take_succ s _ k hlt, HA.out, hin]; rfl : ((s.data.toList.take (k + 1)).all fun b => nickB (b.toNat : Int)) = true)
        obtain ⟨h1, h2⟩ := hn
        have h3 : decide ((s[k].toNat : Int) < 32) = false := by simp; omega
        have q1 : ((s[k].toNat : Int) == 127) = false := beq_eq_false_iff_ne.2 h2
        clear HA hin
        go_wp2_with fail
        clear h1 h2 h3 q1
        go_round
        case rel => exact ⟨k + 1, by omega, by go_num, HB⟩
        case measure => simp [intOf]; omega
    · obtain rfl : k = s.size := by omega
      have hall : eachB nickB s = true := by rw [← all_take_end]; exact HA.out
      have hR2 : R = (okT s && (decide (1 ≤ s.size ∧ s.size ≤ 10) && edgeB 32 s)) := by rw [← HR.out]; exact nick_all s hall
      have hU := l1Utf_any s w hs
      obtain ⟨O, hO⟩ : ∃ O, okT s = O := ⟨_, rfl⟩
      rw [hO] at hR2 hU
      clear HA HR hall hO
      cases O
      · have hRf : R = false := by rw [hR2]; rfl
        clear hR2
        subst hRf
        go_wp2_with (go_at_call 66; refine hU.mono ?_; rintro e w1 ⟨rfl, b1⟩)
        go_ret
        exact ⟨rfl, b1⟩
      · by_cases h0 : 1 ≤ s.size ∧ s.size ≤ 10
        · have h1 : 0 < s.size := by omega
          have hl : s.size - 1 < s.size := by omega
          have hi : (s.size : Int) - 1 = ((s.size - 1 : Nat) : Int) := by omega
          have c1 : (1 : Int) ≤ (s.size : Int) := by omega
          have c2 : (s.size : Int) ≤ 10 := by omega
          rw [decide_eq_true h0, edge_cases 32 s h1, Bool.true_and, Bool.true_and] at hR2
          by_cases ha : s[0].toNat = 32
          · have haI : (s[0].toNat : Int) = 32 := by omega
            have hRf : R = false := by rw [hR2, decide_eq_false (by omega : ¬ s[0].toNat ≠ 32)]; rfl
            clear hR2 ha
            subst hRf
            go_wp2_with (first | (go_at_call 66; refine hU.mono ?_; rintro e w1 ⟨rfl, b1⟩) | (go_at_call 36; refine (l1In_any _ _ _ _).mono ?_; rintro e w' ⟨rfl, rfl⟩))
            go_ret
            exact ⟨rfl, b1⟩
          · have hb : ((s[0].toNat : Int) == 32) = false := beq_eq_false_iff_ne.2 (by omega)
            have hb2 : ((s[0].toNat : Int) != 32) = true := by simp only [bne, hb]; rfl
            rw [decide_eq_true ha, Bool.true_and] at hR2
            by_cases hc : (s[s.size - 1]'(by omega)).toNat = 32
            · have hd : (((s[s.size - 1]'(by omega)).toNat : Int) == 32) = true := by rw [hc]; rfl
              have hRf : R = false := by rw [hR2, decide_eq_false (by omega : ¬ (s[s.size - 1]'(by omega)).toNat ≠ 32)]
              clear hR2
              subst hRf
              go_wp2_with (first | (go_at_call 66; refine hU.mono ?_; rintro e w1 ⟨rfl, b1⟩) | (go_at_call 36; refine (l1In_any _ _ _ _).mono ?_; rintro e w' ⟨rfl, rfl⟩))
              go_ret
              exact ⟨ret_bool (by simp), b1⟩
            · have hd : (((s[s.size - 1]'(by omega)).toNat : Int) == 32) = false := beq_eq_false_iff_ne.2 (by omega)
              have hRf : R = true := by rw [hR2, decide_eq_true hc]
              clear hR2
              subst hRf
              go_wp2_with (first | (go_at_call 66; refine hU.mono ?_; rintro e w1 ⟨rfl, b1⟩) | (go_at_call 36; refine (l1In_any _ _ _ _).mono ?_; rintro e w' ⟨rfl, rfl⟩))
              go_ret
              exact ⟨ret_bool (by simp [bne, hd]), b1⟩
        · have hRf : R = false := by rw [hR2, decide_eq_false h0]; rfl
          clear hR2
          subst hRf
          rcases (by omega : s.size = 0 ∨ 10 < s.size) with h1 | h1
          · have c1 : decide ((1 : Int) ≤ (s.size : Int)) = false := by simp; omega
            have c0 : ¬ (1 : Int) ≤ (s.size : Int) := by omega
            go_wp2_with (first | (go_at_call 66; refine hU.mono ?_; rintro e w1 ⟨rfl, b1⟩) | (go_at_call 36; refine (l1In_any _ _ _ _).mono ?_; rintro e w' ⟨rfl, rfl⟩))
            go_ret
            exact ⟨rfl, b1⟩
          · have c1 : (1 : Int) ≤ (s.size : Int) := by omega
            have c2 : decide ((s.size : Int) ≤ 10) = false := by simp; omega
            have c0 : ¬ (s.size : Int) ≤ 10 := by omega
            go_wp2_with (first | (go_at_call 66; refine hU.mono ?_; rintro e w1 ⟨rfl, b1⟩) | (go_at_call 36; refine (l1In_any _ _ _ _).mono ?_; rintro e w' ⟨rfl, rfl⟩))
            go_ret
            exact ⟨rfl, b1⟩
end Go.Proofs.YtglbjibilllopaaDoor.Hub
