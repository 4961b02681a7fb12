/-
  What a word is and what a body: impl.isWord, impl.isBody, impl.isBetween and the model's l5Word, l5Body answer wordT, bodyT at every text.
-/
import Derived.Test.YtgjlgddglgffmaaGreatDoorJidUser
import Derived.Test.YtgjlgddglgffmaaGreatDoorJidSpec
namespace Go.Proofs.YtgjlgddglgffmaaGreatDoor.Hub
open Go.RowKit
set_option linter.unusedVariables false

def wordB (c : Int) : Bool := decide (33 ≤ c ∧ c ≤ 126)
def wordT (s : ByteArray) : Bool := decide (1 ≤ s.size ∧ s.size ≤ 12) && eachB wordB s
def bodyT (s : ByteArray) : Bool := decide (1 ≤ s.size ∧ s.size ≤ 60) && okT s
/-- A number between two. -/
def inI (n a b : Int) : Bool := decide (a ≤ n) && decide (n ≤ b)

theorem isBetween_any (n a b : Int) (w : World) :
    Calls Tryz.prog 46 #[.int .i64 n, .int .i64 a, .int .i64 b] w fun e w' => e = .returned (.bool (inI n a b)) ∧ w' = w := by
  by_cases h1 : a ≤ n
  · by_cases h2 : n ≤ b
    · go_enter Tryz.func46, Tryz.ntmps46
      go_wp2_with fail
      go_ret
      exact ⟨ret_bool (by unfold inI; first | (simp; done) | (simp; omega) | (rw [Bool.eq_iff_iff]; simp; omega)), rfl⟩
    · go_enter Tryz.func46, Tryz.ntmps46
      go_wp2_with fail
      go_ret
      exact ⟨ret_bool (by unfold inI; first | (simp; done) | (simp; omega) | (rw [Bool.eq_iff_iff]; simp; omega)), rfl⟩
  · go_enter Tryz.func46, Tryz.ntmps46
    go_wp2_with fail
    go_ret
    exact ⟨ret_bool (by unfold inI; first | (simp; done) | (simp; omega) | (rw [Bool.eq_iff_iff]; simp; omega)), rfl⟩

set_option maxHeartbeats 800000 in
theorem wordByte_any (c : Int) (w : World) :
    Calls Tryz.prog 93 #[.int .u8 c] w fun e w' => e = .returned (.bool (wordB c)) ∧ w' = w := by
  rcases (by omega : c < 33 ∨ (33 ≤ c ∧ c ≤ 126) ∨ 126 < c) with h | h | h
  all_goals
    go_enter Tryz.func93, Tryz.ntmps93
    go_wp2
    go_ret
    exact ⟨ret_bool (by unfold wordB; first | (simp; done) | (simp; omega) | (rw [Bool.eq_iff_iff]; simp; omega)), rfl⟩
set_option maxHeartbeats 800000 in
theorem each_wordByte (s : ByteArray) (w : World) (hs : s.size ≤ 9223372036854775800) :
    Calls Tryz.prog 68 #[.string s, .func (.func 93) #[] #[]] w fun e w' => e = .returned (.bool (eachB wordB s)) ∧ w' = w := by
  obtain ⟨R, hR⟩ : ∃ R, eachB wordB s = R := ⟨_, rfl⟩
  have HR : Hid (eachB wordB s = R) := hR
  rw [hR]
  clear hR
  go_enter Tryz.func68, Tryz.ntmps68
  go_wp2_with fail
  go_loop [8] (fun i => ∃ k : Nat, k ≤ s.size ∧ i = .int .i64 k ∧ Hid (((s.data.toList.take k).all fun b => wordB (b.toNat : Int)) = true)) (fun i => s.size - (intOf i).toNat)
  case atStart => exact ⟨0, Nat.zero_le _, rfl, (by simp : ((s.data.toList.take 0).all fun b => wordB (b.toNat : Int)) = true)⟩
  case round =>
    obtain ⟨k, hk, rfl, HA⟩ := hrel
    by_cases hlt : k < s.size
    · have hN := fun w => wordByte_any ((s[k].toNat : Int)) w
      cases hin : wordB (s[k].toNat : Int)
      · have hRf : R = false := by rw [← HR.out]; exact all_take_false s _ k hlt hin
        rw [hin] at hN
        subst hRf
        clear HA HR hin
        go_wp2_with (go_at_call 93; refine (hN _).mono ?_; rintro e w' ⟨rfl, rfl⟩)
        go_ret
        exact ⟨rfl, rfl⟩
      · have HB : Hid (((s.data.toList.take (k + 1)).all fun b => wordB (b.toNat : Int)) = true) := (by rw [all_take_succ s _ k hlt, HA.out, hin]; rfl : ((s.data.toList.take (k + 1)).all fun b => wordB (b.toNat : Int)) = true)
        rw [hin] at hN
        clear HA hin
        go_wp2_with (go_at_call 93; refine (hN _).mono ?_; rintro e w' ⟨rfl, rfl⟩)
        go_round
        case rel => exact ⟨k + 1, by omega, by go_num, HB⟩
        case measure => simp [intOf]; omega
    · obtain rfl : k = s.size := by omega
      have hRt : R = true := by rw [← HR.out, ← all_take_end]; exact HA.out
      subst hRt
      clear HA HR
      go_wp2_with fail
      go_ret
      exact ⟨rfl, rfl⟩
set_option maxHeartbeats 800000 in
theorem isWord_any (s : ByteArray) (w : World) (hs : s.size ≤ 9223372036854775800) :
    Calls Tryz.prog 75 #[.string s] w fun e w' => e = .returned (.bool (wordT s)) ∧ w' = w := by
  rcases (by omega : s.size = 0 ∨ (1 ≤ s.size ∧ s.size ≤ 12) ∨ 12 < s.size) with h0 | h0 | h0
  · have hz := size_zero s h0
    subst hz
    go_enter Tryz.func75, Tryz.ntmps75
    go_wp2_with fail
    go_ret
    exact ⟨rfl, rfl⟩
  · have he : s.toList.isEmpty = false := not_empty s (by omega)
    have hg : (s.size : Int) ≤ 12 := by omega
    have hu : wordT s = eachB wordB s := by unfold wordT; rw [decide_eq_true h0]; rfl
    have hN := fun w => each_wordByte s w hs
    rw [hu]
    obtain ⟨R, hR⟩ : ∃ R, eachB wordB s = R := ⟨_, rfl⟩
    rw [hR] at hN ⊢
    clear hu hR
    cases R
    all_goals
      go_enter Tryz.func75, Tryz.ntmps75
      go_wp2_with (go_at_call 68; refine (hN _).mono ?_; rintro e w' ⟨rfl, rfl⟩)
      go_ret
      exact ⟨rfl, rfl⟩
  · have he : s.toList.isEmpty = false := not_empty s (by omega)
    have hg : decide ((s.size : Int) ≤ 12) = false := by simp; omega
    have hu : wordT s = false := by unfold wordT; rw [decide_eq_false (by omega)]; rfl
    rw [hu]
    clear hu
    go_enter Tryz.func75, Tryz.ntmps75
    go_wp2_with fail
    go_ret
    exact ⟨rfl, rfl⟩
set_option maxHeartbeats 800000 in
theorem isBody_any (s : ByteArray) (w : World) (hs : s.size ≤ 9223372036854775800) (hT : Tabs w) :
    Calls Tryz.prog 47 #[.string s] w fun e w' => e = .returned (.bool (bodyT s)) ∧ Below w.heap.size w w' := by
  rcases (by omega : s.size = 0 ∨ (1 ≤ s.size ∧ s.size ≤ 60) ∨ 60 < s.size) with h0 | h0 | h0
  · have hz := size_zero s h0
    subst hz
    go_enter Tryz.func47, Tryz.ntmps47
    go_wp2_with fail
    go_ret
    exact ⟨rfl, Below.refl _ _⟩
  · have he : s.toList.isEmpty = false := not_empty s (by omega)
    have hg : (s.size : Int) ≤ 60 := by omega
    have hu : bodyT s = okT s := by unfold bodyT; rw [decide_eq_true h0]; rfl
    have hO := textOk_any s w hs hT
    rw [hu]
    obtain ⟨R, hR⟩ : ∃ R, okT s = R := ⟨_, rfl⟩
    rw [hR] at hO ⊢
    clear hu hR
    cases R
    all_goals
      go_enter Tryz.func47, Tryz.ntmps47
      go_wp2_with (go_at_call 70; refine hO.mono ?_; rintro e w1 ⟨rfl, b1⟩)
      go_ret
      exact ⟨rfl, b1⟩
  · have he : s.toList.isEmpty = false := not_empty s (by omega)
    have hg : decide ((s.size : Int) ≤ 60) = false := by simp; omega
    have hu : bodyT s = false := by unfold bodyT; rw [decide_eq_false (by omega)]; rfl
    rw [hu]
    clear hu
    go_enter Tryz.func47, Tryz.ntmps47
    go_wp2_with fail
    go_ret
    exact ⟨rfl, Below.refl _ _⟩
set_option maxHeartbeats 800000 in
theorem l5Word_any (s : ByteArray) (w : World) (hs : s.size ≤ 9223372036854775800) :
    Calls Tryz.prog 83 #[.string s] w fun e w' => e = .returned (.bool (wordT s)) ∧ w' = w := by
  obtain ⟨R, hR⟩ : ∃ R, wordT s = R := ⟨_, rfl⟩
  have HR : Hid (wordT s = R) := hR
  rw [hR]
  clear hR
  go_enter Tryz.func83, Tryz.ntmps83
  go_wp2_with fail
  go_loop [3] (fun i => ∃ k : Nat, k ≤ s.size ∧ i = .int .i64 k ∧ Hid (((s.data.toList.take k).all fun b => wordB (b.toNat : Int)) = true)) (fun i => s.size - (intOf i).toNat)
  case atStart => exact ⟨0, Nat.zero_le _, rfl, (by simp : ((s.data.toList.take 0).all fun b => wordB (b.toNat : Int)) = true)⟩
  case round =>
    obtain ⟨k, hk, rfl, HA⟩ := hrel
    by_cases hlt : k < s.size
    · cases hin : wordB (s[k].toNat : Int)
      · have hRf : R = false := by
          rw [← HR.out]; unfold wordT; rw [all_take_false s _ k hlt hin, Bool.and_false]
        have hn := of_decide_eq_false hin
        subst hRf
        clear HA HR hin
        rcases (by omega : (s[k].toNat : Int) ≤ 32 ∨ (32 < (s[k].toNat : Int) ∧ 127 ≤ (s[k].toNat : Int))) with h1 | ⟨h1, h2⟩
        · clear hn
          go_wp2_with fail
          go_ret
          exact ⟨rfl, rfl⟩
        · clear hn
          go_wp2_with fail
          go_ret
          exact ⟨rfl, rfl⟩
      · have hn := of_decide_eq_true hin
        have HB : Hid (((s.data.toList.take (k + 1)).all fun b => wordB (b.toNat : Int)) = true) := (by rw [all_take_succ s _ k hlt, HA.out, hin]; rfl : ((s.data.toList.take (k + 1)).all fun b => wordB (b.toNat : Int)) = true)
        obtain ⟨h1, h2⟩ := hn
        have h3 : decide ((s[k].toNat : Int) ≤ 32) = false := by simp; omega
        have h4 : decide (127 ≤ (s[k].toNat : Int)) = false := by simp; omega
        clear HA hin
        go_wp2_with fail
        clear h1 h2 h3 h4
        go_round
        case rel => exact ⟨k + 1, by omega, by go_num, HB⟩
        case measure => simp [intOf]; omega
    · obtain rfl : k = s.size := by omega
      have hRt : R = (decide ((1 : Int) ≤ (s.size : Int)) && decide ((s.size : Int) ≤ 12)) := by
        rw [← HR.out]
        unfold wordT
        rw [← all_take_end, HA.out, Bool.and_true, ← Bool.decide_and]
        congr 1
        simp only [eq_iff_iff]
        omega
      clear HA HR
      go_wp2_with (go_at_call 34; refine (l1In_any _ _ _ _).mono ?_; rintro e w' ⟨rfl, rfl⟩)
      go_ret
      exact ⟨ret_bool hRt.symm, rfl⟩
set_option maxHeartbeats 800000 in
theorem l5Body_any (s : ByteArray) (w : World) (hs : s.size ≤ 9223372036854775800) :
    Calls Tryz.prog 35 #[.string s] w fun e w' => e = .returned (.bool (bodyT s)) ∧ Below w.heap.size w w' := by
  have hU := l1Utf_any s w hs
  have hu : bodyT s = (okT s && (decide ((1 : Int) ≤ (s.size : Int)) && decide ((s.size : Int) ≤ 60))) := by
    unfold bodyT
    rw [Bool.and_comm, ← Bool.decide_and]
    congr 2
    simp only [eq_iff_iff]
    omega
  rw [hu]
  obtain ⟨R, hR⟩ : ∃ R, okT s = R := ⟨_, rfl⟩
  rw [hR] at hU ⊢
  clear hu hR
  cases R
  all_goals
    go_enter Tryz.func35, Tryz.ntmps35
    go_wp2_with (first | (go_at_call 63; refine hU.mono ?_; rintro e w1 ⟨rfl, b1⟩) | (go_at_call 34; refine (l1In_any _ _ _ _).mono ?_; rintro e w' ⟨rfl, rfl⟩))
    go_ret
    exact ⟨ret_bool (by simp), b1⟩
end Go.Proofs.YtgjlgddglgffmaaGreatDoor.Hub
