/-
  unicode/utf8.FullRuneInString: at every text that is not empty it answers whether its first sign is not cut off (the tables of unicode/utf8 as they are laid).
-/
import Derived.Test.YtbcledidadjddaaDoorTextImpl
import Derived.Deep.QuietTactic
import Derived.BigQuiet
import Derived.WalkSmall
namespace Go.Proofs.YtbcledidadjddaaDoor.Hub
open Go.RowKit Go.Lib
set_option linter.unusedVariables false

def loN (b : Nat) : Nat := if b = 224 then 160 else if b = 240 then 144 else 128
def hiN (b : Nat) : Nat := if b = 237 then 159 else if b = 244 then 143 else 191
/-- Whether a sign that begins so is cut off. -/
def cutD (n b0 b1 b2 : Nat) : Bool := decide ((194 ≤ b0 ∧ b0 ≤ 244) ∧ n < leadN b0 ∧ (n ≤ 1 ∨ (loN b0 ≤ b1 ∧ b1 ≤ hiN b0)) ∧ (n ≤ 2 ∨ (128 ≤ b2 ∧ b2 ≤ 191)))
def Full (s : ByteArray) (w : World) (e : Ending) (w' : World) : Prop := e = .returned (.bool (!cutD s.size (s.get! 0).toNat (s.get! 1).toNat (s.get! 2).toNat)) ∧ Below w.heap.size w w'

set_option maxRecDepth 100000 in
set_option maxHeartbeats 2000000 in
theorem full_2 (s : ByteArray) (w : World) (h0 : 0 < s.size) (b0 : Nat) (e0 : s[0].toNat = b0) (hb : 194 ≤ b0 ∧ b0 ≤ 223) (hT : Lib.Utf8Tabs 0 1 w) :
    Calls Tryd.prog 85 #[.string s] w fun e w' => Full s w e w' := by
  have hc0 := hT.1 b0 (by omega)
  rw [show Lib.firstT b0 = 2 by unfold Lib.firstT; (repeat' split) <;> omega] at hc0
  have ha0 := (hT.2 0 (by omega)).1
  have ha1 := (hT.2 0 (by omega)).2
  simp only [Lib.accLo, Lib.accHi, Nat.reduceMul, Nat.reduceAdd, Nat.reduceEqDiff, if_true, if_false] at ha0 ha1
  have hlead : leadN b0 = 2 := leadN_two (by omega)
  have hlo : loN b0 = 128 := by unfold loN; (repeat' split) <;> omega
  have hhi : hiN b0 = 191 := by unfold hiN; (repeat' split) <;> omega
  have g0 : (s.get! 0).toNat = b0 := by rw [get_lt s 0 h0, e0]
  have l1 : (s.get! 1).toNat < 256 := UInt8.toNat_lt _
  have l2 : (s.get! 2).toNat < 256 := UInt8.toNat_lt _
  have e1 : ∀ h : 1 < s.size, (s[1]'h).toNat = (s.get! 1).toNat := fun h => (get_lt s 1 h).symm
  have e2 : ∀ h : 2 < s.size, (s[2]'h).toNat = (s.get! 2).toNat := fun h => (get_lt s 2 h).symm
  unfold Full
  rw [g0]
  generalize (s.get! 1).toNat = b1 at e1 l1 ⊢
  generalize (s.get! 2).toNat = b2 at e2 l2 ⊢
  obtain ⟨C, hC⟩ : ∃ C, cutD s.size b0 b1 b2 = C := ⟨_, rfl⟩
  rw [hC]
  have hC2 : C = decide (s.size < 2 ∧ (s.size ≤ 1 ∨ (128 ≤ b1 ∧ b1 ≤ 191)) ∧ (s.size ≤ 2 ∨ (128 ≤ b2 ∧ b2 ≤ 191))) := by
    rw [← hC]; unfold cutD; rw [hlead, hlo, hhi, decide_eq_decide]; omega
  clear hC hlead hlo hhi g0 hT
  have hb256 : b0 < 256 := by omega
  have hsz0 : ((s.size : Int) == 0) = false := beq_eq_false_iff_ne.2 (by omega)
  by_cases hn : 2 ≤ s.size
  · have hc : C = false := by rw [hC2]; exact decide_eq_false (by omega)
    subst hc
    clear hC2 e1 e2 hb
    have hn2 : (2 : Int) ≤ (s.size : Int) := by omega
    go_enter Tryd.func85, Tryd.ntmps85
    go_wp2
    go_ret
    exact ⟨rfl, Below.refl _ _⟩
  rcases (by omega : s.size = 1) with q
  · clear e1 e2
    have q1 : decide ((1 : Int) < (s.size : Int)) = false := decide_eq_false (by omega)
    have q2 : decide ((2 : Int) < (s.size : Int)) = false := decide_eq_false (by omega)
    have q3 : (s.size : Int) < 2 := by omega
    have q4 : (s.size : Int) ≤ 1 := by omega
    have hc : C = true := by rw [hC2]; exact decide_eq_true (by omega)
    subst hc
    clear hC2 hb
    go_enter Tryd.func85, Tryd.ntmps85
    go_wp2
    go_quiet (fail)
    go_wp2
    go_ret
    exact ⟨rfl, below_drewN ((Below.refl _ _).alloc (Nat.le_refl _) _) _⟩

set_option maxRecDepth 100000 in
set_option maxHeartbeats 2000000 in
theorem full_19 (s : ByteArray) (w : World) (h0 : 0 < s.size) (b0 : Nat) (e0 : s[0].toNat = b0) (hb : b0 = 224) (hT : Lib.Utf8Tabs 0 1 w) :
    Calls Tryd.prog 85 #[.string s] w fun e w' => Full s w e w' := by
  have hc0 := hT.1 b0 (by omega)
  rw [show Lib.firstT b0 = 19 by unfold Lib.firstT; (repeat' split) <;> omega] at hc0
  have ha0 := (hT.2 1 (by omega)).1
  have ha1 := (hT.2 1 (by omega)).2
  simp only [Lib.accLo, Lib.accHi, Nat.reduceMul, Nat.reduceAdd, Nat.reduceEqDiff, if_true, if_false] at ha0 ha1
  have hlead : leadN b0 = 3 := leadN_three (by omega)
  have hlo : loN b0 = 160 := by unfold loN; (repeat' split) <;> omega
  have hhi : hiN b0 = 191 := by unfold hiN; (repeat' split) <;> omega
  have g0 : (s.get! 0).toNat = b0 := by rw [get_lt s 0 h0, e0]
  have l1 : (s.get! 1).toNat < 256 := UInt8.toNat_lt _
  have l2 : (s.get! 2).toNat < 256 := UInt8.toNat_lt _
  have e1 : ∀ h : 1 < s.size, (s[1]'h).toNat = (s.get! 1).toNat := fun h => (get_lt s 1 h).symm
  have e2 : ∀ h : 2 < s.size, (s[2]'h).toNat = (s.get! 2).toNat := fun h => (get_lt s 2 h).symm
  unfold Full
  rw [g0]
  generalize (s.get! 1).toNat = b1 at e1 l1 ⊢
  generalize (s.get! 2).toNat = b2 at e2 l2 ⊢
  obtain ⟨C, hC⟩ : ∃ C, cutD s.size b0 b1 b2 = C := ⟨_, rfl⟩
  rw [hC]
  have hC2 : C = decide (s.size < 3 ∧ (s.size ≤ 1 ∨ (160 ≤ b1 ∧ b1 ≤ 191)) ∧ (s.size ≤ 2 ∨ (128 ≤ b2 ∧ b2 ≤ 191))) := by
    rw [← hC]; unfold cutD; rw [hlead, hlo, hhi, decide_eq_decide]; omega
  clear hC hlead hlo hhi g0 hT
  have hb256 : b0 < 256 := by omega
  have hsz0 : ((s.size : Int) == 0) = false := beq_eq_false_iff_ne.2 (by omega)
  by_cases hn : 3 ≤ s.size
  · have hc : C = false := by rw [hC2]; exact decide_eq_false (by omega)
    subst hc
    clear hC2 e1 e2 hb
    have hn2 : (3 : Int) ≤ (s.size : Int) := by omega
    go_enter Tryd.func85, Tryd.ntmps85
    go_wp2
    go_ret
    exact ⟨rfl, Below.refl _ _⟩
  rcases (by omega : s.size = 1 ∨ s.size = 2) with q | q
  · clear e1 e2
    have q1 : decide ((1 : Int) < (s.size : Int)) = false := decide_eq_false (by omega)
    have q2 : decide ((2 : Int) < (s.size : Int)) = false := decide_eq_false (by omega)
    have q3 : (s.size : Int) < 3 := by omega
    have q4 : (s.size : Int) ≤ 1 := by omega
    have hc : C = true := by rw [hC2]; exact decide_eq_true (by omega)
    subst hc
    clear hC2 hb
    go_enter Tryd.func85, Tryd.ntmps85
    go_wp2
    go_quiet (fail)
    go_wp2
    go_ret
    exact ⟨rfl, below_drewN ((Below.refl _ _).alloc (Nat.le_refl _) _) _⟩
  · have hi1 : 1 < s.size := by omega
    have e1 := e1 hi1
    have q1 : (1 : Int) < (s.size : Int) := by omega
    have q1d : decide ((1 : Int) < (s.size : Int)) = true := decide_eq_true (by omega)
    have q3 : (s.size : Int) < 3 := by omega
    have q2 : decide ((2 : Int) < (s.size : Int)) = false := decide_eq_false (by omega)
    have q2i : (s.size : Int) ≤ 2 := by omega
    clear e2
    rcases (by omega : b1 < 160 ∨ 191 < b1 ∨ (160 ≤ b1 ∧ b1 ≤ 191)) with v | v | v
    · have v1 : decide ((b1 : Int) < 160) = true := decide_eq_true (by omega)
      have v1i : (b1 : Int) < 160 := by omega
      have hc : C = false := by rw [hC2]; exact decide_eq_false (by omega)
      subst hc
      clear hC2 hb
      go_enter Tryd.func85, Tryd.ntmps85
      go_wp2
      go_quiet (fail)
      go_wp2
      go_ret
      exact ⟨rfl, below_drewN ((Below.refl _ _).alloc (Nat.le_refl _) _) _⟩
    · have v1 : decide ((b1 : Int) < 160) = false := decide_eq_false (by omega)
      have v1j : (160 : Int) ≤ (b1 : Int) := by omega
      have v2 : decide ((191 : Int) < (b1 : Int)) = true := decide_eq_true (by omega)
      have v2i : (191 : Int) < (b1 : Int) := by omega
      have hc : C = false := by rw [hC2]; exact decide_eq_false (by omega)
      subst hc
      clear hC2 hb
      go_enter Tryd.func85, Tryd.ntmps85
      go_wp2
      go_quiet (fail)
      go_wp2
      go_ret
      exact ⟨rfl, below_drewN ((Below.refl _ _).alloc (Nat.le_refl _) _) _⟩
    · have v1 : decide ((b1 : Int) < 160) = false := decide_eq_false (by omega)
      have v1j : (160 : Int) ≤ (b1 : Int) := by omega
      have v2 : decide ((191 : Int) < (b1 : Int)) = false := decide_eq_false (by omega)
      have v2j : (b1 : Int) ≤ 191 := by omega
      have hc : C = true := by rw [hC2]; exact decide_eq_true (by omega)
      subst hc
      clear hC2 hb
      go_enter Tryd.func85, Tryd.ntmps85
      go_wp2
      go_quiet (fail)
      go_wp2
      go_ret
      exact ⟨rfl, below_drewN ((Below.refl _ _).alloc (Nat.le_refl _) _) _⟩

set_option maxRecDepth 100000 in
set_option maxHeartbeats 2000000 in
theorem full_3 (s : ByteArray) (w : World) (h0 : 0 < s.size) (b0 : Nat) (e0 : s[0].toNat = b0) (hb : (225 ≤ b0 ∧ b0 < 237) ∨ (237 < b0 ∧ b0 ≤ 239)) (hT : Lib.Utf8Tabs 0 1 w) :
    Calls Tryd.prog 85 #[.string s] w fun e w' => Full s w e w' := by
  have hc0 := hT.1 b0 (by omega)
  rw [show Lib.firstT b0 = 3 by unfold Lib.firstT; (repeat' split) <;> omega] at hc0
  have ha0 := (hT.2 0 (by omega)).1
  have ha1 := (hT.2 0 (by omega)).2
  simp only [Lib.accLo, Lib.accHi, Nat.reduceMul, Nat.reduceAdd, Nat.reduceEqDiff, if_true, if_false] at ha0 ha1
  have hlead : leadN b0 = 3 := leadN_three (by omega)
  have hlo : loN b0 = 128 := by unfold loN; (repeat' split) <;> omega
  have hhi : hiN b0 = 191 := by unfold hiN; (repeat' split) <;> omega
  have g0 : (s.get! 0).toNat = b0 := by rw [get_lt s 0 h0, e0]
  have l1 : (s.get! 1).toNat < 256 := UInt8.toNat_lt _
  have l2 : (s.get! 2).toNat < 256 := UInt8.toNat_lt _
  have e1 : ∀ h : 1 < s.size, (s[1]'h).toNat = (s.get! 1).toNat := fun h => (get_lt s 1 h).symm
  have e2 : ∀ h : 2 < s.size, (s[2]'h).toNat = (s.get! 2).toNat := fun h => (get_lt s 2 h).symm
  unfold Full
  rw [g0]
  generalize (s.get! 1).toNat = b1 at e1 l1 ⊢
  generalize (s.get! 2).toNat = b2 at e2 l2 ⊢
  obtain ⟨C, hC⟩ : ∃ C, cutD s.size b0 b1 b2 = C := ⟨_, rfl⟩
  rw [hC]
  have hC2 : C = decide (s.size < 3 ∧ (s.size ≤ 1 ∨ (128 ≤ b1 ∧ b1 ≤ 191)) ∧ (s.size ≤ 2 ∨ (128 ≤ b2 ∧ b2 ≤ 191))) := by
    rw [← hC]; unfold cutD; rw [hlead, hlo, hhi, decide_eq_decide]; omega
  clear hC hlead hlo hhi g0 hT
  have hb256 : b0 < 256 := by omega
  have hsz0 : ((s.size : Int) == 0) = false := beq_eq_false_iff_ne.2 (by omega)
  by_cases hn : 3 ≤ s.size
  · have hc : C = false := by rw [hC2]; exact decide_eq_false (by omega)
    subst hc
    clear hC2 e1 e2 hb
    have hn2 : (3 : Int) ≤ (s.size : Int) := by omega
    go_enter Tryd.func85, Tryd.ntmps85
    go_wp2
    go_ret
    exact ⟨rfl, Below.refl _ _⟩
  rcases (by omega : s.size = 1 ∨ s.size = 2) with q | q
  · clear e1 e2
    have q1 : decide ((1 : Int) < (s.size : Int)) = false := decide_eq_false (by omega)
    have q2 : decide ((2 : Int) < (s.size : Int)) = false := decide_eq_false (by omega)
    have q3 : (s.size : Int) < 3 := by omega
    have q4 : (s.size : Int) ≤ 1 := by omega
    have hc : C = true := by rw [hC2]; exact decide_eq_true (by omega)
    subst hc
    clear hC2 hb
    go_enter Tryd.func85, Tryd.ntmps85
    go_wp2
    go_quiet (fail)
    go_wp2
    go_ret
    exact ⟨rfl, below_drewN ((Below.refl _ _).alloc (Nat.le_refl _) _) _⟩
  · have hi1 : 1 < s.size := by omega
    have e1 := e1 hi1
    have q1 : (1 : Int) < (s.size : Int) := by omega
    have q1d : decide ((1 : Int) < (s.size : Int)) = true := decide_eq_true (by omega)
    have q3 : (s.size : Int) < 3 := by omega
    have q2 : decide ((2 : Int) < (s.size : Int)) = false := decide_eq_false (by omega)
    have q2i : (s.size : Int) ≤ 2 := by omega
    clear e2
    rcases (by omega : b1 < 128 ∨ 191 < b1 ∨ (128 ≤ b1 ∧ b1 ≤ 191)) with v | v | v
    · have v1 : decide ((b1 : Int) < 128) = true := decide_eq_true (by omega)
      have v1i : (b1 : Int) < 128 := by omega
      have hc : C = false := by rw [hC2]; exact decide_eq_false (by omega)
      subst hc
      clear hC2 hb
      go_enter Tryd.func85, Tryd.ntmps85
      go_wp2
      go_quiet (fail)
      go_wp2
      go_ret
      exact ⟨rfl, below_drewN ((Below.refl _ _).alloc (Nat.le_refl _) _) _⟩
    · have v1 : decide ((b1 : Int) < 128) = false := decide_eq_false (by omega)
      have v1j : (128 : Int) ≤ (b1 : Int) := by omega
      have v2 : decide ((191 : Int) < (b1 : Int)) = true := decide_eq_true (by omega)
      have v2i : (191 : Int) < (b1 : Int) := by omega
      have hc : C = false := by rw [hC2]; exact decide_eq_false (by omega)
      subst hc
      clear hC2 hb
      go_enter Tryd.func85, Tryd.ntmps85
      go_wp2
      go_quiet (fail)
      go_wp2
      go_ret
      exact ⟨rfl, below_drewN ((Below.refl _ _).alloc (Nat.le_refl _) _) _⟩
    · have v1 : decide ((b1 : Int) < 128) = false := decide_eq_false (by omega)
      have v1j : (128 : Int) ≤ (b1 : Int) := by omega
      have v2 : decide ((191 : Int) < (b1 : Int)) = false := decide_eq_false (by omega)
      have v2j : (b1 : Int) ≤ 191 := by omega
      have hc : C = true := by rw [hC2]; exact decide_eq_true (by omega)
      subst hc
      clear hC2 hb
      go_enter Tryd.func85, Tryd.ntmps85
      go_wp2
      go_quiet (fail)
      go_wp2
      go_ret
      exact ⟨rfl, below_drewN ((Below.refl _ _).alloc (Nat.le_refl _) _) _⟩

set_option maxRecDepth 100000 in
set_option maxHeartbeats 2000000 in
theorem full_35 (s : ByteArray) (w : World) (h0 : 0 < s.size) (b0 : Nat) (e0 : s[0].toNat = b0) (hb : b0 = 237) (hT : Lib.Utf8Tabs 0 1 w) :
    Calls Tryd.prog 85 #[.string s] w fun e w' => Full s w e w' := by
  have hc0 := hT.1 b0 (by omega)
  rw [show Lib.firstT b0 = 35 by unfold Lib.firstT; (repeat' split) <;> omega] at hc0
  have ha0 := (hT.2 2 (by omega)).1
  have ha1 := (hT.2 2 (by omega)).2
  simp only [Lib.accLo, Lib.accHi, Nat.reduceMul, Nat.reduceAdd, Nat.reduceEqDiff, if_true, if_false] at ha0 ha1
  have hlead : leadN b0 = 3 := leadN_three (by omega)
  have hlo : loN b0 = 128 := by unfold loN; (repeat' split) <;> omega
  have hhi : hiN b0 = 159 := by unfold hiN; (repeat' split) <;> omega
  have g0 : (s.get! 0).toNat = b0 := by rw [get_lt s 0 h0, e0]
  have l1 : (s.get! 1).toNat < 256 := UInt8.toNat_lt _
  have l2 : (s.get! 2).toNat < 256 := UInt8.toNat_lt _
  have e1 : ∀ h : 1 < s.size, (s[1]'h).toNat = (s.get! 1).toNat := fun h => (get_lt s 1 h).symm
  have e2 : ∀ h : 2 < s.size, (s[2]'h).toNat = (s.get! 2).toNat := fun h => (get_lt s 2 h).symm
  unfold Full
  rw [g0]
  generalize (s.get! 1).toNat = b1 at e1 l1 ⊢
  generalize (s.get! 2).toNat = b2 at e2 l2 ⊢
  obtain ⟨C, hC⟩ : ∃ C, cutD s.size b0 b1 b2 = C := ⟨_, rfl⟩
  rw [hC]
  have hC2 : C = decide (s.size < 3 ∧ (s.size ≤ 1 ∨ (128 ≤ b1 ∧ b1 ≤ 159)) ∧ (s.size ≤ 2 ∨ (128 ≤ b2 ∧ b2 ≤ 191))) := by
    rw [← hC]; unfold cutD; rw [hlead, hlo, hhi, decide_eq_decide]; omega
  clear hC hlead hlo hhi g0 hT
  have hb256 : b0 < 256 := by omega
  have hsz0 : ((s.size : Int) == 0) = false := beq_eq_false_iff_ne.2 (by omega)
  by_cases hn : 3 ≤ s.size
  · have hc : C = false := by rw [hC2]; exact decide_eq_false (by omega)
    subst hc
    clear hC2 e1 e2 hb
    have hn2 : (3 : Int) ≤ (s.size : Int) := by omega
    go_enter Tryd.func85, Tryd.ntmps85
    go_wp2
    go_ret
    exact ⟨rfl, Below.refl _ _⟩
  rcases (by omega : s.size = 1 ∨ s.size = 2) with q | q
  · clear e1 e2
    have q1 : decide ((1 : Int) < (s.size : Int)) = false := decide_eq_false (by omega)
    have q2 : decide ((2 : Int) < (s.size : Int)) = false := decide_eq_false (by omega)
    have q3 : (s.size : Int) < 3 := by omega
    have q4 : (s.size : Int) ≤ 1 := by omega
    have hc : C = true := by rw [hC2]; exact decide_eq_true (by omega)
    subst hc
    clear hC2 hb
    go_enter Tryd.func85, Tryd.ntmps85
    go_wp2
    go_quiet (fail)
    go_wp2
    go_ret
    exact ⟨rfl, below_drewN ((Below.refl _ _).alloc (Nat.le_refl _) _) _⟩
  · have hi1 : 1 < s.size := by omega
    have e1 := e1 hi1
    have q1 : (1 : Int) < (s.size : Int) := by omega
    have q1d : decide ((1 : Int) < (s.size : Int)) = true := decide_eq_true (by omega)
    have q3 : (s.size : Int) < 3 := by omega
    have q2 : decide ((2 : Int) < (s.size : Int)) = false := decide_eq_false (by omega)
    have q2i : (s.size : Int) ≤ 2 := by omega
    clear e2
    rcases (by omega : b1 < 128 ∨ 159 < b1 ∨ (128 ≤ b1 ∧ b1 ≤ 159)) with v | v | v
    · have v1 : decide ((b1 : Int) < 128) = true := decide_eq_true (by omega)
      have v1i : (b1 : Int) < 128 := by omega
      have hc : C = false := by rw [hC2]; exact decide_eq_false (by omega)
      subst hc
      clear hC2 hb
      go_enter Tryd.func85, Tryd.ntmps85
      go_wp2
      go_quiet (fail)
      go_wp2
      go_ret
      exact ⟨rfl, below_drewN ((Below.refl _ _).alloc (Nat.le_refl _) _) _⟩
    · have v1 : decide ((b1 : Int) < 128) = false := decide_eq_false (by omega)
      have v1j : (128 : Int) ≤ (b1 : Int) := by omega
      have v2 : decide ((159 : Int) < (b1 : Int)) = true := decide_eq_true (by omega)
      have v2i : (159 : Int) < (b1 : Int) := by omega
      have hc : C = false := by rw [hC2]; exact decide_eq_false (by omega)
      subst hc
      clear hC2 hb
      go_enter Tryd.func85, Tryd.ntmps85
      go_wp2
      go_quiet (fail)
      go_wp2
      go_ret
      exact ⟨rfl, below_drewN ((Below.refl _ _).alloc (Nat.le_refl _) _) _⟩
    · have v1 : decide ((b1 : Int) < 128) = false := decide_eq_false (by omega)
      have v1j : (128 : Int) ≤ (b1 : Int) := by omega
      have v2 : decide ((159 : Int) < (b1 : Int)) = false := decide_eq_false (by omega)
      have v2j : (b1 : Int) ≤ 159 := by omega
      have hc : C = true := by rw [hC2]; exact decide_eq_true (by omega)
      subst hc
      clear hC2 hb
      go_enter Tryd.func85, Tryd.ntmps85
      go_wp2
      go_quiet (fail)
      go_wp2
      go_ret
      exact ⟨rfl, below_drewN ((Below.refl _ _).alloc (Nat.le_refl _) _) _⟩

set_option maxRecDepth 100000 in
set_option maxHeartbeats 2000000 in
theorem full_52 (s : ByteArray) (w : World) (h0 : 0 < s.size) (b0 : Nat) (e0 : s[0].toNat = b0) (hb : b0 = 240) (hT : Lib.Utf8Tabs 0 1 w) :
    Calls Tryd.prog 85 #[.string s] w fun e w' => Full s w e w' := by
  have hc0 := hT.1 b0 (by omega)
  rw [show Lib.firstT b0 = 52 by unfold Lib.firstT; (repeat' split) <;> omega] at hc0
  have ha0 := (hT.2 3 (by omega)).1
  have ha1 := (hT.2 3 (by omega)).2
  simp only [Lib.accLo, Lib.accHi, Nat.reduceMul, Nat.reduceAdd, Nat.reduceEqDiff, if_true, if_false] at ha0 ha1
  have hlead : leadN b0 = 4 := leadN_four (by omega)
  have hlo : loN b0 = 144 := by unfold loN; (repeat' split) <;> omega
  have hhi : hiN b0 = 191 := by unfold hiN; (repeat' split) <;> omega
  have g0 : (s.get! 0).toNat = b0 := by rw [get_lt s 0 h0, e0]
  have l1 : (s.get! 1).toNat < 256 := UInt8.toNat_lt _
  have l2 : (s.get! 2).toNat < 256 := UInt8.toNat_lt _
  have e1 : ∀ h : 1 < s.size, (s[1]'h).toNat = (s.get! 1).toNat := fun h => (get_lt s 1 h).symm
  have e2 : ∀ h : 2 < s.size, (s[2]'h).toNat = (s.get! 2).toNat := fun h => (get_lt s 2 h).symm
  unfold Full
  rw [g0]
  generalize (s.get! 1).toNat = b1 at e1 l1 ⊢
  generalize (s.get! 2).toNat = b2 at e2 l2 ⊢
  obtain ⟨C, hC⟩ : ∃ C, cutD s.size b0 b1 b2 = C := ⟨_, rfl⟩
  rw [hC]
  have hC2 : C = decide (s.size < 4 ∧ (s.size ≤ 1 ∨ (144 ≤ b1 ∧ b1 ≤ 191)) ∧ (s.size ≤ 2 ∨ (128 ≤ b2 ∧ b2 ≤ 191))) := by
    rw [← hC]; unfold cutD; rw [hlead, hlo, hhi, decide_eq_decide]; omega
  clear hC hlead hlo hhi g0 hT
  have hb256 : b0 < 256 := by omega
  have hsz0 : ((s.size : Int) == 0) = false := beq_eq_false_iff_ne.2 (by omega)
  by_cases hn : 4 ≤ s.size
  · have hc : C = false := by rw [hC2]; exact decide_eq_false (by omega)
    subst hc
    clear hC2 e1 e2 hb
    have hn2 : (4 : Int) ≤ (s.size : Int) := by omega
    go_enter Tryd.func85, Tryd.ntmps85
    go_wp2
    go_ret
    exact ⟨rfl, Below.refl _ _⟩
  rcases (by omega : s.size = 1 ∨ s.size = 2 ∨ s.size = 3) with q | q | q
  · clear e1 e2
    have q1 : decide ((1 : Int) < (s.size : Int)) = false := decide_eq_false (by omega)
    have q2 : decide ((2 : Int) < (s.size : Int)) = false := decide_eq_false (by omega)
    have q3 : (s.size : Int) < 4 := by omega
    have q4 : (s.size : Int) ≤ 1 := by omega
    have hc : C = true := by rw [hC2]; exact decide_eq_true (by omega)
    subst hc
    clear hC2 hb
    go_enter Tryd.func85, Tryd.ntmps85
    go_wp2
    go_quiet (fail)
    go_wp2
    go_ret
    exact ⟨rfl, below_drewN ((Below.refl _ _).alloc (Nat.le_refl _) _) _⟩
  · have hi1 : 1 < s.size := by omega
    have e1 := e1 hi1
    have q1 : (1 : Int) < (s.size : Int) := by omega
    have q1d : decide ((1 : Int) < (s.size : Int)) = true := decide_eq_true (by omega)
    have q3 : (s.size : Int) < 4 := by omega
    have q2 : decide ((2 : Int) < (s.size : Int)) = false := decide_eq_false (by omega)
    have q2i : (s.size : Int) ≤ 2 := by omega
    clear e2
    rcases (by omega : b1 < 144 ∨ 191 < b1 ∨ (144 ≤ b1 ∧ b1 ≤ 191)) with v | v | v
    · have v1 : decide ((b1 : Int) < 144) = true := decide_eq_true (by omega)
      have v1i : (b1 : Int) < 144 := by omega
      have hc : C = false := by rw [hC2]; exact decide_eq_false (by omega)
      subst hc
      clear hC2 hb
      go_enter Tryd.func85, Tryd.ntmps85
      go_wp2
      go_quiet (fail)
      go_wp2
      go_ret
      exact ⟨rfl, below_drewN ((Below.refl _ _).alloc (Nat.le_refl _) _) _⟩
    · have v1 : decide ((b1 : Int) < 144) = false := decide_eq_false (by omega)
      have v1j : (144 : Int) ≤ (b1 : Int) := by omega
      have v2 : decide ((191 : Int) < (b1 : Int)) = true := decide_eq_true (by omega)
      have v2i : (191 : Int) < (b1 : Int) := by omega
      have hc : C = false := by rw [hC2]; exact decide_eq_false (by omega)
      subst hc
      clear hC2 hb
      go_enter Tryd.func85, Tryd.ntmps85
      go_wp2
      go_quiet (fail)
      go_wp2
      go_ret
      exact ⟨rfl, below_drewN ((Below.refl _ _).alloc (Nat.le_refl _) _) _⟩
    · have v1 : decide ((b1 : Int) < 144) = false := decide_eq_false (by omega)
      have v1j : (144 : Int) ≤ (b1 : Int) := by omega
      have v2 : decide ((191 : Int) < (b1 : Int)) = false := decide_eq_false (by omega)
      have v2j : (b1 : Int) ≤ 191 := by omega
      have hc : C = true := by rw [hC2]; exact decide_eq_true (by omega)
      subst hc
      clear hC2 hb
      go_enter Tryd.func85, Tryd.ntmps85
      go_wp2
      go_quiet (fail)
      go_wp2
      go_ret
      exact ⟨rfl, below_drewN ((Below.refl _ _).alloc (Nat.le_refl _) _) _⟩
  · have hi1 : 1 < s.size := by omega
    have e1 := e1 hi1
    have q1 : (1 : Int) < (s.size : Int) := by omega
    have q1d : decide ((1 : Int) < (s.size : Int)) = true := decide_eq_true (by omega)
    have q3 : (s.size : Int) < 4 := by omega
    have hi2 : 2 < s.size := by omega
    have e2 := e2 hi2
    have q2 : (2 : Int) < (s.size : Int) := by omega
    have q2d : decide ((2 : Int) < (s.size : Int)) = true := decide_eq_true (by omega)
    rcases (by omega : b1 < 144 ∨ 191 < b1 ∨ (144 ≤ b1 ∧ b1 ≤ 191)) with v | v | v
    · have v1 : decide ((b1 : Int) < 144) = true := decide_eq_true (by omega)
      have v1i : (b1 : Int) < 144 := by omega
      have hc : C = false := by rw [hC2]; exact decide_eq_false (by omega)
      subst hc
      clear hC2 hb
      go_enter Tryd.func85, Tryd.ntmps85
      go_wp2
      go_quiet (fail)
      go_wp2
      go_ret
      exact ⟨rfl, below_drewN ((Below.refl _ _).alloc (Nat.le_refl _) _) _⟩
    · have v1 : decide ((b1 : Int) < 144) = false := decide_eq_false (by omega)
      have v1j : (144 : Int) ≤ (b1 : Int) := by omega
      have v2 : decide ((191 : Int) < (b1 : Int)) = true := decide_eq_true (by omega)
      have v2i : (191 : Int) < (b1 : Int) := by omega
      have hc : C = false := by rw [hC2]; exact decide_eq_false (by omega)
      subst hc
      clear hC2 hb
      go_enter Tryd.func85, Tryd.ntmps85
      go_wp2
      go_quiet (fail)
      go_wp2
      go_ret
      exact ⟨rfl, below_drewN ((Below.refl _ _).alloc (Nat.le_refl _) _) _⟩
    · have v1 : decide ((b1 : Int) < 144) = false := decide_eq_false (by omega)
      have v1j : (144 : Int) ≤ (b1 : Int) := by omega
      have v2 : decide ((191 : Int) < (b1 : Int)) = false := decide_eq_false (by omega)
      have v2j : (b1 : Int) ≤ 191 := by omega
      rcases (by omega : b2 < 128 ∨ 191 < b2 ∨ (128 ≤ b2 ∧ b2 ≤ 191)) with z | z | z
      · have z1 : decide ((b2 : Int) < 128) = true := decide_eq_true (by omega)
        have z1i : (b2 : Int) < 128 := by omega
        have hc : C = false := by rw [hC2]; exact decide_eq_false (by omega)
        subst hc
        clear hC2 hb
        go_enter Tryd.func85, Tryd.ntmps85
        go_wp2
        go_quiet (fail)
        go_wp2
        go_ret
        exact ⟨rfl, below_drewN ((Below.refl _ _).alloc (Nat.le_refl _) _) _⟩
      · have z1 : decide ((b2 : Int) < 128) = false := decide_eq_false (by omega)
        have z1j : (128 : Int) ≤ (b2 : Int) := by omega
        have z2 : decide ((191 : Int) < (b2 : Int)) = true := decide_eq_true (by omega)
        have z2i : (191 : Int) < (b2 : Int) := by omega
        have hc : C = false := by rw [hC2]; exact decide_eq_false (by omega)
        subst hc
        clear hC2 hb
        go_enter Tryd.func85, Tryd.ntmps85
        go_wp2
        go_quiet (fail)
        go_wp2
        go_ret
        exact ⟨rfl, below_drewN ((Below.refl _ _).alloc (Nat.le_refl _) _) _⟩
      · have z1 : decide ((b2 : Int) < 128) = false := decide_eq_false (by omega)
        have z1j : (128 : Int) ≤ (b2 : Int) := by omega
        have z2 : decide ((191 : Int) < (b2 : Int)) = false := decide_eq_false (by omega)
        have z2j : (b2 : Int) ≤ 191 := by omega
        have hc : C = true := by rw [hC2]; exact decide_eq_true (by omega)
        subst hc
        clear hC2 hb
        go_enter Tryd.func85, Tryd.ntmps85
        go_wp2
        go_quiet (fail)
        go_wp2
        go_ret
        exact ⟨rfl, below_drewN ((Below.refl _ _).alloc (Nat.le_refl _) _) _⟩

set_option maxRecDepth 100000 in
set_option maxHeartbeats 2000000 in
theorem full_4 (s : ByteArray) (w : World) (h0 : 0 < s.size) (b0 : Nat) (e0 : s[0].toNat = b0) (hb : 241 ≤ b0 ∧ b0 ≤ 243) (hT : Lib.Utf8Tabs 0 1 w) :
    Calls Tryd.prog 85 #[.string s] w fun e w' => Full s w e w' := by
  have hc0 := hT.1 b0 (by omega)
  rw [show Lib.firstT b0 = 4 by unfold Lib.firstT; (repeat' split) <;> omega] at hc0
  have ha0 := (hT.2 0 (by omega)).1
  have ha1 := (hT.2 0 (by omega)).2
  simp only [Lib.accLo, Lib.accHi, Nat.reduceMul, Nat.reduceAdd, Nat.reduceEqDiff, if_true, if_false] at ha0 ha1
  have hlead : leadN b0 = 4 := leadN_four (by omega)
  have hlo : loN b0 = 128 := by unfold loN; (repeat' split) <;> omega
  have hhi : hiN b0 = 191 := by unfold hiN; (repeat' split) <;> omega
  have g0 : (s.get! 0).toNat = b0 := by rw [get_lt s 0 h0, e0]
  have l1 : (s.get! 1).toNat < 256 := UInt8.toNat_lt _
  have l2 : (s.get! 2).toNat < 256 := UInt8.toNat_lt _
  have e1 : ∀ h : 1 < s.size, (s[1]'h).toNat = (s.get! 1).toNat := fun h => (get_lt s 1 h).symm
  have e2 : ∀ h : 2 < s.size, (s[2]'h).toNat = (s.get! 2).toNat := fun h => (get_lt s 2 h).symm
  unfold Full
  rw [g0]
  generalize (s.get! 1).toNat = b1 at e1 l1 ⊢
  generalize (s.get! 2).toNat = b2 at e2 l2 ⊢
  obtain ⟨C, hC⟩ : ∃ C, cutD s.size b0 b1 b2 = C := ⟨_, rfl⟩
  rw [hC]
  have hC2 : C = decide (s.size < 4 ∧ (s.size ≤ 1 ∨ (128 ≤ b1 ∧ b1 ≤ 191)) ∧ (s.size ≤ 2 ∨ (128 ≤ b2 ∧ b2 ≤ 191))) := by
    rw [← hC]; unfold cutD; rw [hlead, hlo, hhi, decide_eq_decide]; omega
  clear hC hlead hlo hhi g0 hT
  have hb256 : b0 < 256 := by omega
  have hsz0 : ((s.size : Int) == 0) = false := beq_eq_false_iff_ne.2 (by omega)
  by_cases hn : 4 ≤ s.size
  · have hc : C = false := by rw [hC2]; exact decide_eq_false (by omega)
    subst hc
    clear hC2 e1 e2 hb
    have hn2 : (4 : Int) ≤ (s.size : Int) := by omega
    go_enter Tryd.func85, Tryd.ntmps85
    go_wp2
    go_ret
    exact ⟨rfl, Below.refl _ _⟩
  rcases (by omega : s.size = 1 ∨ s.size = 2 ∨ s.size = 3) with q | q | q
  · clear e1 e2
    have q1 : decide ((1 : Int) < (s.size : Int)) = false := decide_eq_false (by omega)
    have q2 : decide ((2 : Int) < (s.size : Int)) = false := decide_eq_false (by omega)
    have q3 : (s.size : Int) < 4 := by omega
    have q4 : (s.size : Int) ≤ 1 := by omega
    have hc : C = true := by rw [hC2]; exact decide_eq_true (by omega)
    subst hc
    clear hC2 hb
    go_enter Tryd.func85, Tryd.ntmps85
    go_wp2
    go_quiet (fail)
    go_wp2
    go_ret
    exact ⟨rfl, below_drewN ((Below.refl _ _).alloc (Nat.le_refl _) _) _⟩
  · have hi1 : 1 < s.size := by omega
    have e1 := e1 hi1
    have q1 : (1 : Int) < (s.size : Int) := by omega
    have q1d : decide ((1 : Int) < (s.size : Int)) = true := decide_eq_true (by omega)
    have q3 : (s.size : Int) < 4 := by omega
    have q2 : decide ((2 : Int) < (s.size : Int)) = false := decide_eq_false (by omega)
    have q2i : (s.size : Int) ≤ 2 := by omega
    clear e2
    rcases (by omega : b1 < 128 ∨ 191 < b1 ∨ (128 ≤ b1 ∧ b1 ≤ 191)) with v | v | v
    · have v1 : decide ((b1 : Int) < 128) = true := decide_eq_true (by omega)
      have v1i : (b1 : Int) < 128 := by omega
      have hc : C = false := by rw [hC2]; exact decide_eq_false (by omega)
      subst hc
      clear hC2 hb
      go_enter Tryd.func85, Tryd.ntmps85
      go_wp2
      go_quiet (fail)
      go_wp2
      go_ret
      exact ⟨rfl, below_drewN ((Below.refl _ _).alloc (Nat.le_refl _) _) _⟩
    · have v1 : decide ((b1 : Int) < 128) = false := decide_eq_false (by omega)
      have v1j : (128 : Int) ≤ (b1 : Int) := by omega
      have v2 : decide ((191 : Int) < (b1 : Int)) = true := decide_eq_true (by omega)
      have v2i : (191 : Int) < (b1 : Int) := by omega
      have hc : C = false := by rw [hC2]; exact decide_eq_false (by omega)
      subst hc
      clear hC2 hb
      go_enter Tryd.func85, Tryd.ntmps85
      go_wp2
      go_quiet (fail)
      go_wp2
      go_ret
      exact ⟨rfl, below_drewN ((Below.refl _ _).alloc (Nat.le_refl _) _) _⟩
    · have v1 : decide ((b1 : Int) < 128) = false := decide_eq_false (by omega)
      have v1j : (128 : Int) ≤ (b1 : Int) := by omega
      have v2 : decide ((191 : Int) < (b1 : Int)) = false := decide_eq_false (by omega)
      have v2j : (b1 : Int) ≤ 191 := by omega
      have hc : C = true := by rw [hC2]; exact decide_eq_true (by omega)
      subst hc
      clear hC2 hb
      go_enter Tryd.func85, Tryd.ntmps85
      go_wp2
      go_quiet (fail)
      go_wp2
      go_ret
      exact ⟨rfl, below_drewN ((Below.refl _ _).alloc (Nat.le_refl _) _) _⟩
  · have hi1 : 1 < s.size := by omega
    have e1 := e1 hi1
    have q1 : (1 : Int) < (s.size : Int) := by omega
    have q1d : decide ((1 : Int) < (s.size : Int)) = true := decide_eq_true (by omega)
    have q3 : (s.size : Int) < 4 := by omega
    have hi2 : 2 < s.size := by omega
    have e2 := e2 hi2
    have q2 : (2 : Int) < (s.size : Int) := by omega
    have q2d : decide ((2 : Int) < (s.size : Int)) = true := decide_eq_true (by omega)
    rcases (by omega : b1 < 128 ∨ 191 < b1 ∨ (128 ≤ b1 ∧ b1 ≤ 191)) with v | v | v
    · have v1 : decide ((b1 : Int) < 128) = true := decide_eq_true (by omega)
      have v1i : (b1 : Int) < 128 := by omega
      have hc : C = false := by rw [hC2]; exact decide_eq_false (by omega)
      subst hc
      clear hC2 hb
      go_enter Tryd.func85, Tryd.ntmps85
      go_wp2
      go_quiet (fail)
      go_wp2
      go_ret
      exact ⟨rfl, below_drewN ((Below.refl _ _).alloc (Nat.le_refl _) _) _⟩
    · have v1 : decide ((b1 : Int) < 128) = false := decide_eq_false (by omega)
      have v1j : (128 : Int) ≤ (b1 : Int) := by omega
      have v2 : decide ((191 : Int) < (b1 : Int)) = true := decide_eq_true (by omega)
      have v2i : (191 : Int) < (b1 : Int) := by omega
      have hc : C = false := by rw [hC2]; exact decide_eq_false (by omega)
      subst hc
      clear hC2 hb
      go_enter Tryd.func85, Tryd.ntmps85
      go_wp2
      go_quiet (fail)
      go_wp2
      go_ret
      exact ⟨rfl, below_drewN ((Below.refl _ _).alloc (Nat.le_refl _) _) _⟩
    · have v1 : decide ((b1 : Int) < 128) = false := decide_eq_false (by omega)
      have v1j : (128 : Int) ≤ (b1 : Int) := by omega
      have v2 : decide ((191 : Int) < (b1 : Int)) = false := decide_eq_false (by omega)
      have v2j : (b1 : Int) ≤ 191 := by omega
      rcases (by omega : b2 < 128 ∨ 191 < b2 ∨ (128 ≤ b2 ∧ b2 ≤ 191)) with z | z | z
      · have z1 : decide ((b2 : Int) < 128) = true := decide_eq_true (by omega)
        have z1i : (b2 : Int) < 128 := by omega
        have hc : C = false := by rw [hC2]; exact decide_eq_false (by omega)
        subst hc
        clear hC2 hb
        go_enter Tryd.func85, Tryd.ntmps85
        go_wp2
        go_quiet (fail)
        go_wp2
        go_ret
        exact ⟨rfl, below_drewN ((Below.refl _ _).alloc (Nat.le_refl _) _) _⟩
      · have z1 : decide ((b2 : Int) < 128) = false := decide_eq_false (by omega)
        have z1j : (128 : Int) ≤ (b2 : Int) := by omega
        have z2 : decide ((191 : Int) < (b2 : Int)) = true := decide_eq_true (by omega)
        have z2i : (191 : Int) < (b2 : Int) := by omega
        have hc : C = false := by rw [hC2]; exact decide_eq_false (by omega)
        subst hc
        clear hC2 hb
        go_enter Tryd.func85, Tryd.ntmps85
        go_wp2
        go_quiet (fail)
        go_wp2
        go_ret
        exact ⟨rfl, below_drewN ((Below.refl _ _).alloc (Nat.le_refl _) _) _⟩
      · have z1 : decide ((b2 : Int) < 128) = false := decide_eq_false (by omega)
        have z1j : (128 : Int) ≤ (b2 : Int) := by omega
        have z2 : decide ((191 : Int) < (b2 : Int)) = false := decide_eq_false (by omega)
        have z2j : (b2 : Int) ≤ 191 := by omega
        have hc : C = true := by rw [hC2]; exact decide_eq_true (by omega)
        subst hc
        clear hC2 hb
        go_enter Tryd.func85, Tryd.ntmps85
        go_wp2
        go_quiet (fail)
        go_wp2
        go_ret
        exact ⟨rfl, below_drewN ((Below.refl _ _).alloc (Nat.le_refl _) _) _⟩

set_option maxRecDepth 100000 in
set_option maxHeartbeats 2000000 in
theorem full_68 (s : ByteArray) (w : World) (h0 : 0 < s.size) (b0 : Nat) (e0 : s[0].toNat = b0) (hb : b0 = 244) (hT : Lib.Utf8Tabs 0 1 w) :
    Calls Tryd.prog 85 #[.string s] w fun e w' => Full s w e w' := by
  have hc0 := hT.1 b0 (by omega)
  rw [show Lib.firstT b0 = 68 by unfold Lib.firstT; (repeat' split) <;> omega] at hc0
  have ha0 := (hT.2 4 (by omega)).1
  have ha1 := (hT.2 4 (by omega)).2
  simp only [Lib.accLo, Lib.accHi, Nat.reduceMul, Nat.reduceAdd, Nat.reduceEqDiff, if_true, if_false] at ha0 ha1
  have hlead : leadN b0 = 4 := leadN_four (by omega)
  have hlo : loN b0 = 128 := by unfold loN; (repeat' split) <;> omega
  have hhi : hiN b0 = 143 := by unfold hiN; (repeat' split) <;> omega
  have g0 : (s.get! 0).toNat = b0 := by rw [get_lt s 0 h0, e0]
  have l1 : (s.get! 1).toNat < 256 := UInt8.toNat_lt _
  have l2 : (s.get! 2).toNat < 256 := UInt8.toNat_lt _
  have e1 : ∀ h : 1 < s.size, (s[1]'h).toNat = (s.get! 1).toNat := fun h => (get_lt s 1 h).symm
  have e2 : ∀ h : 2 < s.size, (s[2]'h).toNat = (s.get! 2).toNat := fun h => (get_lt s 2 h).symm
  unfold Full
  rw [g0]
  generalize (s.get! 1).toNat = b1 at e1 l1 ⊢
  generalize (s.get! 2).toNat = b2 at e2 l2 ⊢
  obtain ⟨C, hC⟩ : ∃ C, cutD s.size b0 b1 b2 = C := ⟨_, rfl⟩
  rw [hC]
  have hC2 : C = decide (s.size < 4 ∧ (s.size ≤ 1 ∨ (128 ≤ b1 ∧ b1 ≤ 143)) ∧ (s.size ≤ 2 ∨ (128 ≤ b2 ∧ b2 ≤ 191))) := by
    rw [← hC]; unfold cutD; rw [hlead, hlo, hhi, decide_eq_decide]; omega
  clear hC hlead hlo hhi g0 hT
  have hb256 : b0 < 256 := by omega
  have hsz0 : ((s.size : Int) == 0) = false := beq_eq_false_iff_ne.2 (by omega)
  by_cases hn : 4 ≤ s.size
  · have hc : C = false := by rw [hC2]; exact decide_eq_false (by omega)
    subst hc
    clear hC2 e1 e2 hb
    have hn2 : (4 : Int) ≤ (s.size : Int) := by omega
    go_enter Tryd.func85, Tryd.ntmps85
    go_wp2
    go_ret
    exact ⟨rfl, Below.refl _ _⟩
  rcases (by omega : s.size = 1 ∨ s.size = 2 ∨ s.size = 3) with q | q | q
  · clear e1 e2
    have q1 : decide ((1 : Int) < (s.size : Int)) = false := decide_eq_false (by omega)
    have q2 : decide ((2 : Int) < (s.size : Int)) = false := decide_eq_false (by omega)
    have q3 : (s.size : Int) < 4 := by omega
    have q4 : (s.size : Int) ≤ 1 := by omega
    have hc : C = true := by rw [hC2]; exact decide_eq_true (by omega)
    subst hc
    clear hC2 hb
    go_enter Tryd.func85, Tryd.ntmps85
    go_wp2
    go_quiet (fail)
    go_wp2
    go_ret
    exact ⟨rfl, below_drewN ((Below.refl _ _).alloc (Nat.le_refl _) _) _⟩
  · have hi1 : 1 < s.size := by omega
    have e1 := e1 hi1
    have q1 : (1 : Int) < (s.size : Int) := by omega
    have q1d : decide ((1 : Int) < (s.size : Int)) = true := decide_eq_true (by omega)
    have q3 : (s.size : Int) < 4 := by omega
    have q2 : decide ((2 : Int) < (s.size : Int)) = false := decide_eq_false (by omega)
    have q2i : (s.size : Int) ≤ 2 := by omega
    clear e2
    rcases (by omega : b1 < 128 ∨ 143 < b1 ∨ (128 ≤ b1 ∧ b1 ≤ 143)) with v | v | v
    · have v1 : decide ((b1 : Int) < 128) = true := decide_eq_true (by omega)
      have v1i : (b1 : Int) < 128 := by omega
      have hc : C = false := by rw [hC2]; exact decide_eq_false (by omega)
      subst hc
      clear hC2 hb
      go_enter Tryd.func85, Tryd.ntmps85
      go_wp2
      go_quiet (fail)
      go_wp2
      go_ret
      exact ⟨rfl, below_drewN ((Below.refl _ _).alloc (Nat.le_refl _) _) _⟩
    · have v1 : decide ((b1 : Int) < 128) = false := decide_eq_false (by omega)
      have v1j : (128 : Int) ≤ (b1 : Int) := by omega
      have v2 : decide ((143 : Int) < (b1 : Int)) = true := decide_eq_true (by omega)
      have v2i : (143 : Int) < (b1 : Int) := by omega
      have hc : C = false := by rw [hC2]; exact decide_eq_false (by omega)
      subst hc
      clear hC2 hb
      go_enter Tryd.func85, Tryd.ntmps85
      go_wp2
      go_quiet (fail)
      go_wp2
      go_ret
      exact ⟨rfl, below_drewN ((Below.refl _ _).alloc (Nat.le_refl _) _) _⟩
    · have v1 : decide ((b1 : Int) < 128) = false := decide_eq_false (by omega)
      have v1j : (128 : Int) ≤ (b1 : Int) := by omega
      have v2 : decide ((143 : Int) < (b1 : Int)) = false := decide_eq_false (by omega)
      have v2j : (b1 : Int) ≤ 143 := by omega
      have hc : C = true := by rw [hC2]; exact decide_eq_true (by omega)
      subst hc
      clear hC2 hb
      go_enter Tryd.func85, Tryd.ntmps85
      go_wp2
      go_quiet (fail)
      go_wp2
      go_ret
      exact ⟨rfl, below_drewN ((Below.refl _ _).alloc (Nat.le_refl _) _) _⟩
  · have hi1 : 1 < s.size := by omega
    have e1 := e1 hi1
    have q1 : (1 : Int) < (s.size : Int) := by omega
    have q1d : decide ((1 : Int) < (s.size : Int)) = true := decide_eq_true (by omega)
    have q3 : (s.size : Int) < 4 := by omega
    have hi2 : 2 < s.size := by omega
    have e2 := e2 hi2
    have q2 : (2 : Int) < (s.size : Int) := by omega
    have q2d : decide ((2 : Int) < (s.size : Int)) = true := decide_eq_true (by omega)
    rcases (by omega : b1 < 128 ∨ 143 < b1 ∨ (128 ≤ b1 ∧ b1 ≤ 143)) with v | v | v
    · have v1 : decide ((b1 : Int) < 128) = true := decide_eq_true (by omega)
      have v1i : (b1 : Int) < 128 := by omega
      have hc : C = false := by rw [hC2]; exact decide_eq_false (by omega)
      subst hc
      clear hC2 hb
      go_enter Tryd.func85, Tryd.ntmps85
      go_wp2
      go_quiet (fail)
      go_wp2
      go_ret
      exact ⟨rfl, below_drewN ((Below.refl _ _).alloc (Nat.le_refl _) _) _⟩
    · have v1 : decide ((b1 : Int) < 128) = false := decide_eq_false (by omega)
      have v1j : (128 : Int) ≤ (b1 : Int) := by omega
      have v2 : decide ((143 : Int) < (b1 : Int)) = true := decide_eq_true (by omega)
      have v2i : (143 : Int) < (b1 : Int) := by omega
      have hc : C = false := by rw [hC2]; exact decide_eq_false (by omega)
      subst hc
      clear hC2 hb
      go_enter Tryd.func85, Tryd.ntmps85
      go_wp2
      go_quiet (fail)
      go_wp2
      go_ret
      exact ⟨rfl, below_drewN ((Below.refl _ _).alloc (Nat.le_refl _) _) _⟩
    · have v1 : decide ((b1 : Int) < 128) = false := decide_eq_false (by omega)
      have v1j : (128 : Int) ≤ (b1 : Int) := by omega
      have v2 : decide ((143 : Int) < (b1 : Int)) = false := decide_eq_false (by omega)
      have v2j : (b1 : Int) ≤ 143 := by omega
      rcases (by omega : b2 < 128 ∨ 191 < b2 ∨ (128 ≤ b2 ∧ b2 ≤ 191)) with z | z | z
      · have z1 : decide ((b2 : Int) < 128) = true := decide_eq_true (by omega)
        have z1i : (b2 : Int) < 128 := by omega
        have hc : C = false := by rw [hC2]; exact decide_eq_false (by omega)
        subst hc
        clear hC2 hb
        go_enter Tryd.func85, Tryd.ntmps85
        go_wp2
        go_quiet (fail)
        go_wp2
        go_ret
        exact ⟨rfl, below_drewN ((Below.refl _ _).alloc (Nat.le_refl _) _) _⟩
      · have z1 : decide ((b2 : Int) < 128) = false := decide_eq_false (by omega)
        have z1j : (128 : Int) ≤ (b2 : Int) := by omega
        have z2 : decide ((191 : Int) < (b2 : Int)) = true := decide_eq_true (by omega)
        have z2i : (191 : Int) < (b2 : Int) := by omega
        have hc : C = false := by rw [hC2]; exact decide_eq_false (by omega)
        subst hc
        clear hC2 hb
        go_enter Tryd.func85, Tryd.ntmps85
        go_wp2
        go_quiet (fail)
        go_wp2
        go_ret
        exact ⟨rfl, below_drewN ((Below.refl _ _).alloc (Nat.le_refl _) _) _⟩
      · have z1 : decide ((b2 : Int) < 128) = false := decide_eq_false (by omega)
        have z1j : (128 : Int) ≤ (b2 : Int) := by omega
        have z2 : decide ((191 : Int) < (b2 : Int)) = false := decide_eq_false (by omega)
        have z2j : (b2 : Int) ≤ 191 := by omega
        have hc : C = true := by rw [hC2]; exact decide_eq_true (by omega)
        subst hc
        clear hC2 hb
        go_enter Tryd.func85, Tryd.ntmps85
        go_wp2
        go_quiet (fail)
        go_wp2
        go_ret
        exact ⟨rfl, below_drewN ((Below.refl _ _).alloc (Nat.le_refl _) _) _⟩

set_option maxRecDepth 100000 in
set_option maxHeartbeats 2000000 in
theorem full_240 (s : ByteArray) (w : World) (h0 : 0 < s.size) (b0 : Nat) (e0 : s[0].toNat = b0) (hb : b0 < 128) (hb256 : b0 < 256) (hT : Lib.Utf8Tabs 0 1 w) :
    Calls Tryd.prog 85 #[.string s] w fun e w' => Full s w e w' := by
  have hc0 := hT.1 b0 (by omega)
  rw [show Lib.firstT b0 = 240 by unfold Lib.firstT; (repeat' split) <;> omega] at hc0
  have g0 : (s.get! 0).toNat = b0 := by rw [get_lt s 0 h0, e0]
  unfold Full
  rw [g0]
  have hc : cutD s.size b0 (s.get! 1).toNat (s.get! 2).toNat = false := by
    unfold cutD
    refine decide_eq_false (fun h => ?_)
    omega
  rw [hc]
  have hsz0 : ((s.size : Int) == 0) = false := beq_eq_false_iff_ne.2 (by omega)
  have hn2 : (1 : Int) ≤ (s.size : Int) := by omega
  clear hc g0 hT hb
  go_enter Tryd.func85, Tryd.ntmps85
  go_wp2
  go_ret
  exact ⟨rfl, Below.refl _ _⟩

set_option maxRecDepth 100000 in
set_option maxHeartbeats 2000000 in
theorem full_241 (s : ByteArray) (w : World) (h0 : 0 < s.size) (b0 : Nat) (e0 : s[0].toNat = b0) (hb : (128 ≤ b0 ∧ b0 < 194) ∨ 244 < b0) (hb256 : b0 < 256) (hT : Lib.Utf8Tabs 0 1 w) :
    Calls Tryd.prog 85 #[.string s] w fun e w' => Full s w e w' := by
  have hc0 := hT.1 b0 (by omega)
  rw [show Lib.firstT b0 = 241 by unfold Lib.firstT; (repeat' split) <;> omega] at hc0
  have g0 : (s.get! 0).toNat = b0 := by rw [get_lt s 0 h0, e0]
  unfold Full
  rw [g0]
  have hc : cutD s.size b0 (s.get! 1).toNat (s.get! 2).toNat = false := by
    unfold cutD
    refine decide_eq_false (fun h => ?_)
    omega
  rw [hc]
  have hsz0 : ((s.size : Int) == 0) = false := beq_eq_false_iff_ne.2 (by omega)
  have hn2 : (1 : Int) ≤ (s.size : Int) := by omega
  clear hc g0 hT hb
  go_enter Tryd.func85, Tryd.ntmps85
  go_wp2
  go_ret
  exact ⟨rfl, Below.refl _ _⟩

theorem full_any (s : ByteArray) (w : World) (h0 : 0 < s.size) (hT : Lib.Utf8Tabs 0 1 w) :
    Calls Tryd.prog 85 #[.string s] w fun e w' => Full s w e w' := by
  obtain ⟨b0, e0⟩ : ∃ b, (s[0]'h0).toNat = b := ⟨_, rfl⟩
  have hb : b0 < 256 := by rw [← e0]; exact UInt8.toNat_lt _
  by_cases c1 : b0 < 128
  · exact full_240 s w h0 b0 e0 c1 hb hT
  by_cases c2 : 194 ≤ b0 ∧ b0 ≤ 223
  · exact full_2 s w h0 b0 e0 c2 hT
  by_cases c3 : b0 = 224
  · exact full_19 s w h0 b0 e0 c3 hT
  by_cases c4 : b0 = 237
  · exact full_35 s w h0 b0 e0 c4 hT
  by_cases c5 : (225 ≤ b0 ∧ b0 < 237) ∨ (237 < b0 ∧ b0 ≤ 239)
  · exact full_3 s w h0 b0 e0 c5 hT
  by_cases c6 : b0 = 240
  · exact full_52 s w h0 b0 e0 c6 hT
  by_cases c7 : 241 ≤ b0 ∧ b0 ≤ 243
  · exact full_4 s w h0 b0 e0 c7 hT
  by_cases c8 : b0 = 244
  · exact full_68 s w h0 b0 e0 c8 hT
  · exact full_241 s w h0 b0 e0 (by omega) hb hT

/-- That a sign is cut off is told alike. -/
theorem cut_next (n b0 b1 b2 b3 : Nat) (hn : 1 ≤ n) (h0 : b0 < 256) (h1 : b1 < 256) (h2 : b2 < 256) (h3 : b3 < 256) : (nextN n b0 b1 b2 b3).2 = -1 ↔ cutD n b0 b1 b2 = true := by
  have hf : ∀ x k : Int, 0 ≤ k → (finN x k).2 ≠ -1 := fun x k hk => by
    unfold finN
    split
    · show k ≠ -1; omega
    · show (0 : Int) ≠ -1; omega
  have hsec : ∀ b1, (contB b1 && secondB b0 b1) = true ↔ (128 ≤ b1 ∧ b1 ≤ 191) ∧ (b0 = 224 → 160 ≤ b1) ∧ (b0 = 237 → b1 < 160) ∧ (b0 = 240 → 144 ≤ b1) ∧ (b0 = 244 → b1 < 144) := fun b1 => by
    simp [contB, secondB]
    omega
  have hcd : cutD n b0 b1 b2 = true ↔ (194 ≤ b0 ∧ b0 ≤ 244) ∧ n < leadN b0 ∧ (n ≤ 1 ∨ (contB b1 && secondB b0 b1) = true) ∧ (n ≤ 2 ∨ (128 ≤ b2 ∧ b2 ≤ 191)) := by
    rw [hsec]
    unfold cutD
    rw [decide_eq_true_eq]
    have hl : loN b0 = if b0 = 224 then 160 else if b0 = 240 then 144 else 128 := rfl
    have hh : hiN b0 = if b0 = 237 then 159 else if b0 = 244 then 143 else 191 := rfl
    rw [hl, hh]
    constructor
    · rintro ⟨a1, a2, a3, a4⟩
      refine ⟨a1, a2, ?_, a4⟩
      rcases a3 with a3 | a3
      · exact .inl a3
      · right
        split at a3 <;> split at a3 <;> (try split at a3) <;> (try split at a3) <;> omega
    · rintro ⟨a1, a2, a3, a4⟩
      refine ⟨a1, a2, ?_, a4⟩
      rcases a3 with a3 | a3
      · exact .inl a3
      · right
        split <;> split <;> (try split) <;> (try split) <;> omega
  rw [hcd]
  by_cases c0 : b0 < 128
  · have hl := leadN_one c0
    unfold nextN
    rw [hl, if_neg (by decide), if_pos rfl]
    constructor
    · intro h; exact absurd h (hf _ _ (by omega))
    · rintro ⟨h, _⟩; omega
  by_cases cn : (128 ≤ b0 ∧ b0 < 194) ∨ 244 < b0
  · rw [(next_none n b0 b1 b2 b3 cn h0 h1 h2 h3).2]
    constructor
    · intro h; exact absurd h (show (0 : Int) ≠ -1 by omega)
    · rintro ⟨h, _⟩; omega
  have hr : 194 ≤ b0 ∧ b0 ≤ 244 := by omega
  have hlead : leadN b0 = 2 ∨ leadN b0 = 3 ∨ leadN b0 = 4 := by
    by_cases q : b0 ≤ 223
    · exact .inl (leadN_two ⟨by omega, q⟩)
    · by_cases q2 : b0 ≤ 239
      · exact .inr (.inl (leadN_three ⟨by omega, q2⟩))
      · exact .inr (.inr (leadN_four ⟨by omega, by omega⟩))
  unfold nextN
  rw [if_neg (by omega), if_neg (by omega)]
  by_cases n2 : n < 2
  · rw [if_pos n2]
    exact ⟨fun _ => ⟨hr, by omega, .inl (by omega), .inl (by omega)⟩, fun _ => rfl⟩
  rw [if_neg n2]
  cases hc : (contB b1 && secondB b0 b1)
  · rw [if_pos rfl]
    constructor
    · intro h; exact absurd h (show (0 : Int) ≠ -1 by omega)
    · rintro ⟨_, _, h | h, _⟩
      · omega
      · cases h
  rw [if_neg (by decide)]
  by_cases k2 : leadN b0 = 2
  · rw [if_pos k2]
    constructor
    · intro h; exact absurd h (hf _ _ (by omega))
    · rintro ⟨_, h, _⟩; omega
  rw [if_neg k2]
  by_cases n3 : n < 3
  · rw [if_pos n3]
    exact ⟨fun _ => ⟨hr, by omega, .inr rfl, .inl (by omega)⟩, fun _ => rfl⟩
  rw [if_neg n3]
  cases hc2 : contB b2
  · rw [if_pos rfl]
    have hb2 : ¬ (128 ≤ b2 ∧ b2 ≤ 191) := of_decide_eq_false hc2
    constructor
    · intro h; exact absurd h (show (0 : Int) ≠ -1 by omega)
    · rintro ⟨_, _, _, h⟩; omega
  have hb2 : 128 ≤ b2 ∧ b2 ≤ 191 := of_decide_eq_true hc2
  rw [if_neg (by decide)]
  by_cases k3 : leadN b0 = 3
  · rw [if_pos k3]
    constructor
    · intro h; exact absurd h (hf _ _ (by omega))
    · rintro ⟨_, h, _⟩; omega
  rw [if_neg k3]
  by_cases n4 : n < 4
  · rw [if_pos n4]
    exact ⟨fun _ => ⟨hr, by omega, .inr rfl, .inr hb2⟩, fun _ => rfl⟩
  rw [if_neg n4]
  constructor
  · intro h
    exfalso
    revert h
    split
    · intro h; exact absurd h (show (0 : Int) ≠ -1 by omega)
    · intro h; exact absurd h (hf _ _ (by omega))
  · rintro ⟨_, h, _⟩; omega
end Go.Proofs.YtbcledidadjddaaDoor.Hub
