/-
  Which bytes the model takes for a word's, and where a text stands in a list. (The words of a text themselves: not written yet.)
-/
import Derived.Test.YtlonpaigfalbkaaDoorLineBase
import Derived.Test.YtlonpaigfalbkaaDoorJidFold
namespace Go.Proofs.YtlonpaigfalbkaaDoor.Hub
open Go.RowKit
set_option linter.unusedVariables false

def figW (b : UInt8) : Bool := decide (48 ≤ b.toNat ∧ b.toNat ≤ 57)
/-- A byte of a word. -/
def letB (b : UInt8) : Bool := decide ((97 ≤ b.toNat ∧ b.toNat ≤ 122) ∨ (65 ≤ b.toNat ∧ b.toNat ≤ 90) ∨ (48 ≤ b.toNat ∧ b.toNat ≤ 57) ∨ 128 ≤ b.toNat)
set_option maxRecDepth 100000 in
theorem figureW_any (b : UInt8) (w : World) :
    Calls Tryd.prog 25 #[.int .u8 (b.toNat : Int)] w fun e w' => e = .returned (.bool (figW b)) ∧ w' = w := by
  rcases (by omega : b.toNat < 48 ∨ (48 ≤ b.toNat ∧ b.toNat ≤ 57) ∨ 57 < b.toNat) with h | h | h
  all_goals
    first
      | have hR : figW b = true := decide_eq_true (by omega)
      | have hR : figW b = false := decide_eq_false (by omega)
    rw [hR]
    clear hR
    first
      | have j1 : (48 : Int) ≤ (b.toNat : Int) := by omega
      | have j1 : ¬ (48 : Int) ≤ (b.toNat : Int) := by omega
    first
      | have j2 : (b.toNat : Int) ≤ 57 := by omega
      | have j2 : ¬ (b.toNat : Int) ≤ 57 := by omega
    clear h
    go_enter Tryd.func25, Tryd.ntmps25
    go_wp2_with fail
    go_ret
    exact ⟨rfl, rfl⟩
set_option maxRecDepth 100000 in
set_option maxHeartbeats 4000000 in
theorem l14Word_any (b : UInt8) (w : World) :
    Calls Tryd.prog 21 #[.int .u8 (b.toNat : Int)] w fun e w' => e = .returned (.bool (letB b)) ∧ w' = w := by
  have cF := fun W => figureW_any b W
  rcases (by omega : b.toNat < 48 ∨ (48 ≤ b.toNat ∧ b.toNat ≤ 57) ∨ (57 < b.toNat ∧ b.toNat < 65) ∨ (65 ≤ b.toNat ∧ b.toNat ≤ 90) ∨ (90 < b.toNat ∧ b.toNat < 97) ∨ (97 ≤ b.toNat ∧ b.toNat ≤ 122) ∨ (122 < b.toNat ∧ b.toNat < 128) ∨ 128 ≤ b.toNat) with h | h | h | h | h | h | h | h
  all_goals
    first
      | have hR : letB b = true := decide_eq_true (by omega)
      | have hR : letB b = false := decide_eq_false (by omega)
    first
      | have hF : figW b = true := decide_eq_true (by omega)
      | have hF : figW b = false := decide_eq_false (by omega)
    rw [hF] at cF
    rw [hR]
    clear hR hF
    first
      | have j1 : (97 : Int) ≤ (b.toNat : Int) := by omega
      | have j1 : ¬ (97 : Int) ≤ (b.toNat : Int) := by omega
    first
      | have j2 : (b.toNat : Int) ≤ 122 := by omega
      | have j2 : ¬ (b.toNat : Int) ≤ 122 := by omega
    first
      | have j3 : (65 : Int) ≤ (b.toNat : Int) := by omega
      | have j3 : ¬ (65 : Int) ≤ (b.toNat : Int) := by omega
    first
      | have j4 : (b.toNat : Int) ≤ 90 := by omega
      | have j4 : ¬ (b.toNat : Int) ≤ 90 := by omega
    first
      | have j5 : (128 : Int) ≤ (b.toNat : Int) := by omega
      | have j5 : ¬ (128 : Int) ≤ (b.toNat : Int) := by omega
    first
      | have j6 : decide ((128 : Int) ≤ (b.toNat : Int)) = true := decide_eq_true j5
      | have j6 : decide ((128 : Int) ≤ (b.toNat : Int)) = false := decide_eq_false j5
    clear h
    go_enter Tryd.func21, Tryd.ntmps21
    go_wp2_with (go_at_call 25; go_fit (cF _); rintro e w1 ⟨rfl, rfl⟩)
    go_ret
    exact ⟨by first | rfl | (rw [j6]; rfl), rfl⟩

/-- The first place from k on, among so many, at which the text stands; -1, if there is none. -/
def findW (S : Nat → ByteArray) (s : ByteArray) : Nat → Nat → Int
  | 0, _ => -1
  | f + 1, k => if (S k).toList == s.toList then (k : Int) else findW S s f (k + 1)
theorem findW_hit (S : Nat → ByteArray) (s : ByteArray) (n k : Nat) (hk : k < n) (h : ((S k).toList == s.toList) = true) : findW S s (n - k) k = (k : Int) := by
  obtain ⟨f, hf⟩ : ∃ f, n - k = f + 1 := ⟨n - k - 1, by omega⟩
  rw [hf, findW, if_pos h]
theorem findW_miss (S : Nat → ByteArray) (s : ByteArray) (n k : Nat) (hk : k < n) (h : ((S k).toList == s.toList) = false) : findW S s (n - k) k = findW S s (n - (k + 1)) (k + 1) := by
  obtain ⟨f, hf⟩ : ∃ f, n - k = f + 1 := ⟨n - k - 1, by omega⟩
  rw [hf, findW, if_neg (by rw [h]; decide)]
  congr 1
  omega
theorem findW_end (S : Nat → ByteArray) (s : ByteArray) (n : Nat) : findW S s (n - n) n = -1 := by
  rw [Nat.sub_self]; rfl
set_option maxRecDepth 100000 in
set_option maxHeartbeats 4000000 in
theorem l5FindW_any (v : Value) (n : Nat) (S : Nat → ByteArray) (s : ByteArray) (w : World) (hm : StrAt w v n S) (hn : n ≤ 1048576) :
    Calls Tryd.prog 23 #[v, .string s] w fun e w' => e = .returned (.int .i64 (findW S s n 0)) ∧ w' = w := by
  obtain ⟨o, cap, rfl, g1, ⟨g2', -⟩, hc⟩ := hm
  have g2 : cap ≤ 9223372036854775807 := Nat.le_trans g2' (by decide)
  clear g2'
  have HC : Hid (∀ j, j < n → ∃ b f : Nat, o = some ⟨b, f, none⟩ ∧ b < w.heap.size ∧ w.cell? ⟨b, f + j, none⟩ = some (.string (S j))) := hc
  clear hc
  obtain ⟨R, hR⟩ : ∃ R, findW S s n 0 = R := ⟨_, rfl⟩
  have H0 : Hid (findW S s (n - 0) 0 = R) := by show _ = _; rw [← hR]; rfl
  rw [hR]
  clear hR
  go_enter Tryd.func23, Tryd.ntmps23
  go_wp2_with fail
  go_loop [5] (fun i => ∃ k : Nat, k ≤ n ∧ i = .int .i64 k ∧ Hid (findW S s (n - k) k = R)) (fun i => n - (intOf i).toNat)
  case atStart => exact ⟨0, Nat.zero_le _, rfl, H0⟩
  case round =>
    obtain ⟨k, hk, rfl, HK⟩ := hrel
    clear H0
    by_cases hlt : k < n
    · obtain ⟨b, f, ho, hb, c0⟩ := HC.out k hlt
      subst ho
      have i1 : (0 : Int) ≤ (k : Int) := by omega
      have i2 : (k : Int) < (n : Int) := by omega
      have h1 := findW_hit S s n k hlt
      have h2 := findW_miss S s n k hlt
      rw [HK.out] at h1 h2
      clear HK
      obtain ⟨x9, hx9⟩ : ∃ x, S k = x := ⟨_, rfl⟩
      rw [hx9] at h1 h2 c0
      clear hx9
      cases hE : (x9.toList == s.toList)
      · have HN : Hid (findW S s (n - (k + 1)) (k + 1) = R) := (h2 hE).symm
        clear h1 h2
        go_wp2_with fail
        clear hE
        go_round
        case rel => exact ⟨k + 1, by omega, by go_num, HN⟩
        case measure => simp [intOf]; omega
      · have hr := h1 hE
        subst hr
        clear h1 h2
        go_wp2_with fail
        go_ret
        exact ⟨rfl, rfl⟩
    · obtain rfl : k = n := by omega
      have hr : R = -1 := by rw [← HK.out]; exact findW_end S s k
      subst hr
      go_wp2_with fail
      go_ret
      exact ⟨rfl, rfl⟩
end Go.Proofs.YtlonpaigfalbkaaDoor.Hub
