/-
  The sum of a text (CRC-32): one plain function, which both the program's Crc and the model's reckon at every text.
-/
import Derived.Test.YtpicccdlaiaemaaProg
import Derived.Laws.BitsAll
import Derived.WalkKit
import Derived.ProofKit
import Derived.OpenShut
import Derived.WalkLawsBesides
import Derived.WalkSpells
namespace Go.Proofs.Ytpicccdlaiaemaa.Hub
open Go.RowKit
set_option linter.unusedVariables false

/-- One bit of the sum. -/
def crcBit (x : Nat) : Nat := if x % 2 = 1 then x / 2 ^^^ 3988292384 else x / 2
def crcBits : Nat → Nat → Nat
  | 0, x => x
  | k + 1, x => crcBit (crcBits k x)
def byteN (s : ByteArray) (k : Nat) : Nat := if h : k < s.size then s[k].toNat else 0
/-- The sum behind the first k bytes, not yet turned. -/
def crcPre (s : ByteArray) : Nat → Nat
  | 0 => 4294967295
  | k + 1 => crcBits 8 (crcPre s k ^^^ byteN s k)
def crcT (s : ByteArray) : Nat := crcPre s s.size ^^^ 4294967295
theorem crcBit_lt (x : Nat) (h : x < 4294967296) : crcBit x < 4294967296 := by
  unfold crcBit
  split
  · have : x / 2 ^^^ 3988292384 < 2 ^ 32 := Nat.xor_lt_two_pow (by omega) (by omega)
    omega
  · omega
theorem crcBits_lt (k x : Nat) (h : x < 4294967296) : crcBits k x < 4294967296 := by
  induction k with
  | zero => exact h
  | succ k ih => exact crcBit_lt _ ih
theorem byteN_lt (s : ByteArray) (k : Nat) : byteN s k < 256 := by
  unfold byteN
  split
  · exact UInt8.toNat_lt _
  · omega
theorem byteN_at (s : ByteArray) (k : Nat) (h : k < s.size) : s[k].toNat = byteN s k := by unfold byteN; rw [dif_pos h]
theorem xor_lt32 (x y : Nat) (hx : x < 4294967296) (hy : y < 4294967296) : x ^^^ y < 4294967296 := by
  have : x ^^^ y < 2 ^ 32 := Nat.xor_lt_two_pow (by omega) (by omega)
  omega
theorem crcPre_lt (s : ByteArray) (k : Nat) : crcPre s k < 4294967296 := by
  induction k with
  | zero => show 4294967295 < 4294967296; omega
  | succ k ih => exact crcBits_lt 8 _ (xor_lt32 _ _ ih (by have := byteN_lt s k; omega))
theorem crcT_lt (s : ByteArray) : crcT s < 4294967296 := xor_lt32 _ _ (crcPre_lt s _) (by omega)

theorem xor_i64 (a b : Nat) (ha : a < 4294967296) (hb : b < 4294967296) : bits .xor .i64 (a : Int) (b : Int) = ((a ^^^ b : Nat) : Int) := by
  have hx : a ^^^ b < 2 ^ 62 := Nat.xor_lt_two_pow (by omega) (by omega)
  show IntKind.i64.wrap ((BitVec.ofInt 64 (a : Int) ^^^ BitVec.ofInt 64 (b : Int)).toNat : Int) = _
  have h1 : (BitVec.ofInt 64 (a : Int)).toNat = a := by
    rw [BitVec.ofInt_natCast, BitVec.toNat_ofNat]; exact Nat.mod_eq_of_lt (by omega)
  have h2 : (BitVec.ofInt 64 (b : Int)).toNat = b := by
    rw [BitVec.ofInt_natCast, BitVec.toNat_ofNat]; exact Nat.mod_eq_of_lt (by omega)
  rw [BitVec.toNat_xor, h1, h2, IntKind.wrap_i64]
  omega

theorem crcBit_odd (x : Nat) (h : x % 2 = 1) : crcBit x = x / 2 ^^^ 3988292384 := by unfold crcBit; rw [if_pos h]
theorem crcBit_even (x : Nat) (h : x % 2 = 0) : crcBit x = x / 2 := by unfold crcBit; rw [if_neg (by omega)]
theorem int_eq {k : IntKind} {a b : Int} (h : a = b) : Value.int k a = .int k b := by rw [h]
theorem ret_int {k : IntKind} {a b : Int} (h : a = b) : Ending.returned (.int k a) = .returned (.int k b) := by rw [h]


set_option maxHeartbeats 1000000 in
theorem l8Crc_any (s : ByteArray) (w : World) (hs : s.size ≤ 1048580) :
    Calls Try.prog 27 #[.string s] w fun e w' => e = .returned (.int .i64 (crcT s : Nat)) ∧ w' = w := by
  go_enter Try.func27, Try.ntmps27
  go_wp2_with fail
  go_loop [3, 4] (fun x i => ∃ k : Nat, k ≤ s.size ∧ i = .int .i64 k ∧ x = .int .i64 (crcPre s k : Nat)) (fun x i => s.size - (intOf i).toNat)
  case atStart => exact ⟨0, Nat.zero_le _, rfl, rfl⟩
  case round =>
    obtain ⟨k, hk, rfl, rfl⟩ := hrel
    by_cases hlt : k < s.size
    · have hx := crcPre_lt s k
      have hb := byteN_lt s k
      have e1 := xor_i64 (crcPre s k) (byteN s k) hx (by omega)
      have hX := xor_lt32 (crcPre s k) (byteN s k) hx (by omega)
      have hbe := byteN_at s k hlt
      have hP : Hid (crcPre s (k + 1) = crcBits 8 (crcPre s k ^^^ byteN s k)) := (show _ = _ from rfl)
      generalize crcPre s k = x at *
      go_wp2_with fail
      clear e1
      generalize x ^^^ byteN s k = X at *
      go_loop [3, 5] (fun y i => ∃ j : Nat, j ≤ 8 ∧ i = .int .i64 j ∧ y = .int .i64 (crcBits j X : Nat)) (fun y i => 8 - (intOf i).toNat)
      case atStart => exact ⟨0, by omega, rfl, rfl⟩
      case round =>
        obtain ⟨j, hj, rfl, rfl⟩ := hrel
        by_cases hj8 : j < 8
        · have hy := crcBits_lt j X hX
          have hQ : Hid (crcBits (j + 1) X = crcBit (crcBits j X)) := (show _ = _ from rfl)
          generalize crcBits j X = y at *
          have e2 := xor_i64 (y / 2) 3988292384 (by omega) (by omega)
          rcases Nat.mod_two_eq_zero_or_one y with h2 | h2
          · go_wp2_with fail
            refine ⟨⟨j + 1, by omega, rfl, int_eq ?_⟩, by simp [intOf]; omega⟩
            rw [hQ.out, crcBit_even y h2]; rfl
          · go_wp2_with fail
            refine ⟨⟨j + 1, by omega, rfl, int_eq ?_⟩, by simp [intOf]; omega⟩
            rw [hQ.out, crcBit_odd y h2]; exact e2
        · have h8 : j = 8 := by omega
          subst h8
          go_wp2_with fail
          refine ⟨⟨k + 1, by omega, rfl, int_eq ?_⟩, by simp [intOf]; omega⟩
          rw [hP.out]
    · have hks : k = s.size := by omega
      subst hks
      have e3 := xor_i64 (crcPre s s.size) 4294967295 (crcPre_lt s _) (by omega)
      go_wp2_with fail
      go_ret
      exact ⟨ret_int e3, rfl⟩
set_option maxHeartbeats 400000 in
theorem specCrc_any (s : ByteArray) (w : World) (hs : s.size ≤ 1048580) :
    Calls Try.prog 10 #[.string s] w fun e w' => e = .returned (.int .i64 (crcT s : Nat)) ∧ w' = w := by
  go_enter Try.func10, Try.ntmps10
  go_wp2_with (go_at_call 27; refine (l8Crc_any s _ hs).mono ?_; rintro e w' ⟨rfl, rfl⟩)
  go_ret
  exact ⟨rfl, rfl⟩

theorem poly_bit (y : Nat) (hy : y < 4294967296) : bits .xor .u32 ((y : Int) / 2) (3988292384 * bits .and .u32 (y : Int) 1 % 4294967296) = ((crcBit y : Nat) : Int) := by
  have e0 : bits .and .u32 (y : Int) 1 = ((y % 2 : Nat) : Int) := by
    have := u32_and_nat y 1 hy (by omega)
    rw [Nat.and_one_is_mod] at this
    exact this
  rw [e0]
  rcases Nat.mod_two_eq_zero_or_one y with h2 | h2
  · rw [h2, crcBit_even y h2]
    have := u32_xor_nat (y / 2) 0 (by omega) (by omega)
    rw [Nat.xor_zero] at this
    exact this
  · rw [h2, crcBit_odd y h2]
    exact u32_xor_nat (y / 2) 3988292384 (by omega) (by omega)
set_option maxHeartbeats 1000000 in
theorem crc_any (s : ByteArray) (w : World) (hs : s.size ≤ 1048580) :
    Calls Try.prog 9 #[.string s] w fun e w' => e = .returned (.int .i64 (crcT s : Nat)) ∧ w' = w := by
  go_enter Try.func9, Try.ntmps9
  go_wp2_with fail
  go_loop [3, 7] (fun x i => ∃ k : Nat, k ≤ s.size ∧ i = .int .i64 k ∧ x = .int .u32 (crcPre s k : Nat)) (fun x i => s.size - (intOf i).toNat)
  case atStart => exact ⟨0, Nat.zero_le _, rfl, rfl⟩
  case round =>
    obtain ⟨k, hk, rfl, rfl⟩ := hrel
    by_cases hlt : k < s.size
    · have hx := crcPre_lt s k
      have hb := byteN_lt s k
      have e1 := u32_xor_nat (crcPre s k) (byteN s k) hx (by omega)
      have hX := xor_lt32 (crcPre s k) (byteN s k) hx (by omega)
      have hbe := byteN_at s k hlt
      have hP : Hid (crcPre s (k + 1) = crcBits 8 (crcPre s k ^^^ byteN s k)) := (show _ = _ from rfl)
      generalize crcPre s k = x at *
      go_wp2_with fail
      clear e1
      generalize x ^^^ byteN s k = X at *
      go_loop [3, 16] (fun y i => ∃ j : Nat, j ≤ 8 ∧ i = .int .i64 j ∧ y = .int .u32 (crcBits j X : Nat)) (fun y i => 8 - (intOf i).toNat)
      case atStart => exact ⟨0, by omega, rfl, rfl⟩
      case round =>
        obtain ⟨j, hj, rfl, rfl⟩ := hrel
        by_cases hj8 : j < 8
        · have hy := crcBits_lt j X hX
          have hQ : Hid (crcBits (j + 1) X = crcBit (crcBits j X)) := (show _ = _ from rfl)
          generalize crcBits j X = y at *
          go_wp2_with fail
          refine ⟨⟨j + 1, by omega, rfl, int_eq ?_⟩, by simp [intOf]; omega⟩
          rw [hQ.out]
          exact poly_bit y hy
        · have h8 : j = 8 := by omega
          subst h8
          go_wp2_with fail
          refine ⟨⟨k + 1, by omega, rfl, int_eq ?_⟩, by simp [intOf]; omega⟩
          rw [hP.out]
    · have hks : k = s.size := by omega
      subst hks
      have hx := crcPre_lt s s.size
      have e3 := u32_xor_nat 4294967295 (crcPre s s.size) (by omega) (crcPre_lt s _)
      go_wp2_with fail
      go_ret
      refine ⟨ret_int ?_, rfl⟩
      rw [show IntKind.u32.max = ((4294967295 : Nat) : Int) from rfl, e3, Nat.xor_comm]
      have := crcT_lt s
      unfold crcT at this ⊢
      unfold wrap64
      omega
end Go.Proofs.Ytpicccdlaiaemaa.Hub
