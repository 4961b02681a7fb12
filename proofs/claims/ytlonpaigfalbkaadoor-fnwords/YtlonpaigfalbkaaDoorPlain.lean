/-
  Plain facts on signs and bytes, no program in them: what a sign is, what one that begins with given bytes is, and that this is what the model's own decoder says.
-/
import Derived.Lib.DecodeN
namespace Go.Proofs.YtlonpaigfalbkaaDoor.Hub
open Go.Lib
set_option linter.unusedVariables false

/-- The numbers that are signs. -/
def signB (n : Int) : Bool := decide (n = 9 ∨ n = 10 ∨ (32 ≤ n ∧ n ≤ 55295) ∨ (57344 ≤ n ∧ n ≤ 65533) ∨ (65536 ≤ n ∧ n ≤ 1114111))
theorem signB_yes {n : Int} (h : signB n = true) : n = 9 ∨ n = 10 ∨ (32 ≤ n ∧ n ≤ 55295) ∨ (57344 ≤ n ∧ n ≤ 65533) ∨ (65536 ≤ n ∧ n ≤ 1114111) := of_decide_eq_true h
theorem signB_no {n : Int} (h : signB n = false) : n < 9 ∨ (10 < n ∧ n < 32) ∨ (55295 < n ∧ n < 57344) ∨ (65533 < n ∧ n < 65536) ∨ 1114111 < n := by
  have := of_decide_eq_false h
  omega
theorem signB_mk {n : Int} (h : n = 9 ∨ n = 10 ∨ (32 ≤ n ∧ n ≤ 55295) ∨ (57344 ≤ n ∧ n ≤ 65533) ∨ (65536 ≤ n ∧ n ≤ 1114111)) : signB n = true := decide_eq_true h
theorem signB_not {n : Int} (h : n < 9 ∨ (10 < n ∧ n < 32) ∨ (55295 < n ∧ n < 57344) ∨ (65533 < n ∧ n < 65536) ∨ 1114111 < n) : signB n = false := decide_eq_false (by omega)

/-- How many bytes a sign has that begins with a byte; 0, if none does. -/
def leadN (b : Nat) : Nat := if b < 128 then 1 else if 194 ≤ b ∧ b ≤ 223 then 2 else if 224 ≤ b ∧ b ≤ 239 then 3 else if 240 ≤ b ∧ b ≤ 244 then 4 else 0
/-- Whether a second byte can stand behind a first one. -/
def secondB (a b : Nat) : Bool := decide ((a = 224 → 160 ≤ b) ∧ (a = 237 → b < 160) ∧ (a = 240 → 144 ≤ b) ∧ (a = 244 → b < 144))
def contB (b : Nat) : Bool := decide (128 ≤ b ∧ b ≤ 191)
/-- A sign, and its bytes; nothing of another number. -/
def finN (n k : Int) : Int × Int := if signB n = true then (n, k) else (0, 0)
/-- What begins with so many bytes, of which the first four are told: a sign and its bytes; (0, 0), if none does; (0, -1), if one may. -/
def nextN (n b0 b1 b2 b3 : Nat) : Int × Int :=
  if leadN b0 = 0 then (0, 0)
  else if leadN b0 = 1 then finN b0 1
  else if n < 2 then (0, -1)
  else if (contB b1 && secondB b0 b1) = false then (0, 0)
  else if leadN b0 = 2 then finN ((b0 : Int) % 32 * 64 + b1 - 128) 2
  else if n < 3 then (0, -1)
  else if contB b2 = false then (0, 0)
  else if leadN b0 = 3 then finN (((b0 : Int) % 16 * 64 + b1 - 128) * 64 + b2 - 128) 3
  else if n < 4 then (0, -1)
  else if contB b3 = false then (0, 0)
  else finN ((((b0 : Int) % 8 * 64 + b1 - 128) * 64 + b2 - 128) * 64 + b3 - 128) 4

set_option maxRecDepth 100000 in
set_option maxHeartbeats 4000000 in
theorem next_lead1 (n b0 b1 b2 b3 : Nat) (hb : b0 < 128) : nextN n b0 b1 b2 b3 = finN b0 1 ∧ decodeN n b0 b1 b2 b3 = (b0, 1) := by
  have h1 : leadN b0 = 1 := by unfold leadN; rw [if_pos hb]
  constructor
  · unfold nextN; simp [h1]
  · unfold decodeN; rw [if_pos hb]
theorem leadN_one {b : Nat} (h : b < 128) : leadN b = 1 := by unfold leadN; rw [if_pos h]
theorem leadN_two {b : Nat} (h : 194 ≤ b ∧ b ≤ 223) : leadN b = 2 := by
  unfold leadN; rw [if_neg (by omega), if_pos h]
theorem leadN_three {b : Nat} (h : 224 ≤ b ∧ b ≤ 239) : leadN b = 3 := by
  unfold leadN; rw [if_neg (by omega), if_neg (by omega), if_pos h]
theorem leadN_four {b : Nat} (h : 240 ≤ b ∧ b ≤ 244) : leadN b = 4 := by
  unfold leadN; rw [if_neg (by omega), if_neg (by omega), if_neg (by omega), if_pos h]
theorem leadN_none {b : Nat} (h : (128 ≤ b ∧ b < 194) ∨ 244 < b) : leadN b = 0 := by
  unfold leadN; rw [if_neg (by omega), if_neg (by omega), if_neg (by omega), if_neg (by omega)]

/-- What the decoder says of what is no sign, or of one that is not whole. -/
def BadN (d : Nat × Nat) : Prop := d.1 = 65533 ∧ d.2 = 1

set_option maxRecDepth 100000 in
set_option maxHeartbeats 4000000 in
theorem next_two (n b0 b1 b2 b3 : Nat) (hb : 194 ≤ b0 ∧ b0 ≤ 223) (h1 : b1 < 256) :
    (decodeN n b0 b1 b2 b3 = (65533, 1) ∧ (nextN n b0 b1 b2 b3).1 = 0 ∧ (nextN n b0 b1 b2 b3).2 ≤ 0) ∨ (∃ r : Nat, decodeN n b0 b1 b2 b3 = (r, 2) ∧ nextN n b0 b1 b2 b3 = finN r 2) := by
  have hl := leadN_two hb
  by_cases c : 1 < n ∧ 128 ≤ b1 ∧ b1 ≤ 191
  · right
    refine ⟨b0 % 32 * 64 + b1 % 64, ?_, ?_⟩
    · unfold decodeN
      rw [if_neg (by omega), if_pos (by omega), if_pos (by omega)]
    · have hc : (contB b1 && secondB b0 b1) = true := by
        simp [contB, secondB]; omega
      unfold nextN
      rw [hl, if_neg (by decide), if_neg (by decide), if_neg (by omega), if_neg (by rw [hc]; decide), if_pos rfl]
      congr 1; omega
  · left
    refine ⟨?_, ?_⟩
    · unfold decodeN
      rw [if_neg (by omega), if_neg (by omega), if_neg (by omega), if_neg (by omega)]
    · unfold nextN
      rw [hl, if_neg (by decide), if_neg (by decide)]
      by_cases hn : n < 2
      · rw [if_pos hn]; simp
      · have hc : (contB b1 && secondB b0 b1) = false := by
          have : contB b1 = false := by simp [contB]; omega
          rw [this]; rfl
        rw [if_neg hn, if_pos hc]; simp

set_option maxRecDepth 100000 in
set_option maxHeartbeats 4000000 in
theorem next_three (n b0 b1 b2 b3 : Nat) (hb : 224 ≤ b0 ∧ b0 ≤ 239) (h1 : b1 < 256) (h2 : b2 < 256) :
    (decodeN n b0 b1 b2 b3 = (65533, 1) ∧ (nextN n b0 b1 b2 b3).1 = 0 ∧ (nextN n b0 b1 b2 b3).2 ≤ 0) ∨ (∃ r : Nat, 2 < n ∧ decodeN n b0 b1 b2 b3 = (r, 3) ∧ nextN n b0 b1 b2 b3 = finN r 3) := by
  have hl := leadN_three hb
  by_cases c : 2 < n ∧ (128 ≤ b1 ∧ b1 ≤ 191) ∧ (128 ≤ b2 ∧ b2 ≤ 191) ∧ (b0 = 224 → 160 ≤ b1) ∧ (b0 = 237 → b1 < 160)
  · right
    refine ⟨b0 % 16 * 4096 + b1 % 64 * 64 + b2 % 64, by omega, ?_, ?_⟩
    · unfold decodeN
      rw [if_neg (by omega), if_neg (by omega), if_pos (by omega), if_pos (by omega)]
    · have hc : (contB b1 && secondB b0 b1) = true := by
        simp [contB, secondB]; omega
      have hc2 : contB b2 = true := by simp [contB]; omega
      unfold nextN
      rw [hl, if_neg (by decide), if_neg (by decide), if_neg (by omega), if_neg (by rw [hc]; decide), if_neg (by decide), if_neg (by omega), if_neg (by rw [hc2]; decide), if_pos rfl]
      congr 1; omega
  · left
    refine ⟨?_, ?_⟩
    · unfold decodeN
      rw [if_neg (by omega), if_neg (by omega)]
      by_cases d : b0 / 16 = 14 ∧ (1 < n ∧ b1 / 64 = 2) ∧ (2 < n ∧ b2 / 64 = 2)
      · rw [if_pos d, if_neg (by omega)]
      · rw [if_neg d, if_neg (by omega)]
    · unfold nextN
      rw [hl, if_neg (by decide), if_neg (by decide)]
      by_cases hn : n < 2
      · rw [if_pos hn]; simp
      · rw [if_neg hn]
        cases hc : (contB b1 && secondB b0 b1)
        · rw [if_pos rfl]; simp
        · rw [if_neg (by decide), if_neg (by decide)]
          by_cases hn3 : n < 3
          · rw [if_pos hn3]; simp
          · rw [if_neg hn3]
            cases hc2 : contB b2
            · rw [if_pos rfl]; simp
            · exfalso
              simp [contB, secondB] at hc hc2
              omega

set_option maxRecDepth 100000 in
set_option maxHeartbeats 4000000 in
theorem next_four (n b0 b1 b2 b3 : Nat) (hb : 240 ≤ b0 ∧ b0 ≤ 244) (h1 : b1 < 256) (h2 : b2 < 256) (h3 : b3 < 256) :
    (decodeN n b0 b1 b2 b3 = (65533, 1) ∧ (nextN n b0 b1 b2 b3).1 = 0 ∧ (nextN n b0 b1 b2 b3).2 ≤ 0) ∨ (∃ r : Nat, 3 < n ∧ decodeN n b0 b1 b2 b3 = (r, 4) ∧ nextN n b0 b1 b2 b3 = finN r 4) := by
  have hl := leadN_four hb
  by_cases c : 3 < n ∧ (128 ≤ b1 ∧ b1 ≤ 191) ∧ (128 ≤ b2 ∧ b2 ≤ 191) ∧ (128 ≤ b3 ∧ b3 ≤ 191) ∧ (b0 = 240 → 144 ≤ b1) ∧ (b0 = 244 → b1 < 144)
  · right
    refine ⟨b0 % 8 * 262144 + b1 % 64 * 4096 + b2 % 64 * 64 + b3 % 64, by omega, ?_, ?_⟩
    · unfold decodeN
      rw [if_neg (by omega), if_neg (by omega), if_neg (by omega), if_pos (by omega), if_pos (by omega)]
    · have hc : (contB b1 && secondB b0 b1) = true := by
        simp [contB, secondB]; omega
      have hc2 : contB b2 = true := by simp [contB]; omega
      have hc3 : contB b3 = true := by simp [contB]; omega
      unfold nextN
      rw [hl, if_neg (by decide), if_neg (by decide), if_neg (by omega), if_neg (by rw [hc]; decide), if_neg (by decide), if_neg (by omega), if_neg (by rw [hc2]; decide), if_neg (by decide), if_neg (by omega), if_neg (by rw [hc3]; decide)]
      congr 1; omega
  · left
    refine ⟨?_, ?_⟩
    · unfold decodeN
      rw [if_neg (by omega), if_neg (by omega), if_neg (by omega)]
      by_cases d : b0 / 8 = 30 ∧ (1 < n ∧ b1 / 64 = 2) ∧ (2 < n ∧ b2 / 64 = 2) ∧ (3 < n ∧ b3 / 64 = 2)
      · rw [if_pos d, if_neg (by omega)]
      · rw [if_neg d]
    · unfold nextN
      rw [hl, if_neg (by decide), if_neg (by decide)]
      by_cases hn : n < 2
      · rw [if_pos hn]; simp
      · rw [if_neg hn]
        cases hc : (contB b1 && secondB b0 b1)
        · rw [if_pos rfl]; simp
        · rw [if_neg (by decide), if_neg (by decide)]
          by_cases hn3 : n < 3
          · rw [if_pos hn3]; simp
          · rw [if_neg hn3]
            cases hc2 : contB b2
            · rw [if_pos rfl]; simp
            · rw [if_neg (by decide), if_neg (by decide)]
              by_cases hn4 : n < 4
              · rw [if_pos hn4]; simp
              · rw [if_neg hn4]
                cases hc3 : contB b3
                · rw [if_pos rfl]; simp
                · exfalso
                  simp [contB, secondB] at hc hc2 hc3
                  omega

set_option maxRecDepth 100000 in
set_option maxHeartbeats 4000000 in
theorem next_none (n b0 b1 b2 b3 : Nat) (hb : (128 ≤ b0 ∧ b0 < 194) ∨ 244 < b0) (h0 : b0 < 256) (h1 : b1 < 256) (h2 : b2 < 256) (h3 : b3 < 256) :
    decodeN n b0 b1 b2 b3 = (65533, 1) ∧ nextN n b0 b1 b2 b3 = (0, 0) := by
  have hl := leadN_none hb
  constructor
  · unfold decodeN
    rw [if_neg (by omega)]
    by_cases d : b0 / 32 = 6 ∧ (1 < n ∧ b1 / 64 = 2)
    · rw [if_pos d, if_neg (by omega)]
    · rw [if_neg d, if_neg (by omega)]
      by_cases d : b0 / 8 = 30 ∧ (1 < n ∧ b1 / 64 = 2) ∧ (2 < n ∧ b2 / 64 = 2) ∧ (3 < n ∧ b3 / 64 = 2)
      · rw [if_pos d, if_neg (by omega)]
      · rw [if_neg d]
  · unfold nextN
    rw [if_pos hl]

/-- The specification's reading of a sign is the decoder's. -/
theorem next_decode (n b0 b1 b2 b3 : Nat) (hn : 1 ≤ n) (h0 : b0 < 256) (h1 : b1 < 256) (h2 : b2 < 256) (h3 : b3 < 256) :
    (decodeN n b0 b1 b2 b3 = (65533, 1) ∧ (nextN n b0 b1 b2 b3).1 = 0 ∧ (nextN n b0 b1 b2 b3).2 ≤ 0) ∨
    (∃ r k : Nat, 1 ≤ k ∧ k ≤ n ∧ k ≤ 4 ∧ (k = 1 → r < 128) ∧ decodeN n b0 b1 b2 b3 = (r, k) ∧ nextN n b0 b1 b2 b3 = finN r k) := by
  by_cases c1 : b0 < 128
  · obtain ⟨e1, e2⟩ := next_lead1 n b0 b1 b2 b3 c1
    exact .inr ⟨b0, 1, by omega, by omega, by omega, fun _ => c1, e2, e1⟩
  by_cases c2 : 194 ≤ b0 ∧ b0 ≤ 223
  · rcases next_two n b0 b1 b2 b3 c2 h1 with h | ⟨r, e1, e2⟩
    · exact .inl h
    · refine .inr ⟨r, 2, by omega, ?_, by omega, by omega, e1, e2⟩
      by_cases c : 2 ≤ n
      · exact c
      · exfalso
        have : decodeN n b0 b1 b2 b3 = (65533, 1) := by
          unfold decodeN
          rw [if_neg (by omega), if_neg (by omega), if_neg (by omega), if_neg (by omega)]
        rw [this] at e1
        simp at e1
  by_cases c3 : 224 ≤ b0 ∧ b0 ≤ 239
  · rcases next_three n b0 b1 b2 b3 c3 h1 h2 with h | ⟨r, hn, e1, e2⟩
    · exact .inl h
    · exact .inr ⟨r, 3, by omega, by omega, by omega, by omega, e1, e2⟩
  by_cases c4 : 240 ≤ b0 ∧ b0 ≤ 244
  · rcases next_four n b0 b1 b2 b3 c4 h1 h2 h3 with h | ⟨r, hn, e1, e2⟩
    · exact .inl h
    · exact .inr ⟨r, 4, by omega, by omega, by omega, by omega, e1, e2⟩
  · obtain ⟨e1, e2⟩ := next_none n b0 b1 b2 b3 (by omega) h0 h1 h2 h3
    refine .inl ⟨e1, ?_⟩
    rw [e2]; simp

end Go.Proofs.YtlonpaigfalbkaaDoor.Hub
