/-
  Plain facts on parts of marked text, no program in them: what an entity's bytes stand for, where one ends, and what begins at a place of a text: its sign, how many bytes it takes, and whether it is whole (0), cut off (1) or wrong (2).
-/
import Derived.Test.YtbcledidadjddaaDoorSignPut
import Derived.Test.YtbcledidadjddaaDoorParse
import Derived.Test.YtbcledidadjddaaDoorEscSpec
import Derived.Shelf.Small.Wraps
namespace Go.Proofs.YtbcledidadjddaaDoor.Hub
open Go.RowKit Go.Lib
set_option linter.unusedVariables false

/-- A byte that may stand within an entity. -/
def entB (c : Nat) : Bool := decide ((97 ≤ c ∧ c ≤ 122) ∨ (65 ≤ c ∧ c ≤ 70) ∨ (48 ≤ c ∧ c ≤ 57) ∨ c = 35)
/-- The number that figures of a base are; -1, if they are none. -/
def numI (b : Nat) (l : List UInt8) : Int := if l = [] then -1 else match parseB b 0 l with
  | some n => (n : Int)
  | none => -1
/-- The number that stands between an ampersand and a semicolon; -1, if none does. -/
def entNum (l : List UInt8) : Int :=
  if l = [97, 109, 112] then 38 else if l = [108, 116] then 60 else if l = [103, 116] then 62 else if l = [113, 117, 111, 116] then 34 else if l = [97, 112, 111, 115] then 39
  else if Lib.hasPrefix l [35, 120] = true then numI 16 (l.drop 2) else if Lib.hasPrefix l [35] = true then numI 10 (l.drop 1) else -1
/-- Where an entity that begins at i ends: the place of its semicolon, counted from i; 0, if it is wrong; -1, if it is cut off. -/
def entScan (s : ByteArray) (i : Nat) : Nat → Nat → Int
  | 0, _ => 0
  | f + 1, k => if s.size ≤ i + k then -1 else if (s.get! (i + k)).toNat = 59 then k else if entB (s.get! (i + k)).toNat = false then 0 else if f = 0 then 0 else entScan s i f (k + 1)
/-- The bytes of a text between two places. -/
def sub (s : ByteArray) (a b : Nat) : List UInt8 := (s.data.toList.drop a).take (b - a)
/-- An entity that begins at i: its sign, its bytes, how it stands. -/
def entPart (s : ByteArray) (i : Nat) : Int × Int × Int :=
  if entScan s i 9 1 = -1 then (0, 0, 1) else if entScan s i 9 1 = 0 then (0, 0, 2)
  else if signB (entNum (sub s (i + 1) (i + (entScan s i 9 1).toNat))) = true then (entNum (sub s (i + 1) (i + (entScan s i 9 1).toNat)), entScan s i 9 1 + 1, 0) else (0, 0, 2)
/-- What begins at i. -/
def part (s : ByteArray) (i : Nat) : Int × Int × Int :=
  if (s.get! i).toNat = 38 then entPart s i
  else if (nx s i).2 = -1 then (0, 0, 1) else if (nx s i).2 < 1 then (0, 0, 2) else ((nx s i).1, (nx s i).2, 0)

theorem entScan_range (s : ByteArray) (i : Nat) : ∀ (f k : Nat), 1 ≤ k → k + f ≤ 10 → (entScan s i f k = -1 ∨ entScan s i f k = 0 ∨ (∃ j : Nat, entScan s i f k = j ∧ k ≤ j ∧ j ≤ 9 ∧ i + j < s.size))
  | 0, k, _, _ => .inr (.inl rfl)
  | f + 1, k, h1, h2 => by
    unfold entScan
    by_cases c1 : s.size ≤ i + k
    · rw [if_pos c1]; exact .inl rfl
    · rw [if_neg c1]
      by_cases c2 : (s.get! (i + k)).toNat = 59
      · rw [if_pos c2]; exact .inr (.inr ⟨k, rfl, by omega, by omega, by omega⟩)
      · rw [if_neg c2]
        by_cases c3 : entB (s.get! (i + k)).toNat = false
        · rw [if_pos c3]; exact .inr (.inl rfl)
        · rw [if_neg c3]
          by_cases c4 : f = 0
          · rw [if_pos c4]; exact .inr (.inl rfl)
          · rw [if_neg c4]
            rcases entScan_range s i f (k + 1) (by omega) (by omega) with h | h | ⟨j, hj, h5, h6, h7⟩
            · exact .inl h
            · exact .inr (.inl h)
            · exact .inr (.inr ⟨j, hj, by omega, h6, h7⟩)

/-- A part that is whole takes one to ten bytes, within the text, and is a sign. -/
theorem part_whole (s : ByteArray) (i : Nat) (hi : i < s.size) : (part s i).2.2 = 0 → ∃ n k : Nat, part s i = ((n : Int), (k : Int), 0) ∧ 1 ≤ k ∧ i + k ≤ s.size ∧ signB (n : Int) = true := by
  unfold part
  intro h
  by_cases c : (s.get! i).toNat = 38
  · rw [if_pos c] at h ⊢
    unfold entPart at h ⊢
    rcases entScan_range s i 9 1 (by omega) (by omega) with e | e | ⟨j, e, h1, h2, h3⟩
    · rw [e] at h; simp at h
    · rw [e] at h; simp at h
    · rw [e] at h ⊢
      rw [if_neg (by omega), if_neg (by omega)] at h ⊢
      simp only [Int.toNat_natCast] at h ⊢
      cases hs : signB (entNum (sub s (i + 1) (i + j)))
      · rw [hs] at h; simp at h
      · rw [if_pos rfl]
        have hn := signB_yes hs
        obtain ⟨n, hn2⟩ : ∃ n : Nat, entNum (sub s (i + 1) (i + j)) = n := ⟨(entNum (sub s (i + 1) (i + j))).toNat, by omega⟩
        rw [hn2] at hs ⊢
        exact ⟨n, j + 1, by simp, by omega, by omega, hs⟩
  · rw [if_neg c] at h ⊢
    rcases nx_decode s i hi with ⟨_, h1, h2⟩ | ⟨r, k, h1, h2, h3, h4, h5, h6⟩
    · exfalso
      by_cases e : (nx s i).2 = -1
      · rw [if_pos e] at h; simp at h
      · rw [if_neg e, if_pos (by omega)] at h; simp at h
    · cases hs : signB (r : Int)
      · rw [h6, finN_no hs] at h; simp at h
      · rw [h6, finN_yes hs]
        rw [if_neg (show ¬ ((k : Nat) : Int) = -1 by omega), if_neg (show ¬ ((k : Nat) : Int) < 1 by omega)]
        exact ⟨r, k, rfl, h1, h2, hs⟩
end Go.Proofs.YtbcledidadjddaaDoor.Hub
