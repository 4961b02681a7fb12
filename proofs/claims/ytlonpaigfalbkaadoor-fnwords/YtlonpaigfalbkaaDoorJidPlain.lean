/-
  Plain facts on addresses, no program in them: what bytes a user, a host and a nick have, and how a text is cut at a byte.
-/
import Derived.Test.YtlonpaigfalbkaaDoorTextSpec
import Derived.Test.YtlonpaigfalbkaaDoorEscSpec
import Derived.Lib.Bytealg
namespace Go.Proofs.YtlonpaigfalbkaaDoor.Hub
open Go.RowKit Go.Lib
set_option linter.unusedVariables false

def smallB (c : Int) : Bool := decide ((97 ≤ c ∧ c ≤ 122) ∨ (48 ≤ c ∧ c ≤ 57))
def userB (c : Int) : Bool := decide ((97 ≤ c ∧ c ≤ 122) ∨ (48 ≤ c ∧ c ≤ 57) ∨ c = 45 ∨ c = 46 ∨ c = 95)
def hostB (c : Int) : Bool := decide ((97 ≤ c ∧ c ≤ 122) ∨ (48 ≤ c ∧ c ≤ 57) ∨ c = 45)
def nickB (c : Int) : Bool := decide (32 ≤ c ∧ c ≠ 127)
/-- Each byte of a text is one of those. -/
def eachB (p : Int → Bool) (s : ByteArray) : Bool := s.data.toList.all fun b => p (b.toNat : Int)
/-- The first and the last byte are not that one. -/
def edgeB (c : Nat) (s : ByteArray) : Bool := decide ((s.get! 0).toNat ≠ c ∧ (s.get! (s.size - 1)).toNat ≠ c)
def userT (s : ByteArray) : Bool := decide (1 ≤ s.size ∧ s.size ≤ 8) && eachB userB s
def nickT (s : ByteArray) : Bool := decide (1 ≤ s.size ∧ s.size ≤ 10) && okT s && eachB nickB s && edgeB 32 s
def hpartT (s : ByteArray) : Bool := decide (1 ≤ s.size) && eachB hostB s && edgeB 45 s

/-- A text ahead of the first of texts. -/
def consTo (pre : List UInt8) : List (List UInt8) → List (List UInt8)
  | [] => [pre]
  | p :: ps => (pre ++ p) :: ps
/-- A text cut at a byte, so many times at most. -/
def cutL (c : UInt8) : Nat → List UInt8 → List (List UInt8)
  | _, [] => [[]]
  | 0, x :: xs => [x :: xs]
  | m + 1, x :: xs => if x = c then [] :: cutL c m xs else consTo [x] (cutL c (m + 1) xs)
def hostT (s : ByteArray) : Bool := decide (s.size ≤ 20) && (cutL 46 s.size s.data.toList).all fun p => hpartT (ofL p)

theorem cutL_cons (c : UInt8) (m : Nat) (x : UInt8) (xs : List UInt8) : cutL c (m + 1) (x :: xs) = if x = c then [] :: cutL c m xs else consTo [x] (cutL c (m + 1) xs) := by rw [cutL]
theorem cutL_zero (c : UInt8) (l : List UInt8) : cutL c 0 l = [l] := by cases l <;> simp [cutL]
theorem cutL_ne (c : UInt8) : ∀ (m : Nat) (l : List UInt8), cutL c m l ≠ []
  | _, [] => by simp [cutL]
  | 0, _ :: _ => by simp [cutL]
  | m + 1, x :: xs => by
    rw [cutL_cons]
    split
    · simp
    · cases h : cutL c (m + 1) xs with
      | nil => simp [consTo]
      | cons p ps => simp [consTo]
theorem consTo_nil (ps : List (List UInt8)) (h : ps ≠ []) : consTo [] ps = ps := by
  cases ps with
  | nil => exact absurd rfl h
  | cons p ps => rfl
theorem consTo_consTo (a b : List UInt8) (ps : List (List UInt8)) : consTo a (consTo b ps) = consTo (a ++ b) ps := by
  cases ps with
  | nil => simp [consTo]
  | cons p ps => simp [consTo]
/-- A byte that is not the one goes to the part that is begun. -/
theorem cut_other (c : UInt8) (m : Nat) (x : UInt8) (xs pre : List UInt8) (hm : 1 ≤ m) (hx : x ≠ c) : consTo pre (cutL c m (x :: xs)) = consTo (pre ++ [x]) (cutL c m xs) := by
  obtain ⟨k, rfl⟩ : ∃ k, m = k + 1 := ⟨m - 1, by omega⟩
  rw [cutL_cons, if_neg hx, consTo_consTo]
theorem cut_hit (c : UInt8) (m : Nat) (xs pre : List UInt8) (hm : 1 ≤ m) : consTo pre (cutL c m (c :: xs)) = pre :: cutL c (m - 1) xs := by
  obtain ⟨k, rfl⟩ : ∃ k, m = k + 1 := ⟨m - 1, by omega⟩
  rw [cutL_cons, if_pos rfl]
  simp [consTo]
theorem cut_end (c : UInt8) (m : Nat) (l pre : List UInt8) (h : l = [] ∨ m = 0) : consTo pre (cutL c m l) = [pre ++ l] := by
  rcases h with rfl | rfl
  · cases m <;> simp [cutL, consTo]
  · rw [cutL_zero]; rfl
theorem cutL_len (c : UInt8) : ∀ (m : Nat) (l : List UInt8), (cutL c m l).length ≤ l.length + 1
  | _, [] => by simp [cutL]
  | 0, _ :: _ => by simp [cutL]
  | m + 1, x :: xs => by
    rw [cutL_cons]
    split
    · have := cutL_len c m xs; simp; omega
    · have := cutL_len c (m + 1) xs
      cases h : cutL c (m + 1) xs with
      | nil => simp [consTo]
      | cons p ps => rw [h] at this; simp [consTo] at this ⊢; omega
/-- Where the byte stands first, the text is cut there. -/
theorem cutL_index (c : UInt8) : ∀ (m : Nat) (l : List UInt8), 1 ≤ m → (indexByte l c = -1 ∧ cutL c m l = [l]) ∨ (∃ i : Nat, indexByte l c = (i : Int) ∧ i < l.length ∧ cutL c m l = l.take i :: cutL c (m - 1) (l.drop (i + 1)))
  | m, [], _ => .inl ⟨rfl, by cases m <;> rfl⟩
  | 0, _ :: _, h => absurd h (by omega)
  | m + 1, x :: xs, _ => by
    by_cases hx : x = c
    · subst hx
      refine .inr ⟨0, by simp [indexByte], by simp, ?_⟩
      rw [cutL_cons, if_pos rfl]
      simp
    · have hb : (x == c) = false := by simpa using hx
      rcases cutL_index c (m + 1) xs (by omega) with ⟨h1, h2⟩ | ⟨i, h1, h2, h3⟩
      · refine .inl ⟨by unfold indexByte; rw [hb, h1]; rfl, ?_⟩
        rw [cutL_cons, if_neg hx, h2]
        rfl
      · refine .inr ⟨i + 1, ?_, by simp; omega, ?_⟩
        · unfold indexByte
          rw [hb, h1]
          have : ((i : Int) == -1) = false := by simp
          rw [this]
          simp
        · rw [cutL_cons, if_neg hx, h3]
          simp [consTo]

theorem all_take_succ (s : ByteArray) (p : Int → Bool) (k : Nat) (h : k < s.size) : ((s.data.toList.take (k + 1)).all fun b => p (b.toNat : Int)) = (((s.data.toList.take k).all fun b => p (b.toNat : Int)) && p ((s[k]'h).toNat : Int)) := by
  rw [take_snoc s k h, List.all_append]
  simp
theorem all_take_false (s : ByteArray) (p : Int → Bool) (k : Nat) (h : k < s.size) (hp : p ((s[k]'h).toNat : Int) = false) : eachB p s = false := by
  unfold eachB
  rw [List.all_eq_false]
  exact ⟨s[k]'h, by show s.data.toList[k]'(by have : s.data.toList.length = s.size := rfl; omega) ∈ _; exact List.getElem_mem _, by rw [hp]; decide⟩
theorem all_take_end (s : ByteArray) (p : Int → Bool) : ((s.data.toList.take s.size).all fun b => p (b.toNat : Int)) = eachB p s := by
  unfold eachB
  rw [List.take_of_length_le (by have : s.data.toList.length = s.size := rfl; omega)]
theorem cellLit (w : World) (C : Array Value) (t : TypeId) (i : Nat) : (w.alloc (.cells C t)).cell? ⟨w.heap.size, i, none⟩ = C[i]? := by
  simp [go_sem]
theorem size_zero (s : ByteArray) (h : s.size = 0) : s = ⟨#[]⟩ := by
  have : s.data = #[] := by apply Array.eq_empty_of_size_eq_zero; exact h
  cases s; simp_all
theorem not_empty (s : ByteArray) (h : 0 < s.size) : s.toList.isEmpty = false := by
  cases hb : s.toList.isEmpty
  · rfl
  · have h1 : s.toList = [] := by simpa using hb
    rw [ByteArray.toList_eq] at h1
    have h2 : s.data.toList.length = s.size := rfl
    rw [h1] at h2
    simp at h2
    omega
theorem edge_cases (c : Nat) (s : ByteArray) (h : 0 < s.size) : edgeB c s = (decide (s[0].toNat ≠ c) && decide ((s[s.size - 1]'(by omega)).toNat ≠ c)) := by
  unfold edgeB
  rw [get_lt s 0 h, get_lt s (s.size - 1) (by omega), Bool.decide_and]
end Go.Proofs.YtlonpaigfalbkaaDoor.Hub
