/-
  Plain facts on the parts of a text, one behind the other: what begins a rest of a text is what begins at its place; and that what the parts stand for is unT.
-/
import Derived.Test.YtbcledidadjddaaDoorFirstPart
import Derived.Test.YtbcledidadjddaaDoorUnSpecB
namespace Go.Proofs.YtbcledidadjddaaDoor.Hub
open Go.RowKit
set_option linter.unusedVariables false

theorem get_extract (s : ByteArray) (p k : Nat) : ((s.extract p s.size).get! k).toNat = (s.get! (p + k)).toNat := by
  have hsz : (s.extract p s.size).size = s.size - p := by
    have h1 : (s.extract p s.size).size = (s.extract p s.size).data.toList.length := rfl
    rw [h1, extract_end, List.length_drop]
    rfl
  by_cases h : p + k < s.size
  · have h1 : k < (s.extract p s.size).size := by omega
    rw [get_lt _ k h1, get_lt _ (p + k) h]
    have e1 : (s.extract p s.size)[k] = (s.extract p s.size).data.toList[k]'(by have : (s.extract p s.size).data.toList.length = (s.extract p s.size).size := rfl; omega) := rfl
    have e2 : s[p + k] = s.data.toList[p + k]'(by have : s.data.toList.length = s.size := rfl; omega) := rfl
    rw [e1, e2]
    simp only [extract_end, List.getElem_drop]
  · have e1 : (s.extract p s.size).get! k = default := by
      show (s.extract p s.size).data[k]! = default
      exact getElem!_neg _ _ (by show ¬ k < (s.extract p s.size).size; omega)
    have e2 : s.get! (p + k) = default := by
      show s.data[p + k]! = default
      exact getElem!_neg _ _ (by show ¬ p + k < s.size; omega)
    rw [e1, e2]
theorem size_extract (s : ByteArray) (p : Nat) : (s.extract p s.size).size = s.size - p := by
  have h1 : (s.extract p s.size).size = (s.extract p s.size).data.toList.length := rfl
  rw [h1, extract_end, List.length_drop]
  rfl
theorem nx_extract (s : ByteArray) (p : Nat) : nx (s.extract p s.size) 0 = nx s p := by
  unfold nx
  rw [size_extract, get_extract, get_extract, get_extract, get_extract]
  simp
theorem scan_extract (s : ByteArray) (p : Nat) (hp : p < s.size) : ∀ f k, entScan (s.extract p s.size) 0 f k = entScan s p f k
  | 0, k => rfl
  | f + 1, k => by
    unfold entScan
    rw [size_extract, Nat.zero_add, get_extract, scan_extract s p hp f (k + 1)]
    by_cases h : s.size ≤ p + k
    · rw [if_pos h, if_pos (by omega)]
    · rw [if_neg h, if_neg (by omega)]
theorem sub_extract (s : ByteArray) (p a b : Nat) : sub (s.extract p s.size) a b = sub s (p + a) (p + b) := by
  unfold sub
  rw [extract_end, List.drop_drop]
  congr 1
  omega
/-- What begins a rest of a text is what begins at its place. -/
theorem part_extract (s : ByteArray) (p : Nat) (hp : p < s.size) : part (s.extract p s.size) 0 = part s p := by
  unfold part entPart
  rw [get_extract, nx_extract, scan_extract s p hp, sub_extract]
  simp only [Nat.add_zero, Nat.zero_add]

/-- The parts from a place on, up to the first that is not whole. -/
def partsFrom (s : ByteArray) : Nat → Nat → List (Int × Int × Int)
  | 0, _ => []
  | f + 1, p => if p < s.size then part s p :: (if (part s p).2.2 = 0 then partsFrom s f (p + (part s p).2.1.toNat) else []) else []
def partsAll (s : ByteArray) : List (Int × Int × Int) := partsFrom s s.size 0
theorem partsFrom_len (s : ByteArray) : ∀ f p, (partsFrom s f p).length ≤ f
  | 0, _ => by simp [partsFrom]
  | f + 1, p => by
    unfold partsFrom
    split
    · split
      · have := partsFrom_len s f (p + (part s p).2.1.toNat); simp only [List.length_cons]; omega
      · simp
    · simp
/-- A part that is whole, and no open bracket as it is. -/
def goodB (x : Int × Int × Int) : Bool := decide (x.2.2 = 0) && !rawB x 60
/-- What parts stand for. -/
def outL (xs : List (Int × Int × Int)) : List UInt8 := xs.flatMap fun x => (putS x.1).data.toList
theorem outL_snoc (xs : List (Int × Int × Int)) (x : Int × Int × Int) : outL (xs ++ [x]) = outL xs ++ (putS x.1).data.toList := by simp [outL]
theorem putS_small (n : Int) : (putS n).data.toList.length ≤ 4 := by
  unfold putS
  split
  · exact encode_small n
  · simp
theorem outL_le : ∀ xs : List (Int × Int × Int), (outL xs).length ≤ 4 * xs.length
  | [] => by simp [outL]
  | x :: xs => by
    have h1 := outL_le xs
    have h2 := putS_small x.1
    unfold outL at h1 ⊢
    rw [List.flatMap_cons, List.length_append, List.length_cons]
    omega

theorem good_cases (s : ByteArray) (p : Nat) (hp : p < s.size) :
    (goodB (part s p) = false ∧ (partT s p).2 < 1) ∨ (goodB (part s p) = true ∧ ∃ n k : Nat, part s p = ((n : Int), (k : Int), 0) ∧ 1 ≤ k ∧ p + k ≤ s.size ∧ signB (n : Int) = true ∧ partT s p = (Utf8.encode (n : Int), (k : Int))) := by
  rcases partT_cases s p hp with ⟨m, hm, h, hb⟩ | ⟨n, k, h, h1, h2, h3, h4, h5⟩
  · left
    refine ⟨?_, by rw [h]; show m < 1; omega⟩
    unfold goodB rawB
    rcases hb with hb | ⟨hb1, hb2⟩
    · rw [decide_eq_false hb]; rfl
    · by_cases h0 : (part s p).2.2 = 0
      · rw [decide_eq_true (show (part s p).2.2 = 0 ∧ (part s p).2.1 = 1 ∧ (part s p).1 = ((60 : Nat) : Int) from ⟨h0, hb2, by rw [hb1]; rfl⟩)]
        simp
      · rw [decide_eq_false h0]; rfl
  · right
    refine ⟨?_, n, k, h1, h3, h4, h5, h⟩
    unfold goodB rawB
    rw [h1]
    show (decide ((0 : Int) = 0) && !decide ((0 : Int) = 0 ∧ (k : Int) = 1 ∧ (n : Int) = ((60 : Nat) : Int))) = true
    rw [decide_eq_false (show ¬ ((0 : Int) = 0 ∧ (k : Int) = 1 ∧ (n : Int) = ((60 : Nat) : Int)) by omega)]
    rfl

theorem un_parts (s : ByteArray) : ∀ f p, unL s f p = if (partsFrom s f p).all goodB = true then some (outL (partsFrom s f p)) else none
  | 0, p => rfl
  | f + 1, p => by
    unfold unL partsFrom
    by_cases hp : p < s.size
    · rw [if_pos hp, if_pos hp]
      rcases good_cases s p hp with ⟨hg, ht⟩ | ⟨hg, n, k, h1, h2, h3, h4, h5⟩
      · rw [if_pos ht, if_neg (by rw [List.all_cons, hg]; simp)]
      · rw [h5, if_neg (show ¬ ((k : Nat) : Int) < 1 by omega)]
        rw [h1] at hg
        rw [h1, if_pos rfl]
        simp only [Int.toNat_natCast]
        rw [un_parts s f (p + k)]
        have he : (putS (n : Int)).data.toList = (Utf8.encode (n : Int)).data.toList := by unfold putS; rw [if_pos h4]
        cases ha : (partsFrom s f (p + k)).all goodB
        · rw [if_neg (by simp), if_neg (by rw [List.all_cons, ha]; simp)]; rfl
        · rw [if_pos rfl, if_pos (by rw [List.all_cons, hg, ha]; rfl)]
          simp only [Option.map_some, Option.some.injEq]
          unfold outL
          rw [List.flatMap_cons, he]
    · rw [if_neg hp, if_neg hp]
      rfl
theorem unT_parts (s : ByteArray) : unT s = if (partsAll s).all goodB = true then (ofL (outL (partsAll s)), true) else (⟨#[]⟩, false) := by
  unfold unT partsAll
  rw [un_parts]
  cases (partsFrom s s.size 0).all goodB <;> rfl
end Go.Proofs.YtbcledidadjddaaDoor.Hub
