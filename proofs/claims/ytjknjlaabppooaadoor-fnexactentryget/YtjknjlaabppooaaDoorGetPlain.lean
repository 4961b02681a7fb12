/-
  Plain facts on the reading of an entry: texts between bars, numbers in figures, and that what was written is read back part by part.
-/
import Derived.Test.YtjknjlaabppooaaDoorFieldPlain
import Derived.Test.YtjknjlaabppooaaDoorEntryPutT
import Derived.Lib.AtoiTie
import Derived.Lib.ItoaNum
namespace Go.Proofs.YtjknjlaabppooaaDoor.Hub
open Go.RowKit
set_option linter.unusedVariables false

/-- The texts between bars; the first of them has begun. -/
def fldL : List UInt8 → List UInt8 → List (List UInt8)
  | acc, [] => [acc]
  | acc, [x] => if x = 124 then [acc, []] else [acc ++ [x]]
  | acc, x :: y :: ys => if x = 124 then acc :: fldL [] (y :: ys) else if x = 92 then fldL (acc ++ [y]) ys else fldL (acc ++ [x]) (y :: ys)
theorem fld_bar (acc xs : List UInt8) : fldL acc (124 :: xs) = acc :: fldL [] xs := by
  cases xs with
  | nil => rfl
  | cons y ys => simp [fldL]
theorem fld_esc (acc ys : List UInt8) (y : UInt8) : fldL acc (92 :: y :: ys) = fldL (acc ++ [y]) ys := by
  have h : ¬ (92 : UInt8) = 124 := by decide
  rw [fldL, if_neg h, if_pos rfl]
theorem fld_end (acc : List UInt8) : fldL acc [92] = [acc ++ [92]] := by
  have h : ¬ (92 : UInt8) = 124 := by decide
  rw [fldL, if_neg h]
theorem fld_oth (acc xs : List UInt8) (x : UInt8) (h1 : x ≠ 124) (h2 : x ≠ 92) : fldL acc (x :: xs) = fldL (acc ++ [x]) xs := by
  cases xs with
  | nil =>
    show (if x = 124 then [acc, []] else [acc ++ [x]]) = _
    rw [if_neg h1]
    rfl
  | cons y ys => rw [fldL, if_neg h1, if_neg h2]
/-- What was written, and a bar behind it, is read back. -/
theorem fld_field : ∀ (a acc rest : List UInt8), fldL acc (fieldL a ++ 124 :: rest) = (acc ++ a) :: fldL [] rest
  | [], acc, rest => by rw [List.append_nil]; exact fld_bar acc rest
  | x :: a, acc, rest => by
    have e : fieldL (x :: a) = (if x = 124 ∨ x = 92 then [92, x] else [x]) ++ fieldL a := rfl
    rw [e]
    by_cases hc : x = 124 ∨ x = 92
    · rw [if_pos hc]
      show fldL acc (92 :: x :: (fieldL a ++ 124 :: rest)) = _
      rw [fld_esc, fld_field a, List.append_assoc]
      rfl
    · rw [if_neg hc]
      show fldL acc (x :: (fieldL a ++ 124 :: rest)) = _
      rw [fld_oth _ _ _ (fun h => hc (.inl h)) (fun h => hc (.inr h)), fld_field a, List.append_assoc]
      rfl
theorem fld_last : ∀ (a acc : List UInt8), fldL acc (fieldL a) = [acc ++ a]
  | [], acc => by rw [List.append_nil]; rfl
  | x :: a, acc => by
    have e : fieldL (x :: a) = (if x = 124 ∨ x = 92 then [92, x] else [x]) ++ fieldL a := rfl
    rw [e]
    by_cases hc : x = 124 ∨ x = 92
    · rw [if_pos hc]
      show fldL acc (92 :: x :: fieldL a) = _
      rw [fld_esc, fld_last a, List.append_assoc]
      rfl
    · rw [if_neg hc]
      show fldL acc (x :: fieldL a) = _
      rw [fld_oth _ _ _ (fun h => hc (.inl h)) (fun h => hc (.inr h)), fld_last a, List.append_assoc]
      rfl

/-- Figures. -/
def figB (x : UInt8) : Bool := decide (48 ≤ x.toNat ∧ x.toNat ≤ 57)
/-- The number of the first k figures. -/
def numPre : Nat → List UInt8 → Nat
  | acc, [] => acc
  | acc, x :: xs => numPre (acc * 10 + (x.toNat - 48)) xs
/-- The number that figures are, -1 of others. -/
def numT (l : List UInt8) : Int :=
  if l.all figB = true ∧ 1 ≤ l.length ∧ l.length ≤ 9 ∧ (l.length = 1 ∨ l.head? ≠ some 48) then (numPre 0 l : Int) else -1

/-- What strconv.Atoi answers beside its error. -/
def atoiV (l : List UInt8) : Int := match Lib.atoiAll l with
  | .ok v => v
  | .range => Lib.atoiSat l
  | _ => 0

theorem numPre_append (a b : List UInt8) : ∀ acc, numPre acc (a ++ b) = numPre (numPre acc a) b := by
  induction a with
  | nil => intro acc; rfl
  | cons x a ih => intro acc; exact ih _

theorem digits_plain : ∀ n : Nat, ∀ x ∈ Lib.decDigits n, figB x = true := by
  intro n
  induction n using Nat.strongRecOn with
  | _ n ih =>
    intro x hx
    rw [Lib.decDigits] at hx
    by_cases h : n < 10
    · rw [dif_pos h] at hx
      simp only [List.mem_singleton] at hx
      subst hx
      unfold figB
      have : (UInt8.ofNat (48 + n)).toNat = 48 + n := by simp; omega
      rw [this]
      simp; omega
    · rw [dif_neg h] at hx
      rcases List.mem_append.1 hx with hx | hx
      · exact ih (n / 10) (by omega) x hx
      · simp only [List.mem_singleton] at hx
        subst hx
        unfold figB
        have : (UInt8.ofNat (48 + n % 10)).toNat = 48 + n % 10 := by simp; omega
        rw [this]
        simp; omega
theorem digits_num : ∀ n : Nat, numPre 0 (Lib.decDigits n) = n := by
  intro n
  induction n using Nat.strongRecOn with
  | _ n ih =>
    rw [Lib.decDigits]
    by_cases h : n < 10
    · rw [dif_pos h]
      have e : (UInt8.ofNat (48 + n)).toNat = 48 + n := by simp; omega
      show 0 * 10 + ((UInt8.ofNat (48 + n)).toNat - 48) = n
      rw [e]; omega
    · rw [dif_neg h, numPre_append, ih (n / 10) (by omega)]
      have e : (UInt8.ofNat (48 + n % 10)).toNat = 48 + n % 10 := by simp; omega
      show n / 10 * 10 + ((UInt8.ofNat (48 + n % 10)).toNat - 48) = n
      rw [e]; omega
theorem digits_ne (n : Nat) : Lib.decDigits n ≠ [] := by
  rw [Lib.decDigits]
  by_cases h : n < 10
  · rw [dif_pos h]; simp
  · rw [dif_neg h]; simp
theorem digits_head : ∀ n : Nat, 0 < n → (Lib.decDigits n).head? ≠ some 48 := by
  intro n
  induction n using Nat.strongRecOn with
  | _ n ih =>
    intro h0
    rw [Lib.decDigits]
    by_cases h : n < 10
    · rw [dif_pos h]
      simp only [List.head?_cons, ne_eq, Option.some.injEq]
      intro e
      have e2 := congrArg UInt8.toNat e
      have : (UInt8.ofNat (48 + n)).toNat = 48 + n := by simp; omega
      rw [this] at e2
      have : (48 : UInt8).toNat = 48 := rfl
      omega
    · rw [dif_neg h]
      have := ih (n / 10) (by omega) (by omega)
      cases hd : Lib.decDigits (n / 10) with
      | nil => exact absurd hd (digits_ne _)
      | cons a b => rw [hd] at this; simpa using this
theorem digits_len : ∀ (f n : Nat), n < 10 ^ (f + 1) → (Lib.decDigits n).length ≤ f + 1
  | 0, n, h => by
    have : n < 10 := by simpa using h
    rw [Lib.decDigits, dif_pos this]; simp
  | f + 1, n, h => by
    rw [Lib.decDigits]
    by_cases h10 : n < 10
    · rw [dif_pos h10]; simp
    · rw [dif_neg h10, List.length_append]
      have := digits_len f (n / 10) (by rw [Nat.pow_succ] at h; omega)
      simp; omega
theorem numT_digits (n : Nat) (h : n < 10 ^ 9) : numT (Lib.decDigits n) = n := by
  unfold numT
  have h1 : (Lib.decDigits n).all figB = true := List.all_eq_true.2 (digits_plain n)
  have h2 : 1 ≤ (Lib.decDigits n).length := by
    have := digits_ne n
    cases hd : Lib.decDigits n with
    | nil => exact absurd hd this
    | cons a b => simp
  have h3 := digits_len 8 n h
  have h4 : (Lib.decDigits n).length = 1 ∨ (Lib.decDigits n).head? ≠ some 48 := by
    by_cases h0 : n = 0
    · subst h0; left; rw [Lib.decDigits, dif_pos (by omega)]; rfl
    · right; exact digits_head n (by omega)
  have h5 := digits_num n
  generalize Lib.decDigits n = L at *
  rw [if_pos ⟨h1, h2, by omega, h4⟩, h5]

theorem decFrom_num (l : List UInt8) : ∀ acc : Nat, l.all figB = true → Lib.decFrom acc l = some (numPre acc l) := by
  induction l with
  | nil => intro acc _; rfl
  | cons x l ih =>
    intro acc h
    rw [List.all_cons, Bool.and_eq_true] at h
    have hx : 48 ≤ x.toNat ∧ x.toNat ≤ 57 := of_decide_eq_true h.1
    have hv : Lib.digitVal x = some (x.toNat - 48) := by unfold Lib.digitVal; rw [if_pos hx]
    have e : Lib.decFrom acc (x :: l) = Lib.decFrom (acc * 10 + (x.toNat - 48)) l := by rw [Lib.decFrom, hv]
    rw [e]
    exact ih _ h.2
/-- Figures that are a number are that number to strconv.Atoi. -/
theorem atoiV_num (l : List UInt8) (h : 0 ≤ numT l) : atoiV l = numT l := by
  unfold numT at h ⊢
  by_cases hc : l.all figB = true ∧ 1 ≤ l.length ∧ l.length ≤ 9 ∧ (l.length = 1 ∨ l.head? ≠ some 48)
  · rw [if_pos hc]
    obtain ⟨h1, h2, h3, h4⟩ := hc
    unfold atoiV
    rw [Lib.atoiAll_short l (by omega)]
    have e : Lib.atoi l = some ((numPre 0 l : Nat) : Int) := by
      cases l with
      | nil => simp at h2
      | cons x r =>
        have hx : 48 ≤ x.toNat ∧ x.toNat ≤ 57 := by
          rw [List.all_cons, Bool.and_eq_true] at h1
          exact of_decide_eq_true h1.1
        have n45 : (x == 45) = false := by
          rw [beq_eq_false_iff_ne]
          rintro rfl
          have : (45 : UInt8).toNat = 45 := rfl
          omega
        have n43 : (x == 43) = false := by
          rw [beq_eq_false_iff_ne]
          rintro rfl
          have : (43 : UInt8).toNat = 43 := rfl
          omega
        unfold Lib.atoi
        simp only [n45, n43, Lib.decNat, List.isEmpty_cons, Bool.false_eq_true, if_false]
        rw [decFrom_num _ _ h1]
        rfl
    rw [e]
    rfl
  · rw [if_neg hc] at h
    omega

theorem digits_field (n : Nat) : fieldL (Lib.decDigits n) = Lib.decDigits n :=
  fieldL_same _ fun x hx => by
    have := digits_plain n x hx
    have h : 48 ≤ x.toNat ∧ x.toNat ≤ 57 := of_decide_eq_true this
    constructor
    · rintro rfl
      have : (124 : UInt8).toNat = 124 := rfl
      omega
    · rintro rfl
      have : (92 : UInt8).toNat = 92 := rfl
      omega
theorem decB_L : ∀ (f n : Nat), n < 10 ^ (f + 1) → (decB f n).data.toList = fieldL (Lib.decDigits n)
  | 0, n, h => by
    have h' : n < 10 := by simpa using h
    rw [digits_field]
    unfold decB
    rw [Lib.decDigits, dif_pos h']
    simp only [strOfNums, List.map_cons, List.map_nil]
    have e : (48 + (n : Int)).toNat = 48 + n := by omega
    rw [e]
  | f + 1, n, h => by
    have ih := decB_L f (n / 10)
    rw [digits_field] at ih ⊢
    unfold decB
    by_cases h10 : n < 10
    · rw [if_pos h10, Lib.decDigits, dif_pos h10]
      simp only [strOfNums, List.map_cons, List.map_nil]
      have e : (48 + (n : Int)).toNat = 48 + n := by omega
      rw [e]
    · rw [if_neg h10, Lib.decDigits, dif_neg h10, ByteArray.data_append, Array.toList_append, ih (by rw [Nat.pow_succ] at h; omega)]
      congr 1
/-- What was written of an entry, part by part. -/
theorem get_back {r u n t i f : ByteArray} {a b c : List UInt8} {s : ByteArray} (hp : fldL [] s.data.toList = [a, b, r.data.toList, u.data.toList, n.data.toList, t.data.toList, i.data.toList, f.data.toList, c]) {q k m : Int}
    (hE : entT r q k u n t i f m = true) (hs : putT r q.toNat k.toNat u n t i f m.toNat = s) : numT a = q ∧ numT b = k ∧ numT c = m := by
  obtain ⟨a1, a2, a3, -⟩ := entT_small hE
  obtain ⟨ur, uu⟩ : userT r = true ∧ userT u = true := by
    unfold entT at hE
    simp only [Bool.and_eq_true] at hE
    exact ⟨hE.1, hE.2.1⟩
  obtain ⟨q', rfl⟩ := Int.eq_ofNat_of_zero_le a1.1
  obtain ⟨k', rfl⟩ := Int.eq_ofNat_of_zero_le a2.1
  obtain ⟨m', rfl⟩ := Int.eq_ofNat_of_zero_le a3.1
  simp only [Int.toNat_natCast] at hs
  have er : r.data.toList = fieldL r.data.toList := (fieldL_same _ (user_plain ur)).symm
  have eu : u.data.toList = fieldL u.data.toList := (fieldL_same _ (user_plain uu)).symm
  have key : s.data.toList = fieldL (Lib.decDigits q') ++ 124 :: (fieldL (Lib.decDigits k') ++ 124 :: (fieldL r.data.toList ++ 124 :: (fieldL u.data.toList ++ 124 :: (fieldL n.data.toList ++ 124 :: (fieldL t.data.toList ++ 124 :: (fieldL i.data.toList ++ 124 :: (fieldL f.data.toList ++ 124 :: fieldL (Lib.decDigits m')))))))) := by
    rw [← hs, ← er, ← eu]
    unfold putT
    simp only [ByteArray.data_append, Array.toList_append, decB_L 3 q' (by omega), decB_L 0 k' (by omega), decB_L 0 m' (by omega), fieldT_L, List.append_assoc]
    rfl
  rw [key] at hp
  simp only [fld_field, fld_last, List.nil_append] at hp
  have h1 := congrArg (fun l => l.head?) hp
  have h2 := congrArg (fun l => l[1]?) hp
  have h3 := congrArg (fun l => l[8]?) hp
  simp only [List.head?_cons, Option.some.injEq] at h1
  simp only [List.getElem?_cons_succ, List.getElem?_cons_zero, Option.some.injEq] at h2 h3
  rw [← h1, ← h2, ← h3]
  exact ⟨numT_digits q' (by omega), numT_digits k' (by omega), numT_digits m' (by omega)⟩

/-- The two readings of an entry answer alike. -/
theorem get_same {r u n t i f : ByteArray} {a b c : List UInt8} {s : ByteArray} (hp : fldL [] s.data.toList = [a, b, r.data.toList, u.data.toList, n.data.toList, t.data.toList, i.data.toList, f.data.toList, c]) :
    (entT r (numT a) (numT b) u n t i f (numT c) = true ∧ putT r (numT a).toNat (numT b).toNat u n t i f (numT c).toNat = s ∧ eputT r (atoiV a) (atoiV b) u n t i f (atoiV c) = s ∧ atoiV a = numT a ∧ atoiV b = numT b ∧ atoiV c = numT c)
    ∨ ((entT r (numT a) (numT b) u n t i f (numT c) = true → putT r (numT a).toNat (numT b).toNat u n t i f (numT c).toNat ≠ s) ∧ eputT r (atoiV a) (atoiV b) u n t i f (atoiV c) ≠ s) := by
  by_cases hx : entT r (numT a) (numT b) u n t i f (numT c) = true ∧ putT r (numT a).toNat (numT b).toNat u n t i f (numT c).toNat = s
  · left
    obtain ⟨hE, hs⟩ := hx
    obtain ⟨a1, a2, a3, -⟩ := entT_small hE
    have e1 := atoiV_num a a1.1
    have e2 := atoiV_num b a2.1
    have e3 := atoiV_num c a3.1
    refine ⟨hE, hs, ?_, e1, e2, e3⟩
    rw [e1, e2, e3]
    unfold eputT
    rw [if_pos hE]
    exact hs
  · right
    refine ⟨fun hE hs => hx ⟨hE, hs⟩, fun hs => ?_⟩
    unfold eputT at hs
    by_cases hE : entT r (atoiV a) (atoiV b) u n t i f (atoiV c) = true
    · rw [if_pos hE] at hs
      obtain ⟨e1, e2, e3⟩ := get_back hp hE hs
      apply hx
      rw [e1, e2, e3]
      exact ⟨hE, hs⟩
    · rw [if_neg hE] at hs
      rw [← hs] at hp
      simp [fldL] at hp
end Go.Proofs.YtjknjlaabppooaaDoor.Hub
