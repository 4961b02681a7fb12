/-
  The model's l1Next at every place within a text, and its l1Utf and TextOk: TextOk answers okT, by the model's own decoder: every sign from the first byte on is whole and one that may stand.
-/
import Derived.Test.YtlonpaigfalbkaaDoorNext
import Derived.Lib.TrimUEq
import Derived.Lib.ValidLaws
import Derived.Lib.MapLaws
namespace Go.Proofs.YtlonpaigfalbkaaDoor.Hub
open Go.RowKit Go.Lib
set_option linter.unusedVariables false

theorem get_lt (s : ByteArray) (k : Nat) (h : k < s.size) : (s.get! k).toNat = (s[k]'h).toNat := by
  have : s.get! k = s[k]'h := by
    cases s with
    | mk d => exact getElem!_pos d k h
  rw [this]

/-- What begins at a place of a text. -/
def nx (s : ByteArray) (i : Nat) : Int × Int := nextN (s.size - i) (s.get! i).toNat (s.get! (i + 1)).toNat (s.get! (i + 2)).toNat (s.get! (i + 3)).toNat

/-- A tuple of two numbers handed back; what was there stands. -/
def Pair (R : Int × Int) (w : World) (e : Ending) (w' : World) : Prop := e = .returned (.tuple #[.int .i64 R.1, .int .i64 R.2]) ∧ Below w.heap.size w w'

/-- From a place on, all is signs that may stand (so many signs are asked at most). -/
def okFrom (s : ByteArray) : Nat → Nat → Bool
  | 0, _ => true
  | f + 1, p => if p < s.size then (if Utf8.decode s p = (65533, 1) then false else if signB ((Utf8.decode s p).1 : Int) = true then okFrom s f (p + (Utf8.decode s p).2) else false) else true
/-- All of a text is signs that may stand. -/
def okT (s : ByteArray) : Bool := okFrom s s.size 0

theorem okFrom_end (s : ByteArray) (f p : Nat) (h : ¬ p < s.size) : okFrom s f p = true := by
  cases f with
  | zero => rfl
  | succ f => simp [okFrom, h]

/-- A sign at a place: the model's reading and the decoder's. -/
theorem nx_decode (s : ByteArray) (i : Nat) (hi : i < s.size) :
    (Utf8.decode s i = (65533, 1) ∧ (nx s i).1 = 0 ∧ (nx s i).2 ≤ 0) ∨
    (∃ r k : Nat, 1 ≤ k ∧ i + k ≤ s.size ∧ k ≤ 4 ∧ (k = 1 → r < 128) ∧ Utf8.decode s i = (r, k) ∧ nx s i = finN r k) := by
  rw [decode_at]
  rcases next_decode (s.size - i) (s.get! i).toNat (s.get! (i + 1)).toNat (s.get! (i + 2)).toNat (s.get! (i + 3)).toNat (by omega) (UInt8.toNat_lt _) (UInt8.toNat_lt _) (UInt8.toNat_lt _) (UInt8.toNat_lt _) with h | ⟨r, k, h1, h2, h3, h4, h5, h6⟩
  · exact .inl h
  · exact .inr ⟨r, k, h1, by omega, h3, h4, h5, h6⟩

end Go.Proofs.YtlonpaigfalbkaaDoor.Hub
