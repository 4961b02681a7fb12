/-
  The model's Unescape: at every text of at most 2^40 bytes it answers unT: what its parts stand for, one behind the other; nothing and false, if one is wrong, cut off, or an open bracket as it is.
-/
import Derived.Test.YtbcledidadjddaaDoorUnSpec
namespace Go.Proofs.YtbcledidadjddaaDoor.Hub
open Go.RowKit
set_option linter.unusedVariables false

theorem l1Part_any (s : ByteArray) (i : Nat) (w : World) (hs : s.size ≤ 1099511627776) (hi : i < s.size) :
    Calls Tryd.prog 51 #[.string s, .int .i64 i] w fun e w' => e = .returned (.tuple #[.string (partT s i).1, .int .i64 (partT s i).2]) ∧ Below w.heap.size w w' := by
  by_cases hc : (s.get! i).toNat = 38
  · exact l1Part_ent s i w hs hi hc
  · exact l1Part_plain s i w hs hi hc

theorem encode_small (n : Int) : (Utf8.encode n).data.toList.length ≤ 4 := by
  unfold Utf8.encode
  simp only
  repeat' split
  all_goals simp

theorem partT_cases (s : ByteArray) (i : Nat) (hi : i < s.size) :
    (∃ m : Int, m ≤ 0 ∧ partT s i = (⟨#[]⟩, m) ∧ ((part s i).2.2 ≠ 0 ∨ ((part s i).1 = 60 ∧ (part s i).2.1 = 1))) ∨
    (∃ n k : Nat, partT s i = (Utf8.encode (n : Int), (k : Int)) ∧ part s i = ((n : Int), (k : Int), 0) ∧ ¬ (n = 60 ∧ k = 1) ∧ 1 ≤ k ∧ i + k ≤ s.size ∧ signB (n : Int) = true) := by
  unfold partT
  by_cases h0 : (part s i).2.2 = 0
  · obtain ⟨n, k, h1, h2, h3, h4⟩ := part_whole s i hi h0
    rw [h1]
    rw [if_neg (show ¬ (0 : Int) = 1 by omega), if_pos rfl]
    by_cases h5 : n = 60 ∧ k = 1
    · left
      refine ⟨0, by omega, ?_, .inr ⟨by simp only; omega, by simp only; omega⟩⟩
      rw [if_pos (by simp only; omega)]
    · right
      refine ⟨n, k, ?_, rfl, h5, h2, h3, h4⟩
      rw [if_neg (by simp only; omega)]
  · left
    by_cases h1 : (part s i).2.2 = 1
    · exact ⟨-1, by omega, by rw [if_pos h1], .inl h0⟩
    · exact ⟨0, by omega, by rw [if_neg h1, if_neg h0], .inl h0⟩

/-- What the parts from a place on stand for (so many parts are asked at most). -/
def unL (s : ByteArray) : Nat → Nat → Option (List UInt8)
  | 0, _ => some []
  | f + 1, p => if p < s.size then (if (partT s p).2 < 1 then none else (unL s f (p + (partT s p).2.toNat)).map ((partT s p).1.data.toList ++ ·)) else some []
/-- What stands in marked text. -/
def outT : Option (List UInt8) → ByteArray × Bool
  | some l => (ofL l, true)
  | none => (⟨#[]⟩, false)
def unT (s : ByteArray) : ByteArray × Bool := outT (unL s s.size 0)
theorem unL_end (s : ByteArray) (f p : Nat) (h : ¬ p < s.size) : unL s f p = some [] := by
  cases f with
  | zero => rfl
  | succ f => simp [unL, h]

set_option maxRecDepth 100000 in
set_option maxHeartbeats 1000000 in
theorem specUnescape_any (s : ByteArray) (w : World) (hs : s.size ≤ 1099511627776) :
    Calls Tryd.prog 24 #[.string s] w fun e w' => e = .returned (.tuple #[.string (unT s).1, .bool (unT s).2]) ∧ Below w.heap.size w w' := by
  obtain ⟨R, hR⟩ : ∃ R, unL s s.size 0 = R := ⟨_, rfl⟩
  have hU : unT s = outT R := by unfold unT; rw [hR]
  obtain ⟨U, hU2⟩ : ∃ U, unT s = U := ⟨_, rfl⟩
  rw [hU2] at hU ⊢
  have HU : Hid (U = outT R) := hU
  clear hU hU2
  go_enter Tryd.func24, Tryd.ntmps24
  go_wp2_with fail
  go_loopw [4, 5] (fun o a wr => ∃ (p f : Nat) (acc : List UInt8), o = .string (ofL acc) ∧ a = .int .i64 p ∧ p ≤ s.size ∧ s.size ≤ p + f ∧ acc.length ≤ 4 * p ∧ Hid ((unL s f p).map (acc ++ ·) = R) ∧ Below w.heap.size w wr) (fun _ a _ => s.size - (intOf a).toNat)
  case atStart => exact ⟨0, s.size, [], rfl, rfl, by omega, by omega, by simp, (by rw [← hR]; cases unL s s.size 0 <;> rfl : (unL s s.size 0).map ([] ++ ·) = R), Below.refl _ _⟩
  case round =>
    obtain ⟨p, f, acc, rfl, rfl, hp, hf, hal, hun, hg⟩ := hrel
    clear hR
    by_cases hlt : p < s.size
    · obtain ⟨g, rfl⟩ : ∃ g, f = g + 1 := ⟨f - 1, by omega⟩
      have hN := fun w => l1Part_any s p w hs hlt
      have hsz : (ofL acc).size ≤ 4398046511104 := by rw [ofL_size]; omega
      rcases partT_cases s p hlt with ⟨m, hm, h, _⟩ | ⟨n, k, h, _, _, h1, h2, _⟩
      · have hrn : R = none := by
          rw [← hun.out]; unfold unL; rw [if_pos hlt, h, if_pos (show m < 1 by omega)]; rfl
        have hu := HU.out
        rw [hrn] at hu
        have hu' : U = (⟨#[]⟩, false) := hu
        subst hu'
        clear hu
        rw [h] at hN
        clear hun HU h hrn
        go_wp2_with (go_at_call 51; refine (hN _).mono ?_; rintro e w' ⟨rfl, hg2⟩)
        go_ret2
        exact ⟨rfl, hg.trans (hg2.mono hg.size)⟩
      · have hnew : Hid ((unL s g (p + k)).map ((acc ++ (Utf8.encode (n : Int)).data.toList) ++ ·) = R) := by
          have h5 := hun.out
          unfold unL at h5
          rw [if_pos hlt, h, if_neg (show ¬ ((k : Nat) : Int) < 1 by omega)] at h5
          simp only [Int.toNat_natCast, Option.map_map] at h5
          have h6 : (unL s g (p + k)).map ((acc ++ (Utf8.encode (n : Int)).data.toList) ++ ·) = R := by
            rw [← h5]; congr 1; funext x; simp
          exact h6
        have hes := encode_small (n : Int)
        rw [h] at hN
        obtain ⟨E, hE⟩ : ∃ E, Utf8.encode (n : Int) = E := ⟨_, rfl⟩
        rw [hE] at hN hnew hes
        have hes2 : E.size ≤ 4 := hes
        have happ : ofL acc ++ E = ofL (acc ++ E.data.toList) := by rw [ofL_append]; rfl
        have HA : Hid (ofL acc ++ E = ofL (acc ++ E.data.toList)) := happ
        clear hun HU h hE happ
        go_wp2_with (go_at_call 51; refine (hN _).mono ?_; rintro e w' ⟨rfl, hg2⟩)
        go_roundw
        case rel => exact ⟨p + k, g, acc ++ E.data.toList, by rw [HA.out], by go_num, by omega, by omega, by rw [List.length_append]; omega, hnew, hg.trans (hg2.mono hg.size)⟩
        case measure => simp [intOf]; omega
    · have hr : R = some acc := by rw [← hun.out, unL_end s f p hlt]; simp
      have hu := HU.out
      rw [hr] at hu
      have hu' : U = (ofL acc, true) := hu
      subst hu'
      clear hun HU hr hu
      go_wp2_with fail
      go_ret2
      exact ⟨rfl, hg⟩
end Go.Proofs.YtbcledidadjddaaDoor.Hub
