/-
  An entry that is ok has small parts; how the model writes any entry.
-/
import Derived.Test.YtmhigbomnhdeeaaDoorEntrySpec
import Derived.Test.YtmhigbomnhdeeaaDoorEntryPutS
namespace Go.Proofs.YtmhigbomnhdeeaaDoor.Hub
open Go.RowKit
set_option linter.unusedVariables false

theorem userT_le {s : ByteArray} (h : userT s = true) : s.size ≤ 100 := by
  unfold userT at h; simp only [Bool.and_eq_true, decide_eq_true_eq] at h; omega
theorem nickT_le {s : ByteArray} (h : nickT s = true) : s.size ≤ 100 := by
  unfold nickT at h; simp only [Bool.and_eq_true, decide_eq_true_eq] at h; omega
theorem wordT_le {s : ByteArray} (h : wordT s = true) : s.size ≤ 100 := by
  unfold wordT at h; simp only [Bool.and_eq_true, decide_eq_true_eq] at h; omega
theorem bodyT_le {s : ByteArray} (h : bodyT s = true) : s.size ≤ 100 := by
  unfold bodyT at h; simp only [Bool.and_eq_true, decide_eq_true_eq] at h; omega
theorem noT_le {s : ByteArray} (h : noT s = true) : s.size ≤ 100 := by
  unfold noT at h; simp only [decide_eq_true_eq] at h; omega
theorem orW_le {s : ByteArray} (h : orE wordT s = true) : s.size ≤ 100 := by
  unfold orE at h
  by_cases z : s.size = 0
  · omega
  · rw [if_neg z] at h; exact wordT_le h
theorem inI_le {n a b : Int} (h : inI n a b = true) : a ≤ n ∧ n ≤ b := by
  unfold inI at h; simp only [Bool.and_eq_true, decide_eq_true_eq] at h; exact h

theorem bareT_small {k : Int} {n t i f : ByteArray} {m : Int} (h : bareT k n t i f m = true) :
    (0 ≤ k ∧ k < 10) ∧ (0 ≤ m ∧ m < 10) ∧ n.size ≤ 100 ∧ t.size ≤ 100 ∧ i.size ≤ 100 ∧ f.size ≤ 100 := by
  unfold bareT at h
  by_cases h1 : k = 1 ∨ k = 5
  · rw [if_pos h1] at h
    simp only [Bool.and_eq_true] at h
    obtain ⟨a, b, c, d, e⟩ := h
    have := inI_le e
    exact ⟨by omega, by omega, nickT_le d, noT_le a, noT_le b, noT_le c⟩
  rw [if_neg h1] at h
  by_cases h2 : k = 2
  · rw [if_pos h2] at h
    simp only [Bool.and_eq_true] at h
    obtain ⟨a, b, c, d, e⟩ := h
    have := inI_le e
    exact ⟨by omega, by omega, nickT_le d, noT_le a, noT_le b, noT_le c⟩
  rw [if_neg h2] at h
  by_cases h3 : k = 3
  · rw [if_pos h3] at h
    simp only [Bool.and_eq_true, decide_eq_true_eq] at h
    obtain ⟨a, b, c, d, e⟩ := h
    exact ⟨by omega, by omega, nickT_le b, bodyT_le c, wordT_le d, orW_le e⟩
  rw [if_neg h3] at h
  by_cases h4 : k = 4
  · rw [if_pos h4] at h
    simp only [Bool.and_eq_true, decide_eq_true_eq] at h
    obtain ⟨a, b, c, d, e⟩ := h
    exact ⟨by omega, by omega, nickT_le c, bodyT_le d, wordT_le e, noT_le a⟩
  rw [if_neg h4] at h
  by_cases h6 : k = 6
  · rw [if_pos h6] at h
    simp only [Bool.and_eq_true] at h
    obtain ⟨a, b, c, d, e⟩ := h
    have := inI_le e
    exact ⟨by omega, by omega, noT_le a, noT_le b, noT_le c, noT_le d⟩
  rw [if_neg h6] at h
  exact absurd h (by decide)

theorem entT_small {r : ByteArray} {q k : Int} {u n t i f : ByteArray} {m : Int} (h : entT r q k u n t i f m = true) :
    (0 ≤ q ∧ q < 10000) ∧ (0 ≤ k ∧ k < 10) ∧ (0 ≤ m ∧ m < 10) ∧ r.size ≤ 100 ∧ u.size ≤ 100 ∧ n.size ≤ 100 ∧ t.size ≤ 100 ∧ i.size ≤ 100 ∧ f.size ≤ 100 := by
  unfold entT at h
  simp only [Bool.and_eq_true] at h
  obtain ⟨a, b, c, d⟩ := h
  have := inI_le c
  obtain ⟨e1, e2, e3, e4, e5, e6⟩ := bareT_small d
  exact ⟨by omega, e1, e2, userT_le a, userT_le b, e3, e4, e5, e6⟩

/-- An entry, written, or no text. -/
def eputT (r : ByteArray) (q k : Int) (u n t i f : ByteArray) (m : Int) : ByteArray :=
  if entT r q k u n t i f m = true then putT r q.toNat k.toNat u n t i f m.toNat else ⟨#[]⟩

set_option maxRecDepth 100000 in
set_option maxHeartbeats 8000000 in
theorem specEntryPut_any (r : ByteArray) (q k : Int) (u n t i f : ByteArray) (m : Int) (w : World) (hr : r.size ≤ 9223372036854775800) (hu : u.size ≤ 9223372036854775800) (hn : n.size ≤ 9223372036854775800) (ht : t.size ≤ 9223372036854775800) (hi : i.size ≤ 9223372036854775800) (hf : f.size ≤ 9223372036854775800) :
    Calls Tryd.prog 6 #[entV r q k u n t i f m] w fun e w' => e = .returned (.string (eputT r q k u n t i f m)) ∧ Below w.heap.size w w' := by
  obtain ⟨W1, hW1⟩ : ∃ W1, W1 = w.alloc (.cells #[.string r, .int .i64 q, .int .i64 k, .string u, .string n, .string t, .string i, .string f, .int .i64 m] 26) := ⟨_, rfl⟩
  have b0 : Below w.heap.size w W1 := by rw [hW1]; exact (Below.refl _ w).alloc (Nat.le_refl _) _
  have NEW := nine_new w 26 r q k u n t i f m
  rw [← hW1] at NEW
  have hO := fun W => l6EntryOk_any r q k u n t i f m W hr hu hn ht hi hf
  unfold eputT
  obtain ⟨T, hT⟩ : ∃ T, entT r q k u n t i f m = T := ⟨_, rfl⟩
  rw [hT] at hO ⊢
  cases T
  · go_enter Tryd.func6, Tryd.ntmps6
    go_wp2_with first
      | (go_at_call 12; rw [← hW1]; go_fit (hO W1); rintro e w1 ⟨rfl, b1⟩)
    go_ret
    exact ⟨rfl, b0.trans (b1.mono b0.size)⟩
  · obtain ⟨a1, a2, a3, zr, zu, zn, zt, zi, zf⟩ := entT_small hT
    obtain ⟨q', rfl⟩ := Int.eq_ofNat_of_zero_le a1.1
    obtain ⟨k', rfl⟩ := Int.eq_ofNat_of_zero_le a2.1
    obtain ⟨m', rfl⟩ := Int.eq_ofNat_of_zero_le a3.1
    have hP := fun W => l8Put_any r u n t i f q' k' m' W (by omega) (by omega) (by omega) zr zu zn zt zi zf
    clear hT
    rw [if_pos rfl]
    simp only [Int.toNat_natCast]
    go_enter Tryd.func6, Tryd.ntmps6
    go_wp2_with first
      | (go_at_call 13; go_fit (hP w1); rintro e w2 ⟨rfl, b2⟩)
      | (go_at_call 12; rw [← hW1]; go_fit (hO W1); rintro e w1 ⟨rfl, b1⟩; have nn := NEW.out w1 b1; unfold Nine at nn)
    go_ret
    exact ⟨rfl, b0.trans ((b1.trans (b2.mono b1.size)).mono b0.size)⟩
end Go.Proofs.YtmhigbomnhdeeaaDoor.Hub
