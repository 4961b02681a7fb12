/-
  The last that was said first with a user's mark: the model's l14First.
-/
import Derived.Test.YtkmagkpieihcgaaTalkS
namespace Go.Proofs.Ytkmagkpieihcgaa.Hub
open Go.RowKit
set_option linter.unusedVariables false
set_option linter.unusedSimpArgs false

def matchE (e x : EntX) : Bool := ((x.user.toList == e.user.toList) && (x.id.toList == e.ref.toList)) && (x.ref.toList == [])
def firstD (E : Nat → EntX) (e : EntX) : Nat → Int
  | 0 => -1
  | k + 1 => if matchE e (E k) then (k : Int) else firstD E e k
theorem firstD_range (E : Nat → EntX) (e : EntX) : ∀ k, -1 ≤ firstD E e k ∧ firstD E e k < k
  | 0 => ⟨by unfold firstD; omega, by unfold firstD; omega⟩
  | k + 1 => by
    have h := firstD_range E e k
    unfold firstD
    split <;> constructor <;> omega
set_option maxRecDepth 100000 in
set_option maxHeartbeats 4000000 in
theorem l14First_any (v : Value) (n : Nat) (E : Nat → EntX) (e : EntX) (hn : n ≤ 1048576) (w : World) (hm : EntsAt w v n E) :
    Calls Try.prog 19 #[v, e.val] w fun r w' => r = .returned (.int .i64 (firstD E e n)) ∧ Below w.heap.size w w' := by
  obtain ⟨o, cap, rfl, g1, g2', hc⟩ := hm
  have g2 : cap ≤ 9223372036854775807 := g2'
  clear g2'
  have HC : Hid (∀ j, j < n → ∃ b f : Nat, o = some ⟨b, f, none⟩ ∧ b < w.heap.size ∧ _) := hc
  clear hc
  obtain ⟨R, hR⟩ : ∃ R, firstD E e n = R := ⟨_, rfl⟩
  have HR : Hid (firstD E e n = R) := hR
  rw [hR]
  clear hR
  have b0 := below_alloc w (.cells #[.string e.room, .int .i64 e.seq, .int .i64 e.kind, .string e.user, .string e.nick, .string e.text, .string e.id, .string e.ref, .int .i64 e.num] 33)
  have HE : Hid (∀ W, Below (w.heap.size + 1) (w.alloc (.cells #[.string e.room, .int .i64 e.seq, .int .i64 e.kind, .string e.user, .string e.nick, .string e.text, .string e.id, .string e.ref, .int .i64 e.num] 33)) W → W.cell? ⟨w.heap.size, 3, none⟩ = some (.string e.user) ∧ W.cell? ⟨w.heap.size, 7, none⟩ = some (.string e.ref)) := fun W bb =>
    ⟨(bb.cell (p := ⟨w.heap.size, 3, none⟩) (by show w.heap.size < _; omega)).trans (line_cell w _ _ 3), (bb.cell (p := ⟨w.heap.size, 7, none⟩) (by show w.heap.size < _; omega)).trans (line_cell w _ _ 7)⟩
  go_enter Try.func19, Try.ntmps19
  go_wp2_with fail
  go_loopw [5] (fun i wr => ∃ k : Nat, k ≤ n ∧ i = .int .i64 ((k : Int) - 1) ∧ Hid (firstD E e k = R) ∧ Below (w.heap.size + 1) (w.alloc (.cells #[.string e.room, .int .i64 e.seq, .int .i64 e.kind, .string e.user, .string e.nick, .string e.text, .string e.id, .string e.ref, .int .i64 e.num] 33)) wr) (fun i _ => (intOf i + 1).toNat)
  case atStart => exact ⟨n, Nat.le_refl _, rfl, HR, Below.refl _ _⟩
  case round =>
    obtain ⟨k, hk, rfl, HA, bw⟩ := hrel
    have bw0 : Below w.heap.size w wr := b0.trans (bw.mono (by omega))
    rcases Nat.eq_zero_or_pos k with rfl | hpos
    · have hR : R = -1 := by rw [← HA.out]; rfl
      subst hR
      have h1 : ¬ (0 : Int) ≤ ((0 : Nat) : Int) - 1 := by omega
      go_wp2_with fail
      go_ret
      exact ⟨rfl, bw0⟩
    · obtain ⟨m, rfl⟩ : ∃ m, k = m + 1 := ⟨k - 1, by omega⟩
      have e1 : ((m + 1 : Nat) : Int) - 1 = (m : Int) := by omega
      rw [e1]
      clear e1
      have HS := HA.out
      unfold firstD at HS
      obtain ⟨b, f, ho, hb, c0, c1, c2, c3, c4, c5, c6, c7, c8⟩ := HC.out m (by omega)
      subst ho
      have i1 : (0 : Int) ≤ (m : Int) := by omega
      have i2 : (m : Int) < (n : Int) := by omega
      obtain ⟨x, hx⟩ : ∃ x, E m = x := ⟨_, rfl⟩
      rw [hx] at c3 c6 c7 HS
      have d3 := (bw0.cell (p := ⟨b, f + m * 9 + 3, none⟩) hb).trans c3
      have d6 := (bw0.cell (p := ⟨b, f + m * 9 + 6, none⟩) hb).trans c6
      have d7 := (bw0.cell (p := ⟨b, f + m * 9 + 7, none⟩) hb).trans c7
      obtain ⟨x3, x7⟩ := HE.out wr bw
      have HH : Hid (_ = R) := HS
      have bd := bw.drew
      clear c0 c1 c2 c3 c4 c5 c6 c7 c8 hx HA HS
      cases q0 : (x.user.toList == e.user.toList)
      · have hF : matchE e x = false := by unfold matchE; rw [q0]; rfl
        have HT : Hid (firstD E e m = R) := (by rw [← HH.out, hF]; rfl : firstD E e m = R)
        clear hF HH
        go_wp2_with fail
        go_region
        go_wp2_with fail
        exact ⟨⟨m, by omega, rfl, HT, bd⟩, by simp [intOf]⟩
      · cases q1 : (x.id.toList == e.ref.toList)
        · have hF : matchE e x = false := by unfold matchE; rw [q0, q1]; rfl
          have HT : Hid (firstD E e m = R) := (by rw [← HH.out, hF]; rfl : firstD E e m = R)
          clear hF HH
          go_wp2_with fail
          go_region
          go_wp2_with fail
          exact ⟨⟨m, by omega, rfl, HT, bd⟩, by simp [intOf]⟩
        · cases q2 : (x.ref.toList == [])
          · have hF : matchE e x = false := by unfold matchE; rw [q0, q1, q2]; rfl
            have HT : Hid (firstD E e m = R) := (by rw [← HH.out, hF]; rfl : firstD E e m = R)
            clear hF HH
            go_wp2_with fail
            go_region
            go_wp2_with fail
            exact ⟨⟨m, by omega, rfl, HT, bd⟩, by simp [intOf]⟩
          · have hF : matchE e x = true := by unfold matchE; rw [q0, q1, q2]; rfl
            have hT : (m : Int) = R := by rw [← HH.out, hF]; rfl
            subst hT
            clear hF HH
            go_wp2_with fail
            go_region
            go_wp2_with fail
            go_ret
            exact ⟨rfl, bw0.drew⟩
end Go.Proofs.Ytkmagkpieihcgaa.Hub
