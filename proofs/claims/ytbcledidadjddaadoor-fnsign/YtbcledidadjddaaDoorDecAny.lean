/-
  What laws.hbDec writes: a number's figures: of every number from 0 to 999999999.
-/
import Derived.Test.YtbcledidadjddaaDoorDrawC
import Derived.Deep.RegionWith
import Derived.Deep.DeepFit
namespace Go.Proofs.YtbcledidadjddaaDoor.Hub
open Go.RowKit
set_option linter.unusedVariables false

/-- One byte in a slice of its own, as a text. -/
theorem conv_one (W : World) (a x : Nat) (hx : x < 256) (hc : W.cell? ⟨a, 0, none⟩ = some (.int .u8 (x : Int))) :
    (convert 34 9 (.slice (some ⟨a, 0, none⟩) 1 1)).run Tryd.prog W = .ok (.string (ofL [UInt8.ofNat x])) W :=
  run_convert_bytes_back (P := Tryd.prog) W 34 9 5 ⟨a, 0, none⟩ 1 [UInt8.ofNat x] Tryd.underlying34 Tryd.underlying5 Tryd.underlying9 (fun j hj => by
    obtain rfl : j = 0 := by simp at hj; omega
    have e1 : ((UInt8.ofNat x).toNat : Int) = (x : Int) := by rw [UInt8.toNat_ofNat']; omega
    show W.cell? _ = some (.int .u8 ((UInt8.ofNat x).toNat : Int))
    rw [e1, Addr.add_lit]
    exact hc)

set_option maxRecDepth 100000 in
set_option maxHeartbeats 600000 in
/-- A number of two figures or more: what its figures but the last are is told. -/
theorem dec_step (n q r : Nat) (hn : n = q * 10 + r) (hr : r < 10) (hq : 1 ≤ q) (hb : n < 10000000000) (A : ByteArray) (hA : A.size ≤ 20)
    (ih : ∀ w : World, Calls Tryd.prog 21 #[.int .i64 (q : Int)] w fun e w' => e = .returned (.string A) ∧ Below w.heap.size w w') (w : World) :
    Calls Tryd.prog 21 #[.int .i64 (n : Int)] w fun e w' => e = .returned (.string (A ++ ofL [UInt8.ofNat (48 + r)])) ∧ Below w.heap.size w w' := by
  have IH : Hid (∀ w : World, Calls Tryd.prog 21 #[.int .i64 (q : Int)] w fun e w' => e = .returned (.string A) ∧ Below w.heap.size w w') := ih
  clear ih
  obtain ⟨x, hx⟩ : ∃ x, 48 + r = x := ⟨_, rfl⟩
  rw [hx]
  obtain ⟨E, hE⟩ : ∃ E, ofL [UInt8.ofNat x] = E := ⟨_, rfl⟩
  have hEs : E.size = 1 := by rw [← hE]; rfl
  have conv := fun W a hc => conv_one W a x (by omega) hc
  rw [hE] at conv ⊢
  have CV : Hid (∀ (W : World) (a : Nat) (hc : W.cell? ⟨a, 0, none⟩ = some (.int .u8 (x : Int))), (convert 34 9 (.slice (some ⟨a, 0, none⟩) 1 1)).run Tryd.prog W = .ok (.string E) W) := conv
  clear conv hE
  have h0 : ¬ (n : Int) < 0 := by omega
  have h1 : ¬ (n : Int) < 10 := by omega
  have hwq : IntKind.i64.wrap ((n : Int) / 10) = (q : Int) := by rw [IntKind.wrap_i64]; omega
  have hwm : (n : Int).tmod 10 = (r : Int) := by rw [Int.tmod_eq_emod_of_nonneg (by omega)]; omega
  have hwr : IntKind.i64.wrap (48 + (r : Int)) = (x : Int) := by rw [IntKind.wrap_i64]; omega
  have hwu : IntKind.u8.wrap (x : Int) = (x : Int) := by show (x : Int) % 256 = _; omega
  clear hn hr hq hb hx
  have cvA := CV.out ((w.alloc (.cells #[.int .u8 (x : Int)] 5)).drew) w.heap.size (Boxed.new w 5 (.int .u8 (x : Int))).cell
  go_enter Tryd.func21, Tryd.ntmps21
  go_wp2_with fail
  clear h0 h1
  go_region_with (go_at_call 21; go_fit (IH.out _); rintro e w1 ⟨rfl, b1⟩; first | (have cvB := CV.out w1 w.heap.size ((b1.cell (p := ⟨w.heap.size, 0, none⟩) (by simp)).trans (Boxed.new w 5 (.int .u8 (x : Int))).cell)) | (have cvC := CV.out (w1.alloc (.cells #[.int .u8 (x : Int)] 5)) w1.heap.size (Boxed.new w1 5 (.int .u8 (x : Int))).cell))
  · go_wp2_with fail
    go_ret
    have b0 : Below w.heap.size w w1 := (Below.refl w.heap.size w).drew.trans b1
    exact ⟨rfl, b0.alloc b0.size _⟩
  · go_wp2_with fail
    go_ret
    exact ⟨rfl, ((Below.refl w.heap.size w).alloc (Nat.le_refl _) _).drew.trans (b1.mono (by simp))⟩
  · go_wp2_with fail
    go_ret
    exact ⟨rfl, ((Below.refl w.heap.size w).alloc (Nat.le_refl _) _).drew.trans (b1.mono (by simp))⟩

theorem dec_any : ∀ (f n : Nat) (hn : n < 10 ^ (f + 1)) (hf : f ≤ 8) (w : World),
    Calls Tryd.prog 21 #[.int .i64 (n : Int)] w fun e w' => e = .returned (.string (ofL (decL f n))) ∧ Below w.heap.size w w'
  | 0, n, hn, hf, w => dec_small n (by omega) w
  | f + 1, n, hn, hf, w => by
    by_cases h10 : n < 10
    · have e : decL (f + 1) n = [UInt8.ofNat (48 + n)] := by unfold decL; rw [if_pos h10]
      rw [e]
      exact dec_small n h10 w
    · have e : ofL (decL (f + 1) n) = ofL (decL f (n / 10)) ++ ofL [UInt8.ofNat (48 + n % 10)] := by
        rw [← ofL_append]
        congr 1
        conv => lhs; unfold decL
        rw [if_neg h10]
      have hb : n < 10000000000 := by
        have h2 : (10 : Nat) ^ (f + 1 + 1) ≤ 10 ^ 10 := Nat.pow_le_pow_right (by omega) (by omega)
        omega
      rw [e]
      refine dec_step n (n / 10) (n % 10) (by omega) (by omega) (by omega) hb _ ?_ (fun w1 => dec_any f (n / 10) (by rw [Nat.pow_succ] at hn; omega) (by omega) w1) w
      rw [ofL_size]
      have := decL_len f (n / 10)
      omega
set_option maxHeartbeats 600000 in
/-- A number below 0: a dash, and the figures of what it lacks to 0. -/
theorem dec_neg (n : Nat) (hn : 1 ≤ n) (hb : n < 10) (w : World) :
    Calls Tryd.prog 21 #[.int .i64 (-(n : Int))] w fun e w' => e = .returned (.string (⟨#[45]⟩ ++ ofL [UInt8.ofNat (48 + n)])) ∧ Below w.heap.size w w' := by
  have ih := fun w => dec_small n hb w
  obtain ⟨E, hE⟩ : ∃ E, ofL [UInt8.ofNat (48 + n)] = E := ⟨_, rfl⟩
  have hEs : E.size = 1 := by rw [← hE]; rfl
  rw [hE] at ih ⊢
  clear hE
  have h0 : -(n : Int) < 0 := by omega
  go_enter Tryd.func21, Tryd.ntmps21
  go_wp2_with (go_at_call 21; go_fit (ih _); rintro e w1 ⟨rfl, b1⟩)
  go_ret
  exact ⟨rfl, b1⟩
end Go.Proofs.YtbcledidadjddaaDoor.Hub
