/-
  How the model writes an entry's numbers and texts: l1Dec of a number in 0..999999999, l8Field of every text.
-/
import Derived.Test.YtglbjibilllopaaDoorProg
import Derived.Laws.BytesArg
import Derived.WalkKit
import Derived.ProofKit
import Derived.OpenShut
import Derived.WalkLawsBesides
import Derived.WalkSpells
import Derived.Deep.RegionWith
import Derived.Deep.DeepFit
namespace Go.Proofs.YtglbjibilllopaaDoor.Hub
open Go.RowKit
set_option linter.unusedVariables false

/-- A number's figures; f: how many figures it may have, less one. -/
def decB : Nat → Nat → ByteArray
  | 0, n => strOfNums [48 + (n : Int)]
  | f + 1, n => if n < 10 then strOfNums [48 + (n : Int)] else decB f (n / 10) ++ strOfNums [48 + ((n % 10 : Nat) : Int)]
theorem decB_size : ∀ (f n : Nat), (decB f n).size ≤ f + 1
  | 0, n => by unfold decB; rw [strOfNums_size]; simp
  | f + 1, n => by
    unfold decB
    split
    · rw [strOfNums_size]; simp
    · rw [ByteArray.size_append, strOfNums_size]
      have := decB_size f (n / 10)
      simp; omega
theorem new_cell (w : World) (C : Array Value) (t : TypeId) (i : Nat) : (w.alloc (.cells C t)).cell? ⟨w.heap.size, i, none⟩ = C[i]? := by
  simp [go_sem]
theorem conv_dec (W : World) (blk : Nat) (a : Int) (hc : W.cell? ⟨blk, 0, none⟩ = some (.int .u8 a)) : (convert 46 9 (.slice (some ⟨blk, 0, none⟩) 1 1)).run Tryd.prog W = .ok (.string (strOfNums [a])) W :=
  run_convert_bytes_arg _ 46 5 Tryd.underlying46 Tryd.underlying5 _ _ 1 1 [a] rfl (fun i hi => by
    obtain rfl : i = 0 := by simpa using hi
    exact hc) 9 Tryd.underlying9

set_option maxRecDepth 100000 in
set_option maxHeartbeats 1000000 in
theorem l1Dec_small (n : Nat) (hn : n < 10) (w : World) :
    Calls Tryd.prog 41 #[.int .i64 n] w fun e w' => e = .returned (.string (strOfNums [48 + (n : Int)])) ∧ Below w.heap.size w w' := by
  have h0 : ¬ (n : Int) < -9223372036854775807 := by omega
  have h1 : ¬ (n : Int) < 0 := by omega
  have h2 : (n : Int) < 10 := by omega
  have e1 : IntKind.i64.wrap (48 + (n : Int)) = 48 + (n : Int) := by rw [IntKind.wrap_i64]; omega
  have cv := conv_dec (w.alloc (.cells #[.int .u8 (48 + (n : Int))] 5)) w.heap.size (48 + (n : Int)) (new_cell w _ _ 0)
  go_enter Tryd.func41, Tryd.ntmps41
  go_wp2_with fail
  go_ret
  exact ⟨rfl, (Below.refl _ w).alloc (Nat.le_refl _) _⟩

set_option maxRecDepth 100000 in
set_option maxHeartbeats 2000000 in
theorem l1Dec_step (n q r : Nat) (hn : n = q * 10 + r) (hr : r < 10) (hq : 1 ≤ q) (hb : n < 10000000000) (A : ByteArray) (hA : A.size ≤ 20)
    (ih : ∀ w : World, Calls Tryd.prog 41 #[.int .i64 (q : Int)] w fun e w' => e = .returned (.string A) ∧ Below w.heap.size w w') (w : World) :
    Calls Tryd.prog 41 #[.int .i64 (n : Int)] w fun e w' => e = .returned (.string (A ++ strOfNums [48 + (r : Int)])) ∧ Below w.heap.size w w' := by
  have IH : Hid (∀ w : World, Calls Tryd.prog 41 #[.int .i64 (q : Int)] w fun e w' => e = .returned (.string A) ∧ Below w.heap.size w w') := ih
  clear ih
  obtain ⟨x, hx⟩ : ∃ x : Int, 48 + (r : Int) = x := ⟨_, rfl⟩
  rw [hx]
  obtain ⟨E, hE⟩ : ∃ E, strOfNums [x] = E := ⟨_, rfl⟩
  have hEs : E.size = 1 := by rw [← hE, strOfNums_size]; rfl
  have conv := fun W a hc => conv_dec W a x hc
  rw [hE] at conv ⊢
  have CV : Hid (∀ (W : World) (a : Nat) (hc : W.cell? ⟨a, 0, none⟩ = some (.int .u8 x)), (convert 46 9 (.slice (some ⟨a, 0, none⟩) 1 1)).run Tryd.prog W = .ok (.string E) W) := conv
  clear conv hE
  have h00 : ¬ (n : Int) < -9223372036854775807 := by omega
  have h0 : ¬ (n : Int) < 0 := by omega
  have h1 : ¬ (n : Int) < 10 := by omega
  have hwq : IntKind.i64.wrap ((n : Int) / 10) = (q : Int) := by rw [IntKind.wrap_i64]; omega
  have hwm : (n : Int).tmod 10 = (r : Int) := by rw [Int.tmod_eq_emod_of_nonneg (by omega)]; omega
  have hwr : IntKind.i64.wrap (48 + (r : Int)) = x := by rw [IntKind.wrap_i64]; omega
  have hwu : IntKind.u8.wrap x = x := by show x % 256 = _; omega
  clear hn hr hq hb hx
  have cvA := CV.out ((w.alloc (.cells #[.int .u8 x] 5)).drew) w.heap.size (new_cell w _ _ 0)
  go_enter Tryd.func41, Tryd.ntmps41
  go_wp2_with fail
  clear h0 h1 h00
  go_region_with (go_at_call 41; go_fit (IH.out _); rintro e w1 ⟨rfl, b1⟩; first | (have cvB := CV.out w1 w.heap.size ((b1.cell (p := ⟨w.heap.size, 0, none⟩) (by simp)).trans (new_cell w _ _ 0))) | (have cvC := CV.out (w1.alloc (.cells #[.int .u8 x] 5)) w1.heap.size (new_cell w1 _ _ 0)))
  · go_wp2_with fail
    go_ret
    have b0 : Below w.heap.size w w1 := (Below.refl w.heap.size w).drew.trans b1
    exact ⟨rfl, b0.alloc b0.size _⟩
  · go_wp2_with fail
    go_ret
    exact ⟨rfl, ((Below.refl w.heap.size w).alloc (Nat.le_refl _) _).drew.trans (b1.mono (by simp))⟩
  · go_wp2_with fail
    go_ret
    exact ⟨rfl, ((Below.refl w.heap.size w).alloc (Nat.le_refl _) _).drew.trans (b1.mono (by simp))⟩

theorem l1Dec_any : ∀ (f n : Nat) (hn : n < 10 ^ (f + 1)) (hf : f ≤ 8) (w : World),
    Calls Tryd.prog 41 #[.int .i64 (n : Int)] w fun e w' => e = .returned (.string (decB f n)) ∧ Below w.heap.size w w'
  | 0, n, hn, hf, w => l1Dec_small n (by omega) w
  | f + 1, n, hn, hf, w => by
    by_cases h10 : n < 10
    · have e : decB (f + 1) n = strOfNums [48 + (n : Int)] := by unfold decB; rw [if_pos h10]
      rw [e]
      exact l1Dec_small n h10 w
    · have e : decB (f + 1) n = decB f (n / 10) ++ strOfNums [48 + ((n % 10 : Nat) : Int)] := by
        conv => lhs; unfold decB
        rw [if_neg h10]
      have hb : n < 10000000000 := by
        have h2 : (10 : Nat) ^ (f + 1 + 1) ≤ 10 ^ 10 := Nat.pow_le_pow_right (by omega) (by omega)
        omega
      rw [e]
      exact l1Dec_step n (n / 10) (n % 10) (by omega) (by omega) (by omega) hb _ (by have := decB_size f (n / 10); omega) (fun w => l1Dec_any f (n / 10) (by rw [Nat.pow_succ] at hn; omega) (by omega) w) w

/-- The first k bytes of a text, a backslash ahead of each bar and backslash. -/
def fieldPre (s : ByteArray) : Nat → ByteArray
  | 0 => ⟨#[]⟩
  | k + 1 => (if s.data[k]? = some 124 ∨ s.data[k]? = some 92 then fieldPre s k ++ ⟨#[92]⟩ else fieldPre s k) ++ s.extract k (k + 1)
def fieldT (s : ByteArray) : ByteArray := fieldPre s s.size
theorem fieldPre_size (s : ByteArray) : ∀ k, (fieldPre s k).size ≤ 2 * k
  | 0 => Nat.le_refl _
  | k + 1 => by
    have := fieldPre_size s k
    unfold fieldPre
    have h1 : (s.extract k (k + 1)).size ≤ 1 := by rw [ByteArray.size_extract]; omega
    rw [ByteArray.size_append]
    split
    · rw [ByteArray.size_append]
      have : (⟨#[92]⟩ : ByteArray).size = 1 := rfl
      omega
    · omega

set_option maxRecDepth 100000 in
set_option maxHeartbeats 2000000 in
theorem l8Field_any (s : ByteArray) (hs : s.size ≤ 1048576) (w : World) :
    Calls Tryd.prog 42 #[.string s] w fun e w' => e = .returned (.string (fieldT s)) ∧ w' = w := by
  go_enter Tryd.func42, Tryd.ntmps42
  go_wp2_with fail
  go_loop [3, 4] (fun o i => ∃ k : Nat, k ≤ s.size ∧ i = .int .i64 k ∧ o = .string (fieldPre s k)) (fun _ i => s.size - (intOf i).toNat)
  case atStart => exact ⟨0, Nat.zero_le _, rfl, rfl⟩
  case round =>
    obtain ⟨k, hk, rfl, rfl⟩ := hrel
    by_cases hlt : k < s.size
    · have hsz := fieldPre_size s k
      have hd : s.data[k]? = some s[k] := by rw [Array.getElem?_eq_getElem (by exact hlt)]; rfl
      have hP : Hid (fieldPre s (k + 1) = (if s.data[k]? = some 124 ∨ s.data[k]? = some 92 then fieldPre s k ++ ⟨#[92]⟩ else fieldPre s k) ++ s.extract k (k + 1)) := (show _ = _ from rfl)
      have hx : (s.extract k (k + 1)).size = 1 := by rw [ByteArray.size_extract]; omega
      generalize fieldPre s k = F at *
      have e1 : IntKind.i64.wrap ((k : Int) + 1) = (k : Int) + 1 := by rw [IntKind.wrap_i64]; omega
      have hb92 : (⟨#[92]⟩ : ByteArray).size = 1 := rfl
      have c124 : s.data[k]? = some 124 ↔ s[k].toNat = 124 := by
        rw [hd, Option.some.injEq]
        exact ⟨fun e => by rw [e]; rfl, fun e => UInt8.toNat_inj.1 e⟩
      have c92 : s.data[k]? = some 92 ↔ s[k].toNat = 92 := by
        rw [hd, Option.some.injEq]
        exact ⟨fun e => by rw [e]; rfl, fun e => UInt8.toNat_inj.1 e⟩
      by_cases h1 : s[k].toNat = 124
      · have g1 : ((s[k].toNat : Int) == 124) = true := by simp; omega
        have hQ : Hid (fieldPre s (k + 1) = F ++ ⟨#[92]⟩ ++ s.extract k (k + 1)) := by show _ = _; rw [hP.out, if_pos (.inl (c124.2 h1))]
        clear hP c124 c92 hd h1
        go_wp2_with fail
        exact ⟨⟨k + 1, by omega, rfl, by rw [hQ.out]⟩, by simp [intOf]; omega⟩
      · have g1 : ((s[k].toNat : Int) == 124) = false := by simp; omega
        by_cases h2 : s[k].toNat = 92
        · have g2 : ((s[k].toNat : Int) == 92) = true := by simp; omega
          have hQ : Hid (fieldPre s (k + 1) = F ++ ⟨#[92]⟩ ++ s.extract k (k + 1)) := by show _ = _; rw [hP.out, if_pos (.inr (c92.2 h2))]
          clear hP c124 c92 hd h1 h2
          go_wp2_with fail
          exact ⟨⟨k + 1, by omega, rfl, by rw [hQ.out]⟩, by simp [intOf]; omega⟩
        · have g2 : ((s[k].toNat : Int) == 92) = false := by simp; omega
          have hQ : Hid (fieldPre s (k + 1) = F ++ s.extract k (k + 1)) := by show _ = _; rw [hP.out, if_neg (by rw [c124, c92]; omega)]
          clear hP c124 c92 hd h1 h2
          go_wp2_with fail
          exact ⟨⟨k + 1, by omega, rfl, by rw [hQ.out]⟩, by simp [intOf]; omega⟩
    · obtain rfl : k = s.size := by omega
      go_wp2_with fail
      go_ret
      exact ⟨rfl, rfl⟩
end Go.Proofs.YtglbjibilllopaaDoor.Hub
