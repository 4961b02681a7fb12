/-
  The law's own markText, markStringS, heldStringS, markLine, heldLine: what is marked is held, and nothing else is written.
-/
import Derived.Test.YtkmagkpieihcgaaLineBase
import Derived.Laws.BytesArg
namespace Go.Proofs.Ytkmagkpieihcgaa.Hub
open Go.RowKit
set_option linter.unusedVariables false

/-- The figures of k ahead of a text. -/
def digF : Nat → Nat → ByteArray → ByteArray
  | 0, _, out => out
  | f + 1, k, out => if k = 0 then out else digF f (k / 10) (strOfNums [48 + (k : Int) % 10] ++ out)
/-- A mark. -/
def markT (k : Nat) : ByteArray := if k = 0 then ⟨#[109, 48]⟩ else ⟨#[109]⟩ ++ digF k k ⟨#[]⟩
theorem strOfNums_one (a : Int) : (strOfNums [a]).size = 1 := by simp [strOfNums, ByteArray.size]

theorem conv_mark (w : World) (a : Int) : (convert 45 9 (.slice (some ⟨w.heap.size, 0, none⟩) 1 1)).run Try.prog (w.alloc (.cells #[.int .u8 a] 5)) = .ok (.string (strOfNums [a])) (w.alloc (.cells #[.int .u8 a] 5)) :=
  run_convert_bytes_arg _ 45 5 Try.underlying45 Try.underlying5 _ _ 1 1 [a] rfl (fun i hi => by
    rw [line_cell]; obtain rfl : i = 0 := by simpa using hi
    rfl) 9 Try.underlying9

set_option maxRecDepth 100000 in
set_option maxHeartbeats 2000000 in
theorem markText_any (k : Nat) (hk : k ≤ 40000000) (w : World) :
    Calls Try.prog 17 #[.int .i64 k] w fun e w' => e = .returned (.string (markT k)) ∧ Below w.heap.size w w' := by
  unfold markT
  by_cases h0 : k = 0
  · subst h0
    rw [if_pos rfl]
    go_enter Try.func17, Try.ntmps17
    go_wp2_with fail
    go_ret
    exact ⟨rfl, Below.refl _ _⟩
  · have h1 : ¬ (k : Int) ≤ 0 := by omega
    rw [if_neg h0]
    obtain ⟨R, hR⟩ : ∃ R, digF k k ⟨#[]⟩ = R := ⟨_, rfl⟩
    rw [hR]
    have HR : Hid (digF k k ⟨#[]⟩ = R) := hR
    clear hR
    have hcv := conv_mark
    go_enter Try.func17, Try.ntmps17
    go_wp2_with fail
    go_loopw [0, 3] (fun i s wr => ∃ (f m : Nat) (out : ByteArray), i = .int .i64 m ∧ s = .string out ∧ m ≤ f ∧ out.size + m ≤ 40000000 ∧ Hid (digF f m out = R) ∧ Below w.heap.size w wr) (fun i _ _ => (intOf i).toNat)
    case atStart => exact ⟨k, k, ⟨#[]⟩, rfl, rfl, Nat.le_refl _, by show 0 + k ≤ _; omega, HR, Below.refl _ _⟩
    case round =>
      obtain ⟨f, m, out, rfl, rfl, hmf, hsz, HA, bw⟩ := hrel
      by_cases hm : m = 0
      · subst hm
        have hRR : out = R := by rw [← HA.out]; cases f <;> rfl
        subst hRR
        clear HA HR hcv
        go_wp2_with fail
        go_ret
        exact ⟨rfl, bw⟩
      · have hm1 : (0 : Int) < (m : Int) := by omega
        obtain ⟨f', rfl⟩ : ∃ f', f = f' + 1 := ⟨f - 1, by omega⟩
        have HB : Hid (digF f' (m / 10) (strOfNums [48 + (m : Int) % 10] ++ out) = R) := by
          have := HA.out
          rw [digF, if_neg hm] at this
          exact this
        have hq : m / 10 < m := Nat.div_lt_self (by omega) (by omega)
        have hr : m % 10 < 10 := Nat.mod_lt _ (by omega)
        have s1 := strOfNums_one (48 + (m : Int) % 10)
        clear HA HR
        go_wp2_with fail
        refine ⟨⟨f', m / 10, _, rfl, rfl, by omega, ?_, HB, bw.alloc bw.size _⟩, by simp [intOf]; omega⟩
        rw [ByteArray.size_append]
        omega

end Go.Proofs.Ytkmagkpieihcgaa.Hub
