/-
  internal/strconv.ParseUint, strconv.ParseUint and the program's figuresSign at one to seven bytes, base 10 or 16, 31 bits: the number that the figures are, or -1.
-/
import Derived.Test.YtbcledidadjddaaDoorShelfB
import Derived.Lib.Strings
import Derived.Lib.Walk
import Derived.Lib.ConvBytes
import Derived.Lib.AtoiAllMem
import Derived.Lib.Hide
import Derived.Lib.SmallJoins
import Derived.Laws.Strings3
import Derived.Laws.Closers25
import Derived.Laws.Closers25b
import Derived.WalkKit
import Derived.BigCall
import Derived.BigGuard
import Derived.WalkLawsBesides
import Derived.WalkSpells
namespace Go.Proofs.YtbcledidadjddaaDoor.Hub
open Go.RowKit Go.Shelf Go.Proofs
set_option linter.unusedVariables false

/-- What a byte is as a figure, letters large or small; 99, if it is none. -/
def digV (c : Nat) : Nat := if 48 ≤ c ∧ c ≤ 57 then c - 48 else if 97 ≤ c ∧ c ≤ 122 then c - 87 else if 65 ≤ c ∧ c ≤ 90 then c - 55 else 99
/-- The number that figures of a base are. -/
def parseB (b : Nat) : Nat → List UInt8 → Option Nat
  | acc, [] => some acc
  | acc, c :: l => if digV c.toNat < b then parseB b (acc * b + digV c.toNat) l else none
theorem parseB_yes {b acc : Nat} {c : UInt8} {l : List UInt8} (h : digV c.toNat < b) : parseB b acc (c :: l) = parseB b (acc * b + digV c.toNat) l := by simp [parseB, h]
theorem parseB_no {b acc : Nat} {c : UInt8} {l : List UInt8} (h : ¬ digV c.toNat < b) : parseB b acc (c :: l) = none := by simp [parseB, h]
theorem lower_or : ∀ c : Fin 256, bits .or .u8 (c.val : Int) 32 = (((if 65 ≤ c.val ∧ c.val ≤ 90 then c.val + 32 else if 97 ≤ c.val ∧ c.val ≤ 122 then c.val else c.val ||| 32) : Nat) : Int) ∧ (¬ (65 ≤ c.val ∧ c.val ≤ 90) → ¬ (97 ≤ c.val ∧ c.val ≤ 122) → ¬ (97 ≤ (c.val ||| 32) ∧ (c.val ||| 32) ≤ 122)) := by decide +kernel
/-- What ParseUint hands back: the number, or nothing and a syntax error. -/
def uintT (r : Option Nat) : Value := match r with
  | some n => .tuple #[.int .u64 n, .nilIface]
  | none => .tuple #[.int .u64 0, .iface 116 (.int .i64 2)]
theorem pow_le (k : Nat) (h : k < 7) : 16 ^ k ≤ 16777216 := by
  have : 16 ^ k ≤ 16 ^ 6 := Nat.pow_le_pow_right (by decide) (by omega)
  exact this

set_option maxHeartbeats 32000000 in
set_option maxRecDepth 100000 in
theorem parse_10 (t : ByteArray) (hne : t.size ≠ 0) (hmax : t.size ≤ 7) (w : World) :
    Calls Tryd.prog 110 #[.string t, .int .i64 10, .int .i64 31] w fun e w' => e = .returned (uintT (parseB 10 0 t.data.toList)) ∧ Below w.heap.size w w' := by
  have hemp : t.toList.isEmpty = false := by
    rw [← decide_eq_emptyBytes]
    exact decide_eq_false (fun h => hne (by rw [h]; rfl))
  have hcv := Lib.run_convert_string_bytes (P := Tryd.prog) w 9 34 5 t (u := .string) Tryd.underlying9 Tryd.underlying34 Tryd.underlying5
  have hB : ∀ j, j < t.size → (Lib.bytesWorld w 5 t).cell? ⟨w.heap.size, j, none⟩ = some (.int .u8 (t.data.toList.getD j 0).toNat) := fun j hj => Lib.bytesWorld_cell w 5 t j hj
  have hbel : Below w.heap.size w (Lib.bytesWorld w 5 t) := Joins.below_bytesWorld _ w _ t (Nat.le_refl _)
  generalize Lib.bytesWorld w 5 t = W1 at hcv hB hbel
  obtain ⟨bs, hL⟩ : ∃ bs, bs = t.data.toList := ⟨_, rfl⟩
  have hLn : bs.length = t.size := by rw [hL, Lib.size_eq]
  rw [← hL] at hB ⊢
  clear hL
  obtain ⟨RES, hRES⟩ : ∃ RES, parseB 10 0 bs = RES := ⟨_, rfl⟩
  rw [hRES]
  go_enter Tryd.func110, Tryd.ntmps110
  go_wp2_with fail
  go_loop [12, 13, 101] (fun vu vn vi => ∃ (k acc : Nat) (a : Int), vu = .bool false ∧ vn = .int .u64 a ∧ vi = .int .i64 k ∧ k ≤ t.size ∧ Hid (a = (acc : Int) ∧ acc < 16 ^ k ∧ parseB 10 acc (bs.drop k) = RES))
    (fun _ _ vi => t.size - (intOf vi).toNat)
  case atStart => exact ⟨0, 0, 0, rfl, rfl, rfl, by omega, rfl, by decide, hRES⟩
  case round =>
    obtain ⟨k, acc, a, rfl, rfl, rfl, hk, hh⟩ := hrel
    obtain ⟨ha, hacc, hdec⟩ := hh.out
    clear hh hRES
    by_cases hkn : k < t.size
    · have hpw := pow_le k (by omega)
      have a0 : 0 ≤ a := by omega
      have a1 : a < 16777216 := by omega
      have hpow : 16 ^ (k + 1) = 16 ^ k * 16 := Nat.pow_succ ..
      have hc := hB k hkn
      have hdrop : bs.drop k = bs[k]'(by omega) :: bs.drop (k + 1) := List.drop_eq_getElem_cons (by omega)
      have hget : bs.getD k 0 = bs[k]'(by omega) := by simp [List.getD, List.getElem?_eq_getElem (show k < bs.length by omega)]
      rw [hdrop] at hdec
      rw [hget] at hc
      generalize bs[k]'(by omega) = c at hc hdec
      have hc256 : c.toNat < 256 := c.toNat_lt
      have hlow := lower_or ⟨c.toNat, hc256⟩
      simp only at hlow
      clear hB hdrop hget
      have next : ∀ (d : Nat), digV c.toNat = d → d < 10 → Hid (a * 10 + (d : Int) = ((acc * 10 + d : Nat) : Int) ∧ acc * 10 + d < 16 ^ (k + 1) ∧ parseB 10 (acc * 10 + d) (bs.drop (k + 1)) = RES) := fun d hd hlt => Lib.hid ⟨by omega, by omega, by rw [← hdec, parseB_yes (by rw [hd]; exact hlt), hd]⟩
      have fails : ¬ digV c.toNat < 10 → Hid (RES = none) := fun h => Lib.hid (by rw [← hdec, parseB_no h])
      clear hdec hacc hpow hpw ha
      rcases (by omega : (48 ≤ c.toNat ∧ c.toNat ≤ 57) ∨ (97 ≤ c.toNat ∧ c.toNat ≤ 122) ∨ (65 ≤ c.toNat ∧ c.toNat ≤ 90) ∨ (¬ (48 ≤ c.toNat ∧ c.toNat ≤ 57) ∧ ¬ (97 ≤ c.toNat ∧ c.toNat ≤ 122) ∧ ¬ (65 ≤ c.toNat ∧ c.toNat ≤ 90))) with hd | hd | hd | hd
      · have hdv : digV c.toNat = c.toNat - 48 := by unfold digV; rw [if_pos hd]
        have HN := next _ hdv (by omega)
        have hcast : ((c.toNat - 48 : Nat) : Int) = (c.toNat : Int) - 48 := by omega
        have HC : Hid (((c.toNat - 48 : Nat) : Int) = (c.toNat : Int) - 48) := hcast
        clear next fails hlow hcast hdv
        obtain ⟨hd0, hd1⟩ := hd
        go_wp2_with fail
        go_round
        case rel => exact ⟨k + 1, acc * 10 + (c.toNat - 48), a * 10 + ((c.toNat : Int) - 48), rfl, (by first | rfl | go_num), (by go_num), by omega, by rw [← HC.out]; exact HN⟩
        case measure => simp [intOf]; omega
      · have hlw : bits .or .u8 (c.toNat : Int) 32 = ((c.toNat : Nat) : Int) := by
          have := hlow.1
          rw [if_neg (by omega), if_pos hd] at this
          exact this
        have hdv : digV c.toNat = c.toNat - 87 := by unfold digV; rw [if_neg (by omega), if_pos hd]
        clear hlow
        obtain ⟨hd0, hd1⟩ := hd
        have HF := fails (by rw [hdv]; omega)
        clear next fails hdv
        go_wp2_with (go_at_call 112; refine (Tryd.internal_strconv_lower _ _).mono ?_; rintro e w' ⟨rfl, rfl⟩)
        go_ret2
        exact ⟨by rw [HF.out]; rfl, hbel⟩
      · have hlw : bits .or .u8 (c.toNat : Int) 32 = ((c.toNat + 32 : Nat) : Int) := by
          have := hlow.1
          rw [if_pos hd] at this
          exact this
        have hdv : digV c.toNat = c.toNat - 55 := by unfold digV; rw [if_neg (by omega), if_neg (by omega), if_pos hd]
        clear hlow
        obtain ⟨hd0, hd1⟩ := hd
        have HF := fails (by rw [hdv]; omega)
        clear next fails hdv
        go_wp2_with (go_at_call 112; refine (Tryd.internal_strconv_lower _ _).mono ?_; rintro e w' ⟨rfl, rfl⟩)
        go_ret2
        exact ⟨by rw [HF.out]; rfl, hbel⟩
      · obtain ⟨g1, g2, g3⟩ := hd
        have HF := fails (by unfold digV; rw [if_neg g1, if_neg g2, if_neg g3]; decide)
        obtain ⟨lw, hlw⟩ : ∃ lw : Nat, c.toNat ||| 32 = lw := ⟨_, rfl⟩
        rw [if_neg g3, if_neg g2, hlw] at hlow
        obtain ⟨hl1, hl2⟩ := hlow
        have hl3 := hl2 g3 g2
        clear next fails hl2 hlw
        rcases (by omega : c.toNat < 48 ∨ 57 < c.toNat) with q | q
        all_goals
          rcases (by omega : lw < 97 ∨ 122 < lw) with r | r
        all_goals
          go_wp2_with (go_at_call 112; refine (Tryd.internal_strconv_lower _ _).mono ?_; rintro e w' ⟨rfl, rfl⟩)
        all_goals
          go_ret2
          exact ⟨by rw [HF.out]; rfl, hbel⟩
    · have hkk : k = t.size := by omega
      have hF : Hid (RES = some acc) := Lib.hid (by
        rw [← hdec, List.drop_eq_nil_of_le (by omega)]; rfl)
      subst ha
      clear hdec hB hacc
      go_wp2_with fail
      go_ret2
      exact ⟨by rw [hF.out]; rfl, hbel⟩

set_option maxHeartbeats 32000000 in
set_option maxRecDepth 100000 in
theorem parse_16 (t : ByteArray) (hne : t.size ≠ 0) (hmax : t.size ≤ 7) (w : World) :
    Calls Tryd.prog 110 #[.string t, .int .i64 16, .int .i64 31] w fun e w' => e = .returned (uintT (parseB 16 0 t.data.toList)) ∧ Below w.heap.size w w' := by
  have hemp : t.toList.isEmpty = false := by
    rw [← decide_eq_emptyBytes]
    exact decide_eq_false (fun h => hne (by rw [h]; rfl))
  have hcv := Lib.run_convert_string_bytes (P := Tryd.prog) w 9 34 5 t (u := .string) Tryd.underlying9 Tryd.underlying34 Tryd.underlying5
  have hB : ∀ j, j < t.size → (Lib.bytesWorld w 5 t).cell? ⟨w.heap.size, j, none⟩ = some (.int .u8 (t.data.toList.getD j 0).toNat) := fun j hj => Lib.bytesWorld_cell w 5 t j hj
  have hbel : Below w.heap.size w (Lib.bytesWorld w 5 t) := Joins.below_bytesWorld _ w _ t (Nat.le_refl _)
  generalize Lib.bytesWorld w 5 t = W1 at hcv hB hbel
  obtain ⟨bs, hL⟩ : ∃ bs, bs = t.data.toList := ⟨_, rfl⟩
  have hLn : bs.length = t.size := by rw [hL, Lib.size_eq]
  rw [← hL] at hB ⊢
  clear hL
  obtain ⟨RES, hRES⟩ : ∃ RES, parseB 16 0 bs = RES := ⟨_, rfl⟩
  rw [hRES]
  go_enter Tryd.func110, Tryd.ntmps110
  go_wp2_with fail
  go_loop [12, 13, 101] (fun vu vn vi => ∃ (k acc : Nat) (a : Int), vu = .bool false ∧ vn = .int .u64 a ∧ vi = .int .i64 k ∧ k ≤ t.size ∧ Hid (a = (acc : Int) ∧ acc < 16 ^ k ∧ parseB 16 acc (bs.drop k) = RES))
    (fun _ _ vi => t.size - (intOf vi).toNat)
  case atStart => exact ⟨0, 0, 0, rfl, rfl, rfl, by omega, rfl, by decide, hRES⟩
  case round =>
    obtain ⟨k, acc, a, rfl, rfl, rfl, hk, hh⟩ := hrel
    obtain ⟨ha, hacc, hdec⟩ := hh.out
    clear hh hRES
    by_cases hkn : k < t.size
    · have hpw := pow_le k (by omega)
      have a0 : 0 ≤ a := by omega
      have a1 : a < 16777216 := by omega
      have hpow : 16 ^ (k + 1) = 16 ^ k * 16 := Nat.pow_succ ..
      have hc := hB k hkn
      have hdrop : bs.drop k = bs[k]'(by omega) :: bs.drop (k + 1) := List.drop_eq_getElem_cons (by omega)
      have hget : bs.getD k 0 = bs[k]'(by omega) := by simp [List.getD, List.getElem?_eq_getElem (show k < bs.length by omega)]
      rw [hdrop] at hdec
      rw [hget] at hc
      generalize bs[k]'(by omega) = c at hc hdec
      have hc256 : c.toNat < 256 := c.toNat_lt
      have hlow := lower_or ⟨c.toNat, hc256⟩
      simp only at hlow
      clear hB hdrop hget
      have next : ∀ (d : Nat), digV c.toNat = d → d < 16 → Hid (a * 16 + (d : Int) = ((acc * 16 + d : Nat) : Int) ∧ acc * 16 + d < 16 ^ (k + 1) ∧ parseB 16 (acc * 16 + d) (bs.drop (k + 1)) = RES) := fun d hd hlt => Lib.hid ⟨by omega, by omega, by rw [← hdec, parseB_yes (by rw [hd]; exact hlt), hd]⟩
      have fails : ¬ digV c.toNat < 16 → Hid (RES = none) := fun h => Lib.hid (by rw [← hdec, parseB_no h])
      clear hdec hacc hpow hpw ha
      rcases (by omega : (48 ≤ c.toNat ∧ c.toNat ≤ 57) ∨ (97 ≤ c.toNat ∧ c.toNat ≤ 122) ∨ (65 ≤ c.toNat ∧ c.toNat ≤ 90) ∨ (¬ (48 ≤ c.toNat ∧ c.toNat ≤ 57) ∧ ¬ (97 ≤ c.toNat ∧ c.toNat ≤ 122) ∧ ¬ (65 ≤ c.toNat ∧ c.toNat ≤ 90))) with hd | hd | hd | hd
      · have hdv : digV c.toNat = c.toNat - 48 := by unfold digV; rw [if_pos hd]
        have HN := next _ hdv (by omega)
        have hcast : ((c.toNat - 48 : Nat) : Int) = (c.toNat : Int) - 48 := by omega
        have HC : Hid (((c.toNat - 48 : Nat) : Int) = (c.toNat : Int) - 48) := hcast
        clear next fails hlow hcast hdv
        obtain ⟨hd0, hd1⟩ := hd
        go_wp2_with fail
        go_round
        case rel => exact ⟨k + 1, acc * 16 + (c.toNat - 48), a * 16 + ((c.toNat : Int) - 48), rfl, (by first | rfl | go_num), (by go_num), by omega, by rw [← HC.out]; exact HN⟩
        case measure => simp [intOf]; omega
      · have hlw : bits .or .u8 (c.toNat : Int) 32 = ((c.toNat : Nat) : Int) := by
          have := hlow.1
          rw [if_neg (by omega), if_pos hd] at this
          exact this
        have hdv : digV c.toNat = c.toNat - 87 := by unfold digV; rw [if_neg (by omega), if_pos hd]
        clear hlow
        obtain ⟨hd0, hd1⟩ := hd
        by_cases hlt : c.toNat - 87 < 16
        · have HN := next _ hdv hlt
          have HC : Hid (((c.toNat - 87 : Nat) : Int) = (c.toNat : Int) - 87) := (by omega : ((c.toNat - 87 : Nat) : Int) = (c.toNat : Int) - 87)
          have hlti : (c.toNat : Int) < 103 := by omega
          clear next fails hdv hlt
          go_wp2_with (go_at_call 112; refine (Tryd.internal_strconv_lower _ _).mono ?_; rintro e w' ⟨rfl, rfl⟩)
          go_round
          case rel => exact ⟨k + 1, acc * 16 + (c.toNat - 87), a * 16 + ((c.toNat : Int) - 87), rfl, (by first | rfl | go_num), (by go_num), by omega, by rw [← HC.out]; exact HN⟩
          case measure => simp [intOf]; omega
        · have HF := fails (by rw [hdv]; exact hlt)
          have hlti : 103 ≤ (c.toNat : Int) := by omega
          clear next fails hdv hlt
          go_wp2_with (go_at_call 112; refine (Tryd.internal_strconv_lower _ _).mono ?_; rintro e w' ⟨rfl, rfl⟩)
          go_ret2
          exact ⟨by rw [HF.out]; rfl, hbel⟩
      · have hlw : bits .or .u8 (c.toNat : Int) 32 = ((c.toNat + 32 : Nat) : Int) := by
          have := hlow.1
          rw [if_pos hd] at this
          exact this
        have hdv : digV c.toNat = c.toNat - 55 := by unfold digV; rw [if_neg (by omega), if_neg (by omega), if_pos hd]
        clear hlow
        obtain ⟨hd0, hd1⟩ := hd
        by_cases hlt : c.toNat - 55 < 16
        · have HN := next _ hdv hlt
          have HC : Hid (((c.toNat - 55 : Nat) : Int) = (c.toNat : Int) - 55) := (by omega : ((c.toNat - 55 : Nat) : Int) = (c.toNat : Int) - 55)
          have hlti : (c.toNat : Int) < 71 := by omega
          clear next fails hdv hlt
          go_wp2_with (go_at_call 112; refine (Tryd.internal_strconv_lower _ _).mono ?_; rintro e w' ⟨rfl, rfl⟩)
          go_round
          case rel => exact ⟨k + 1, acc * 16 + (c.toNat - 55), a * 16 + ((c.toNat : Int) - 55), rfl, (by first | rfl | go_num), (by go_num), by omega, by rw [← HC.out]; exact HN⟩
          case measure => simp [intOf]; omega
        · have HF := fails (by rw [hdv]; exact hlt)
          have hlti : 71 ≤ (c.toNat : Int) := by omega
          clear next fails hdv hlt
          go_wp2_with (go_at_call 112; refine (Tryd.internal_strconv_lower _ _).mono ?_; rintro e w' ⟨rfl, rfl⟩)
          go_ret2
          exact ⟨by rw [HF.out]; rfl, hbel⟩
      · obtain ⟨g1, g2, g3⟩ := hd
        have HF := fails (by unfold digV; rw [if_neg g1, if_neg g2, if_neg g3]; decide)
        obtain ⟨lw, hlw⟩ : ∃ lw : Nat, c.toNat ||| 32 = lw := ⟨_, rfl⟩
        rw [if_neg g3, if_neg g2, hlw] at hlow
        obtain ⟨hl1, hl2⟩ := hlow
        have hl3 := hl2 g3 g2
        clear next fails hl2 hlw
        rcases (by omega : c.toNat < 48 ∨ 57 < c.toNat) with q | q
        all_goals
          rcases (by omega : lw < 97 ∨ 122 < lw) with r | r
        all_goals
          go_wp2_with (go_at_call 112; refine (Tryd.internal_strconv_lower _ _).mono ?_; rintro e w' ⟨rfl, rfl⟩)
        all_goals
          go_ret2
          exact ⟨by rw [HF.out]; rfl, hbel⟩
    · have hkk : k = t.size := by omega
      have hF : Hid (RES = some acc) := Lib.hid (by
        rw [← hdec, List.drop_eq_nil_of_le (by omega)]; rfl)
      subst ha
      clear hdec hB hacc
      go_wp2_with fail
      go_ret2
      exact ⟨by rw [hF.out]; rfl, hbel⟩
end Go.Proofs.YtbcledidadjddaaDoor.Hub
