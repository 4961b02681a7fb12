/-
  For every text the law FnExactNameOk returns true: impl.NameOk answers as spec.NameOk. No condition: the law itself passes texts of more than 1048576 bytes by.
-/
import Derived.Test.YtebdjgkinaecaaaRows
import Derived.Test.YtebdjgkinaecaaaNameBytes
import Derived.WalkKit
import Derived.ProofKit
import Derived.OpenShut
import Derived.ShutString
import Derived.WalkLawsBesides
import Derived.WalkSpells
namespace Go.Proofs.Ytebdjgkinaecaaa.fnExactNameOk
open Go.ChangeShapes Go.WideShapes Go.ChangeAt Go.RowKit
open Go.ChangeMaps (open_string shut_string)
set_option linter.unusedVariables false
/-- What a name is: one to twelve bytes, each one that may stand in it, the first one that may begin it. -/
def NameP (s : ByteArray) : Prop := 1 ≤ s.size ∧ s.size ≤ 12 ∧ (∀ (j : Nat) (h : j < s.size), insB (s[j].toNat : Int) = true) ∧ ∀ h : 0 < s.size, leadB (s[0].toNat : Int) = true

/-- The call returns a bool that is true just if p, and the world is as it was. -/
def Tells (p : Prop) (w : World) (e : Ending) (w' : World) : Prop := ∃ b : Bool, e = .returned (.bool b) ∧ (b = true ↔ p) ∧ w' = w

set_option maxHeartbeats 800000 in
theorem l2Name_any (s : ByteArray) (w : World) (hs : s.size ≤ maxLen) :
    Calls Try.prog 12 #[.string s] w fun e w' => Tells (NameP s) w e w' := by
  unfold maxLen at hs
  go_enter Try.func12, Try.ntmps12
  go_wp2_with fail
  go_loop [3] (fun i => ∃ k : Nat, k ≤ s.size ∧ i = .int .i64 k ∧ ∀ (j : Nat) (h : j < s.size), j < k → insB (s[j].toNat : Int) = true) (fun i => s.size - (intOf i).toNat)
  case atStart => exact ⟨0, Nat.zero_le _, rfl, fun j h hj => by omega⟩
  case round =>
    obtain ⟨k, hk, rfl, hall⟩ := hrel
    have HA : Hid (∀ (j : Nat) (h : j < s.size), j < k → insB (s[j].toNat : Int) = true) := hall
    clear hall
    by_cases hlt : k < s.size
    · cases hin : insB (s[k].toNat : Int)
      · go_wp2_with (go_at_call 16; refine (l2In_any _ _).mono ?_; rintro e w' ⟨rfl, rfl⟩)
        go_ret
        exact ⟨false, rfl, ⟨fun h => (by cases h), fun h => by have := h.2.2.1 k hlt; rw [hin] at this; cases this⟩, rfl⟩
      · go_wp2_with (go_at_call 16; refine (l2In_any _ _).mono ?_; rintro e w' ⟨rfl, rfl⟩)
        go_round
        case rel => exact ⟨k + 1, by omega, by go_num, fun j h hj => by
          by_cases e : j = k
          · subst e; exact hin
          · exact HA.out j h (by omega)⟩
        case measure => simp [intOf]; omega
    · have hk' : k = s.size := by omega
      have HB : Hid (∀ (j : Nat) (h : j < s.size), insB (s[j].toNat : Int) = true) := fun j h => HA.out j h (by omega)
      clear HA
      subst hk'
      rcases (by omega : s.size = 0 ∨ (1 ≤ s.size ∧ s.size ≤ 12) ∨ 12 < s.size) with h0 | h0 | h0
      · have hz : ¬ (1 : Int) ≤ (s.size : Int) := by omega
        go_wp2_with (first | (go_at_call 15; go_in) | (go_at_call 17; refine (l2Lead_any _ _).mono ?_; rintro e w' ⟨rfl, rfl⟩))
        go_ret
        exact ⟨false, rfl, ⟨fun h => (by cases h), fun h => by have := h.1; omega⟩, rfl⟩
      · have h1 : (1 : Int) ≤ (s.size : Int) := by omega
        have h2 : (s.size : Int) ≤ 12 := by omega
        have h3 : 0 < s.size := by omega
        cases hl : leadB (s[0].toNat : Int)
        all_goals
          go_wp2_with (first | (go_at_call 15; go_in) | (go_at_call 17; refine (l2Lead_any _ _).mono ?_; rintro e w' ⟨rfl, rfl⟩))
          go_ret
        · exact ⟨false, rfl, ⟨fun h => (by cases h), fun h => by have := h.2.2.2 h3; rw [hl] at this; cases this⟩, rfl⟩
        · exact ⟨true, rfl, ⟨fun _ => ⟨by omega, by omega, HB.out, fun _ => hl⟩, fun _ => rfl⟩, rfl⟩
      · have h1 : (1 : Int) ≤ (s.size : Int) := by omega
        have h2 : ¬ (s.size : Int) ≤ 12 := by omega
        go_wp2_with (first | (go_at_call 15; go_in) | (go_at_call 17; refine (l2Lead_any _ _).mono ?_; rintro e w' ⟨rfl, rfl⟩))
        go_ret
        exact ⟨false, rfl, ⟨fun h => (by cases h), fun h => by have := h.2.1; omega⟩, rfl⟩

theorem size_empty (s : ByteArray) (h : s.size = 0) : s = ⟨#[]⟩ := by
  have : s.data = #[] := by apply Array.eq_empty_of_size_eq_zero; exact h
  cases s; simp_all

theorem not_empty (s : ByteArray) (h : 0 < s.size) : s.toList.isEmpty = false := by
  cases hb : s.toList.isEmpty
  · rfl
  · have h1 : s.toList = [] := by simpa using hb
    rw [ByteArray.toList_eq] at h1
    have h2 : s.data.toList.length = s.size := rfl
    rw [h1] at h2
    simp at h2
    omega

set_option maxHeartbeats 800000 in
theorem nameOk_any (s : ByteArray) (w : World) (hs : s.size ≤ maxLen) :
    Calls Try.prog 8 #[.string s] w fun e w' => Tells (NameP s) w e w' := by
  unfold maxLen at hs
  rcases (by omega : s.size = 0 ∨ (1 ≤ s.size ∧ s.size ≤ 12) ∨ 12 < s.size) with h0 | h0 | h0
  · have hz := size_empty s h0
    subst hz
    go_enter Try.func8, Try.ntmps8
    go_wp2_with fail
    go_ret
    exact ⟨false, rfl, ⟨fun h => (by cases h), fun h => by have := h.1; omega⟩, rfl⟩
  · have h3 : 0 < s.size := by omega
    have he : s.toList.isEmpty = false := not_empty s h3
    have hg : decide ((12 : Int) < (s.size : Int)) = false := by simp; omega
    cases hl : leadB (s[0].toNat : Int)
    · go_enter Try.func8, Try.ntmps8
      go_wp2_with (go_at_call 13; refine (nameStart_any _ _).mono ?_; rintro e w' ⟨rfl, rfl⟩)
      go_ret
      exact ⟨false, rfl, ⟨fun h => (by cases h), fun h => by have := h.2.2.2 h3; rw [hl] at this; cases this⟩, rfl⟩
    · go_enter Try.func8, Try.ntmps8
      go_wp2_with (go_at_call 13; refine (nameStart_any _ _).mono ?_; rintro e w' ⟨rfl, rfl⟩)
      go_loop [19] (fun i => ∃ k : Nat, k ≤ s.size ∧ i = .int .i64 k ∧ ∀ (j : Nat) (h : j < s.size), j < k → insB (s[j].toNat : Int) = true) (fun i => s.size - (intOf i).toNat)
      case atStart => exact ⟨0, Nat.zero_le _, rfl, fun j h hj => by omega⟩
      case round =>
        obtain ⟨k, hk, rfl, hall⟩ := hrel
        have HA : Hid (∀ (j : Nat) (h : j < s.size), j < k → insB (s[j].toNat : Int) = true) := hall
        clear hall
        by_cases hlt : k < s.size
        · cases hin : insB (s[k].toNat : Int)
          · go_wp2_with (go_at_call 14; refine (nameByte_any _ _).mono ?_; rintro e w' ⟨rfl, rfl⟩)
            go_ret
            exact ⟨false, rfl, ⟨fun h => (by cases h), fun h => by have := h.2.2.1 k hlt; rw [hin] at this; cases this⟩, rfl⟩
          · go_wp2_with (go_at_call 14; refine (nameByte_any _ _).mono ?_; rintro e w' ⟨rfl, rfl⟩)
            go_round
            case rel => exact ⟨k + 1, by omega, by go_num, fun j h hj => by
              by_cases e : j = k
              · subst e; exact hin
              · exact HA.out j h (by omega)⟩
            case measure => simp [intOf]; omega
        · go_wp2_with fail
          go_ret
          exact ⟨true, rfl, ⟨fun _ => ⟨by omega, by omega, fun j h => HA.out j h (by omega), fun _ => hl⟩, fun _ => rfl⟩, rfl⟩
  · have h3 : 0 < s.size := by omega
    have he : s.toList.isEmpty = false := not_empty s h3
    have hg : decide ((12 : Int) < (s.size : Int)) = true := by simp; omega
    go_enter Try.func8, Try.ntmps8
    go_wp2_with fail
    go_ret
    exact ⟨false, rfl, ⟨fun h => (by cases h), fun h => by have := h.2.1; omega⟩, rfl⟩

set_option maxHeartbeats 400000 in
theorem specNameOk_any (s : ByteArray) (w : World) (hs : s.size ≤ maxLen) :
    Calls Try.prog 7 #[.string s] w fun e w' => Tells (NameP s) w e w' := by
  go_enter Try.func7, Try.ntmps7
  go_wp2_with (go_at_call 12; refine (l2Name_any s _ hs).mono ?_; rintro e w' ⟨b, rfl, hb, rfl⟩)
  go_ret
  exact ⟨b, rfl, hb, rfl⟩

theorem own : ownKnob Try.prog.godebug = none := by kernel_rfl

/-! ### STEP 1: THE WALK: the Go text returns true. 'Grown w w'': the world has at most new blocks (Derived/RowKit3.lean). Part the cases AHEAD of 'go_enter' where a test parts the walk; take each callee by a contract of your own. -/
theorem walk (a0 : ByteArray) (w0 : a0.size ≤ maxLen) (w : World) :
    Calls Try.prog 4 #[.string a0] w fun e w' => e = .returned (.bool true) ∧ Grown w w' := by
  by_cases hbig : 1048576 < a0.size
  · have hb : (1048576 : Int) < (a0.size : Int) := by omega
    go_enter Try.func4, Try.ntmps4
    go_wp2_with fail
    go_ret
    exact ⟨rfl, Grown.refl _⟩
  · have hb : ¬ (1048576 : Int) < (a0.size : Int) := by omega
    go_enter Try.func4, Try.ntmps4
    go_wp2_with (go_at_call 7; refine (specNameOk_any a0 _ w0).mono ?_; rintro e w' ⟨b1, rfl, hb1, rfl⟩)
    refine (nameOk_any a0 _ w0).mono ?_
    rintro e w' ⟨b2, rfl, hb2, rfl⟩
    have hbb : b1 = b2 := Bool.eq_iff_iff.2 (hb1.trans hb2.symm)
    subst hbb
    clear hb1 hb2
    cases b1
    all_goals
      go_wp2_with fail
      go_ret
      exact ⟨rfl, Grown.refl _⟩

/-! ### THE ROW's STEP: WRITTEN OUT: LEAVE IT -/
set_option maxRecDepth 100000 in
theorem lifted (os : Os) (started : os.Started) (H : Type) (enc : TypeId × Value → H) :
    ReturnsInHanded {} Try.checked os 4 .any (Rows.fnExactNameOkSpec.pre6 enc Try.prog Try.f4 Rows.fnExactNameOkRow.domain false) (Rows.fnExactNameOkSpec.post enc Try.prog Try.f4 false true false false) := by
  refine returnsInHanded_of_change (C := Try.checked) own started (by kernel_rfl) Try.func4
    (ChangeSpec.witness6 (enc := enc) (C := Try.checked) false ⟨#[], #[.string ByteArray.empty], []⟩ 8 (by kernel_rfl) (by kernel_rfl) (by kernel_rfl) (by kernel_rfl)) ?_
  intro W base args ds gs before hval0 hW hcnd _
  have hval : ∀ (j : Nat) t v, Try.f4.params[j]? = some t → args[j]? = some v → Value.okWide Try.prog W .any base t v := hval0
  have hW' := hW
  obtain ⟨p, q, hA0, hV, rfl, hfz, hnd⟩ := hW
  have hA : DataW.TrodAll enc Try.prog W 0 (fun _ => true) true Try.f4.params.toList args.toList ds p := hA0
  rw [Try.params4] at hA hval
  obtain ⟨v0, vs0, d0, ds0, p0, q0, hargs, rfl, rfl, h0, r0⟩ := trodAll_cons hA
  obtain ⟨rfl, rfl, rfl⟩ := trodAll_nil r0
  obtain rfl : args = #[v0] := by cases args; simp_all
  obtain ⟨rfl, rfl⟩ := trodVars_none hV
  obtain ⟨a0, rfl, rfl, rfl, w0⟩ := open_string Try.underlying9 (hval 0 9 v0 rfl rfl) h0
  clear hA0 hval0
  simp only [List.append_nil] at hW'
  refine (walk a0 w0 W).mono fun e W' ⟨he, hg⟩ => ?_
  subst he
  exact ⟨_, rfl, post_of_same (pa := []) (pv := []) hW' (fun _ _ _ => (trodAll_cons_mk (shut_bool Try.underlying4 _) trodAll_mk0)) (fun sp _ => (trodAll_cons_mk (shut_string Try.underlying9 w0) trodAll_mk0)) (fun _ _ => rfl) rfl
    (hg.frame _) hg.2.1 (ok_one (by kernel_rfl) rfl (okWide_bool_mk Try.underlying4 _))⟩

theorem over : Rows.fnExactNameOkRow.holds Try.pinned (OpenSpec.ofChange Rows.fnExactNameOkSpec) :=
  OpenClaim.holds_of_wide 4 Try.f4 rfl rfl rfl rfl rfl rfl rfl ⟨rfl, rfl, rfl, rfl, rfl⟩ rfl rfl rfl rfl rfl (by kernel_rfl) Try.func4 (by kernel_rfl)
    (of_decide_eq_true (by kernel_rfl)) (by unfold Func.isWrapper; first | (rw [if_pos (by decide +kernel)]; kernel_rfl) | (rw [if_neg (by decide +kernel)]; exact ⟨rfl, rfl⟩))
    (fun os started H enc _ => lifted os started H enc)

theorem proved : Rows.FnExactNameOkSaid :=
  over
#print axioms proved
end Go.Proofs.Ytebdjgkinaecaaa.fnExactNameOk

namespace Go.Proofs.Ytebdjgkinaecaaa
/-- The statement. -/
theorem fnExactNameOk_holds : Rows.FnExactNameOkSaid := fnExactNameOk.proved
end Go.Proofs.Ytebdjgkinaecaaa
