/-
  For every list of steps the law FnExactPathPut returns true: impl.PathPut answers as spec.PathPut, and leaves the steps as they were. No condition: the law itself passes lists with more than 1048576 steps and bytes together by.
-/
import Derived.Test.YtglbjibilllopaaRows
import Derived.Test.YtglbjibilllopaaArgStep
import Derived.Test.YtglbjibilllopaaPathPutS
import Derived.Test.YtglbjibilllopaaPathPutI
import Derived.ProofKit
import Derived.OpenShut
import Derived.ShutString
import Derived.Carry
namespace Go.Proofs.Ytglbjibilllopaa.fnExactPathPut
open Go.ChangeShapes Go.WideShapes Go.ChangeAt Go.RowKit
open Go.ChangeMaps (open_string shut_string)
set_option linter.unusedVariables false

set_option maxRecDepth 100000 in
set_option maxHeartbeats 4000000 in
theorem walk (v : Value) (n : Nat) (D : Nat → Bool) (N A T : Nat → ByteArray) (w : World) (hm : Hub.StepAt w v n D N A T) (hs : ∀ j, j < n → (N j).size ≤ maxLen ∧ (A j).size ≤ maxLen ∧ (T j).size ≤ maxLen) :
    Calls Try.prog 4 #[v] w fun e w' => e = .returned (.bool true) ∧ Below w.heap.size w w' := by
  unfold maxLen at hs
  have cS := Hub.szStepS_any v n D N A T 1048576 w (by omega) (by omega) hm (fun j hj => by have := hs j hj; omega)
  have HM : Hid (∀ W, Below w.heap.size w W → Hub.StepAt W v n D N A T) := fun W bb => hm.below bb
  obtain ⟨o, cap, rfl, -⟩ := hm
  clear hs
  go_enter Try.func4, Try.ntmps4
  go_wp2_with fail
  go_fit cS
  rintro e w1 ⟨⟨z, rfl, hz⟩, b1⟩
  rcases hz with hz | ⟨hz, hz1, hz2, hz3⟩
  · go_wp2_with fail
    go_ret
    exact ⟨rfl, b1⟩
  have hz' : ¬ z < 0 := by omega
  have hn : n ≤ 1048576 := by omega
  have HS : Hid (∀ j, j < n → (N j).size ≤ 1048576 ∧ (A j).size ≤ 1048576 ∧ (T j).size ≤ 1048576) := fun j hj => by have := hz3 j hj; omega
  have TO : Hid (∀ W, Below w.heap.size w W → _) := fun W bb => Hub.toStepS_any (.slice o n cap) n D N A T W (HM.out W bb) hn
  clear hz3 cS
  obtain ⟨R, hR⟩ : ∃ R, Hub.pputT D N A T n = R := ⟨_, rfl⟩
  have HR : Hid (Hub.pputT D N A T n = R) := hR
  clear hR
  have hRR := Hub.eq_bytes R
  go_wp2_with fail
  refine (TO.out w1 b1).mono ?_
  rintro e w2 ⟨⟨v2, rfl, m2⟩, p2⟩
  have b2 := b1.trans (p2.mono b1.size)
  have c2 := Hub.specPathPut_any v2 n D N A T w2 m2 HS.out
  rw [HR.out] at c2
  obtain ⟨o2, k2, rfl, -⟩ := m2
  go_wp2_with fail
  go_fit c2
  rintro e w3 ⟨rfl, p3⟩
  have b3 := b2.trans (p3.mono b2.size)
  go_wp2_with fail
  refine (TO.out w3 b3).mono ?_
  rintro e w4 ⟨⟨v4, rfl, m4⟩, p4⟩
  have b4 := b3.trans (p4.mono b3.size)
  have c4 := Hub.implPathPut_any v4 n D N A T w4 m4 HS.out
  rw [HR.out] at c4
  have HM4 : Hid (∀ W, Below w4.heap.size w4 W → Hub.StepAt W v4 n D N A T) := fun W bb => m4.below bb
  obtain ⟨o4, k4, rfl, -⟩ := m4
  go_wp2_with fail
  go_fit c4
  rintro e w5 ⟨rfl, p5⟩
  have b5 := b4.trans (p5.mono b4.size)
  go_wp2_with fail
  refine (TO.out w5 b5).mono ?_
  rintro e w6 ⟨⟨v6, rfl, m6⟩, p6⟩
  have b6 := b5.trans (p6.mono b5.size)
  have c6 := Hub.eqStepS_same (.slice o4 n k4) v6 n D N A T w6 (HM4.out w6 (p5.trans (p6.mono p5.size))) m6
  obtain ⟨o6, k6, rfl, -⟩ := m6
  go_wp2_with fail
  go_fit c6
  rintro e w7 ⟨rfl, p7⟩
  go_wp2_with fail
  go_ret
  exact ⟨rfl, b6.trans (p7.mono b6.size)⟩

theorem own : ownKnob Try.prog.godebug = none := by kernel_rfl
theorem laidOut : laidOutB Try.prog = true := by kernel_rfl
set_option maxRecDepth 100000 in
theorem lifted (os : Os) (started : os.Started) (H : Type) (enc : TypeId × Value → H) :
    ReturnsInHanded {} Try.checked os 4 .any (Rows.fnExactPathPutSpec.pre6 enc Try.prog Try.f4 Rows.fnExactPathPutRow.domain false) (Rows.fnExactPathPutSpec.post enc Try.prog Try.f4 false true false false) := by
  refine returnsInHanded_of_change (C := Try.checked) own started (by kernel_rfl) Try.func4
    (ChangeSpec.witness6 (enc := enc) (C := Try.checked) false ⟨#[], #[.slice none 0 0], []⟩ 8 (by kernel_rfl) (by kernel_rfl) (by kernel_rfl) (by kernel_rfl)) ?_
  intro W base args ds gs before hval0 hW hcnd _
  have hval : ∀ (j : Nat) t v, Try.f4.params[j]? = some t → args[j]? = some v → Value.okWide Try.prog W .any base t v := hval0
  have hW' := hW
  obtain ⟨p, q, hA0, hV, rfl, hfz, hnd⟩ := hW
  have hA : DataW.TrodAll enc Try.prog W 0 (fun _ => true) true Try.f4.params.toList args.toList ds p := hA0
  rw [Try.params4] at hA hval
  obtain ⟨v0, vs0, d0, ds0, p0, q_0, hargs, rfl, rfl, h0, r0⟩ := trodAll_cons hA
  obtain ⟨rfl, rfl, rfl⟩ := trodAll_nil r0
  obtain rfl : args = #[v0] := by cases args; simp_all
  obtain ⟨rfl, rfl⟩ := trodVars_none hV
  obtain ⟨n0, D0, N0, A0, T0, hm0, hw0⟩ := Hub.open_steps (hval 0 22 v0 rfl rfl) h0
  clear hA0 hval0
  simp only [List.append_nil] at hW'
  have hlt0 := hW'.lt
  refine (walk v0 n0 D0 N0 A0 T0 W hm0 hw0).mono fun e W' ⟨he, bel⟩ => ?_
  subst he
  exact ⟨_, rfl, _, _, _, [], _, [], hW', trodAll_mk1 (shut_bool Try.underlying4 _), (trodAll_cons_mk (Below.trod laidOut (by kernel_rfl) (of_decide_eq_true (by kernel_rfl)) h0 bel (fun x hx => hlt0 x (by simp [hx]))) trodAll_mk0), rfl, bel.frame _, fun h => by cases h⟩

theorem over : Rows.fnExactPathPutRow.holds Try.pinned (OpenSpec.ofChange Rows.fnExactPathPutSpec) :=
  OpenClaim.holds_of_wide 4 Try.f4 rfl rfl rfl rfl rfl rfl rfl ⟨rfl, rfl, rfl, rfl, rfl⟩ rfl rfl rfl rfl rfl (by kernel_rfl) Try.func4 (by kernel_rfl)
    (of_decide_eq_true (by kernel_rfl)) (by unfold Func.isWrapper; first | (rw [if_pos (by decide +kernel)]; kernel_rfl) | (rw [if_neg (by decide +kernel)]; exact ⟨rfl, rfl⟩))
    (fun os started H enc _ => lifted os started H enc)
theorem proved : Rows.FnExactPathPutSaid := over
#print axioms proved
end Go.Proofs.Ytglbjibilllopaa.fnExactPathPut

namespace Go.Proofs.Ytglbjibilllopaa
/-- The statement. -/
theorem fnExactPathPut_holds : Rows.FnExactPathPutSaid := fnExactPathPut.proved
end Go.Proofs.Ytglbjibilllopaa
