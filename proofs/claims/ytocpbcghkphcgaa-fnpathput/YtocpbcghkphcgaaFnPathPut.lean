/-
  For every slice of bytes the law FnPathPut returns true: of drawn steps impl.PathPut answers as spec.PathPut, the empty text just if impl.PathOk is false; else impl.PathGet reads the steps back, where the text has at most 160 bytes. No condition: the law itself passes slices of more than 1048576 bytes by. What the draw can give is a small part of all paths; the proof does not rest on which.
-/
import Derived.Test.YtocpbcghkphcgaaRows
import Derived.Test.YtocpbcghkphcgaaDrawPathB
import Derived.Test.YtocpbcghkphcgaaPathBack
import Derived.Test.YtocpbcghkphcgaaLooseL
import Derived.ProofKit
import Derived.OpenShut
import Derived.ShutString
import Derived.Carry
import Derived.HandedShaped
namespace Go.Proofs.Ytocpbcghkphcgaa.fnPathPut
open Go.ChangeShapes Go.WideShapes Go.ChangeAt Go.RowKit
open Go.ChangeMaps (open_string shut_string)
set_option linter.unusedVariables false

set_option maxRecDepth 100000 in
set_option maxHeartbeats 4000000 in
theorem walk (v1 : Value) (n1 : Nat) (m : Int) (w : World) (hb1 : Hub.BytesAt w.heap.size w v1 n1) (hm : w.cell? ⟨0, 0, none⟩ = some (.int .i64 m)) :
    Calls Try.prog 4 #[v1] w fun e w' => e = .returned (.bool true) ∧ Below w.heap.size w w' := by
  have HM : Hid (∀ W, Below w.heap.size w W → W.cell? ⟨0, 0, none⟩ = some (.int .i64 m)) := fun W bb => (bb.cell (p := ⟨0, 0, none⟩) (Hub.cell_lt hm)).trans hm
  clear hm
  obtain ⟨o1, cap1, rfl⟩ := Hub.bytes_shape hb1
  by_cases hbig : (1048576 : Int) < (n1 : Int)
  · go_enter Try.func4, Try.ntmps4
    go_wp2_with fail
    go_ret
    exact ⟨rfl, Below.refl _ _⟩
  · have cD := Hub.drawPathPut_any _ n1 w hb1
    clear hb1
    go_enter Try.func4, Try.ntmps4
    go_wp2_with fail
    go_fit cD
    rintro e w1 ⟨⟨o, cap, n, D, N, A, T, rfl, hS, hn, hz⟩, c1⟩
    have HS : Hid (∀ W, Below w1.heap.size w1 W → Hub.StepAt W (.slice o n cap) n D N A T) := fun W bb => hS.below bb
    have HZ : Hid (∀ j, j < n → (N j).size ≤ 1048576 ∧ (A j).size ≤ 1048576 ∧ (T j).size ≤ 1048576) := fun j hj => by have := hz j hj; omega
    clear hS hz cD
    have IP : Hid (∀ W, Below w1.heap.size w1 W → _) := fun W bb => Hub.implPathPut_any (.slice o n cap) n D N A T W (HS.out W bb) HZ.out
    have SP : Hid (∀ W, Below w1.heap.size w1 W → _) := fun W bb => Hub.specPathPut_any (.slice o n cap) n D N A T W (HS.out W bb) HZ.out
    have OK : Hid (∀ W, Below w1.heap.size w1 W → _) := fun W bb => Hub.implPathOk_any (.slice o n cap) n D N A T W (HS.out W bb) HZ.out
    obtain ⟨R, hR⟩ : ∃ R, Hub.pputT D N A T n = R := ⟨_, rfl⟩
    have hRs : R.size ≤ 225 := by rw [← hR]; exact Hub.pput_small
    have HR : Hid (Hub.pputT D N A T n = R) := hR
    rw [hR] at IP SP
    have PG : Hid (∀ W, Below w.heap.size w W → _) := fun W hW => Hub.implPathGet_any R (by omega) m W (HM.out W hW)
    have hRR := Hub.eq_bytes R
    clear hR
    go_wp2_with fail
    refine (IP.out w1 (Below.refl _ _)).mono ?_
    rintro e w2 ⟨rfl, b2⟩
    have c2 := c1.trans (b2.mono c1.size)
    cases hp : Hub.pathT N A T n
    · have hR0 : R = ⟨#[]⟩ := by rw [← HR.out]; unfold Hub.pputT; rw [hp]; rfl
      subst hR0
      have OK2 := fun W bb => OK.out W bb
      rw [hp] at OK2
      go_wp2_with first
        | (go_at_call 13; refine (SP.out _ b2).mono ?_; rintro e w3 ⟨rfl, b3⟩; have b23 : Below w1.heap.size w1 w3 := b2.trans (b3.mono b2.size))
        | (go_at_call 14; refine (OK2 _ b23).mono ?_; rintro e w4 ⟨rfl, b4⟩; have b24 : Below w1.heap.size w1 w4 := b23.trans (b4.mono b23.size); have c4 : Below w.heap.size w w4 := c1.trans (b24.mono c1.size))
      refine (PG.out w4 c4).mono ?_
      rintro e w5 ⟨hp5, b5⟩
      obtain ⟨o5, k5, n5, bb, D5, N5, A5, T5, rfl, -, -, -⟩ := Hub.pathForm hp5
      clear hp5
      go_wp2_with fail
      go_ret
      exact ⟨rfl, c4.trans (b5.mono c4.size)⟩
    · have hRp : Hub.putS D N A T n = R := by rw [← HR.out]; unfold Hub.pputT; rw [if_pos hp]
      have hRe : ¬ R = ⟨#[]⟩ := by rw [← hRp]; exact Hub.put_ne hp
      have hRn := Hub.ne_none hRe
      have OK2 := fun W bb => OK.out W bb
      rw [hp] at OK2
      have HP : Hid (Hub.pathT N A T n = true) := hp
      have HRP : Hid (Hub.putS D N A T n = R) := hRp
      clear hRe hRp hp
      go_wp2_with first
        | (go_at_call 13; refine (SP.out _ b2).mono ?_; rintro e w3 ⟨rfl, b3⟩; have b23 : Below w1.heap.size w1 w3 := b2.trans (b3.mono b2.size))
        | (go_at_call 14; refine (OK2 _ b23).mono ?_; rintro e w4 ⟨rfl, b4⟩; have b24 : Below w1.heap.size w1 w4 := b23.trans (b4.mono b23.size); have c4 : Below w.heap.size w w4 := c1.trans (b24.mono c1.size))
      refine (PG.out w4 c4).mono ?_
      rintro e w5 ⟨hp5, b5⟩
      have c5 := c4.trans (b5.mono c4.size)
      have b15 : Below w1.heap.size w1 w5 := b24.trans (b5.mono b24.size)
      obtain ⟨o5, k5, n5, bb, D5, N5, A5, T5, rfl, O5, -, F5⟩ := Hub.pathForm hp5
      by_cases h160 : R.size ≤ 160
      · have hs160 : ¬ (160 : Int) < (R.size : Int) := by omega
        obtain ⟨rfl, rfl, hag⟩ := Hub.formsSame (.inl ⟨rfl, Hub.isPath_put HP.out HRP.out h160⟩) F5
        have cE := Hub.hbSteps_same (.slice o5 n5 k5) (.slice o n5 cap) n5 D N A T w5 (Hub.OwnS.step (Hub.ownAs O5 hag)) (HS.out w5 b15)
        clear hp5 O5 F5 hag
        go_wp2_with (go_at_call 15; go_fit cE; rintro e w6 ⟨rfl, b6⟩)
        go_ret
        exact ⟨rfl, c5.trans (b6.mono c5.size)⟩
      · have hs160 : (160 : Int) < (R.size : Int) := by omega
        clear hp5 O5 F5
        go_wp2_with fail
        go_ret
        exact ⟨rfl, c5⟩

theorem own : ownKnob Try.prog.godebug = none := by kernel_rfl
theorem laidOut : laidOutB Try.prog = true := by kernel_rfl
set_option maxRecDepth 100000 in
theorem lifted (os : Os) (started : os.Started) (H : Type) (enc : TypeId × Value → H) :
    ReturnsInHanded {} Try.checked os 4 .any (Rows.fnPathPutSpec.pre6 enc Try.prog Try.f4 Rows.fnPathPutRow.domain false) (Rows.fnPathPutSpec.post enc Try.prog Try.f4 false true false false) := by
  refine returnsInHanded_of_change_shaped (C := Try.checked) own started (by kernel_rfl) Try.func4
    (ChangeSpec.witness6 (enc := enc) (C := Try.checked) false ⟨#[], #[.slice none 0 0], []⟩ 8 (by kernel_rfl) (by kernel_rfl) (by kernel_rfl) (by kernel_rfl)) ?_
  intro W base args ds gs before hval0 hW hcnd _ hsh _
  have hval : ∀ (j : Nat) t v, Try.f4.params[j]? = some t → args[j]? = some v → Value.okWide Try.prog W .any base t v := hval0
  have hW' := hW
  obtain ⟨p, q, hA0, hV, rfl, hfz, hnd⟩ := hW
  have hA : DataW.TrodAll enc Try.prog W 0 (fun _ => true) true Try.f4.params.toList args.toList ds p := hA0
  rw [Try.params4] at hA hval
  obtain ⟨v0, vs0, d0, ds0, p0, q_0, hargs, rfl, rfl, h0, r0⟩ := trodAll_cons hA
  obtain ⟨rfl, rfl, rfl⟩ := trodAll_nil r0
  obtain rfl : args = #[v0] := by cases args; simp_all
  obtain ⟨rfl, rfl⟩ := trodVars_none hV
  obtain ⟨n0, hb0⟩ := Hub.open_bytes (hval 0 28 v0 rfl rfl) h0
  clear hA0 hval0
  simp only [List.append_nil] at hW'
  have hlt0 := hW'.lt
  obtain ⟨mx, hmx⟩ := Try.maxLen_some W hsh
  refine (walk v0 n0 mx W hb0 hmx).mono fun e W' ⟨he, bel⟩ => ?_
  subst he
  exact ⟨_, rfl, _, _, _, [], _, [], hW', trodAll_mk1 (shut_bool Try.underlying4 _), (trodAll_cons_mk (Below.trod laidOut (by kernel_rfl) (of_decide_eq_true (by kernel_rfl)) h0 bel (fun x hx => hlt0 x (by simp [hx]))) trodAll_mk0), rfl, bel.frame _, fun h => by cases h⟩

theorem over : Rows.fnPathPutRow.holds Try.pinned (OpenSpec.ofChange Rows.fnPathPutSpec) :=
  OpenClaim.holds_of_wide 4 Try.f4 rfl rfl rfl rfl rfl rfl rfl ⟨rfl, rfl, rfl, rfl, rfl⟩ rfl rfl rfl rfl rfl (by kernel_rfl) Try.func4 (by kernel_rfl)
    (of_decide_eq_true (by kernel_rfl)) (by unfold Func.isWrapper; first | (rw [if_pos (by decide +kernel)]; kernel_rfl) | (rw [if_neg (by decide +kernel)]; exact ⟨rfl, rfl⟩))
    (fun os started H enc _ => lifted os started H enc)
theorem proved : Rows.FnPathPutSaid := over
#print axioms proved
end Go.Proofs.Ytocpbcghkphcgaa.fnPathPut

namespace Go.Proofs.Ytocpbcghkphcgaa
/-- The statement. -/
theorem fnPathPut_holds : Rows.FnPathPutSaid := fnPathPut.proved
end Go.Proofs.Ytocpbcghkphcgaa
