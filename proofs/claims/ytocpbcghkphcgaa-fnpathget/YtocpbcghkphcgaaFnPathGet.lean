/-
  For every slice of bytes the law FnPathGet returns true: of a drawn text impl.PathGet answers as spec.PathGet; what it reads is a path by impl.PathOk, and impl.PathPut writes it as the text. No condition: the law itself passes slices of more than 1048576 bytes by. What the draw can give is a small part of all texts; the proof does not rest on which.
-/
import Derived.Test.YtocpbcghkphcgaaRows
import Derived.Test.YtocpbcghkphcgaaDrawPathB
import Derived.Test.YtocpbcghkphcgaaPathBack
import Derived.Test.YtocpbcghkphcgaaLooseL
import Derived.ProofKit
import Derived.OpenShut
import Derived.ShutString
import Derived.Carry
import Derived.HandedShaped
namespace Go.Proofs.Ytocpbcghkphcgaa.fnPathGet
open Go.ChangeShapes Go.WideShapes Go.ChangeAt Go.RowKit
open Go.ChangeMaps (open_string shut_string)
set_option linter.unusedVariables false

set_option maxRecDepth 100000 in
set_option maxHeartbeats 4000000 in
theorem walk (v1 : Value) (n1 : Nat) (m : Int) (w : World) (hb1 : Hub.BytesAt w.heap.size w v1 n1) (hm : w.cell? ⟨0, 0, none⟩ = some (.int .i64 m)) :
    Calls Try.prog 5 #[v1] w fun e w' => e = .returned (.bool true) ∧ Below w.heap.size w w' := by
  have HM : Hid (∀ W, Below w.heap.size w W → W.cell? ⟨0, 0, none⟩ = some (.int .i64 m)) := fun W bb => (bb.cell (p := ⟨0, 0, none⟩) (Hub.cell_lt hm)).trans hm
  clear hm
  obtain ⟨o1, cap1, rfl⟩ := Hub.bytes_shape hb1
  by_cases hbig : (1048576 : Int) < (n1 : Int)
  · go_enter Try.func5, Try.ntmps5
    go_wp2_with fail
    go_ret
    exact ⟨rfl, Below.refl _ _⟩
  · have cD := Hub.drawPathGet_any _ n1 w hb1
    clear hb1
    go_enter Try.func5, Try.ntmps5
    go_wp2_with fail
    go_fit cD
    rintro e w1 ⟨⟨s, hs, rfl⟩, c1⟩
    clear cD
    have cI := Hub.implPathGet_any s (by omega) m w1 (HM.out w1 c1)
    have cS := fun W => Hub.specPathGet_any s (by omega) W
    go_wp2_with fail
    refine cI.mono ?_
    rintro e w2 ⟨hp2, b2⟩
    have c2 := c1.trans (b2.mono c1.size)
    obtain ⟨o2, k2, n2, bb2, D2, N2, A2, T2, rfl, O2, n52, F2⟩ := Hub.pathForm hp2
    have HO2 : Hid (Hub.OwnS w2 w1.heap.size (.slice o2 n2 k2) n2 D2 N2 A2 T2) := O2
    have HF2 : Hid (_ ∨ _) := F2
    clear hp2 O2 F2 cI
    go_wp2_with fail
    refine (cS _).mono ?_
    rintro e w3 ⟨hp3, b3⟩
    have c3 := c2.trans (b3.mono c2.size)
    obtain ⟨o3, k3, n3, bb3, D3, N3, A3, T3, rfl, O3, n53, F3⟩ := Hub.pathForm hp3
    obtain ⟨rfl, rfl, hag⟩ := Hub.formsSame HF2.out F3
    have HS2 : Hid (∀ W, Below w3.heap.size w3 W → Hub.StepAt W (.slice o2 n3 k2) n3 D2 N2 A2 T2) := fun W bb => (Hub.OwnS.step (Hub.OwnL.below HO2.out b3)).below bb
    have HS3 : Hid (∀ W, Below w3.heap.size w3 W → Hub.StepAt W (.slice o3 n3 k3) n3 D2 N2 A2 T2) := fun W bb => (Hub.OwnS.step (Hub.ownAs O3 hag)).below bb
    have cE : Hid (∀ W, Below w3.heap.size w3 W → _) := fun W bb => Hub.hbSteps_same (.slice o2 n3 k2) (.slice o3 n3 k3) n3 D2 N2 A2 T2 W (HS2.out W bb) (HS3.out W bb)
    clear hp3 O3 F3 hag
    have hbb : (bb3 != bb3) = false := bne_self_eq_false bb3
    have hbe : (bb3 == bb3) = true := beq_self_eq_true bb3
    cases bb3
    · go_wp2_with (go_at_call 15; first | (refine (cE.out _ b34).mono ?_; rintro e w5 ⟨rfl, b5⟩; have c5 : Below w.heap.size w w5 := c3.trans ((b34.trans (b5.mono b34.size)).mono c3.size)) | (refine (cE.out _ (Below.refl _ _)).mono ?_; rintro e w4 ⟨rfl, b34⟩))
      go_ret
      exact ⟨rfl, c5⟩
    · rcases HF2.out with ⟨-, hP⟩ | ⟨h, -⟩
      · have hpt := hP.2.1
        have hput : Hub.pputT D2 N2 A2 T2 n3 = s := by unfold Hub.pputT; rw [if_pos hpt]; exact Hub.put_bytes.2 hP.2.2.1
        have HZ : Hid (∀ j, j < n3 → (N2 j).size ≤ 1048576 ∧ (A2 j).size ≤ 1048576 ∧ (T2 j).size ≤ 1048576) := fun j hj => by have := hP.2.2.2.1 j hj; omega
        have IP : Hid (∀ W, Below w3.heap.size w3 W → Calls Try.prog 12 #[.slice o2 n3 k2] W fun e w' => e = .returned (.string s) ∧ Below W.heap.size W w') := fun W bb => by
          have h := Hub.implPathPut_any (.slice o2 n3 k2) n3 D2 N2 A2 T2 W (HS2.out W bb) HZ.out
          rw [hput] at h
          exact h
        have OK : Hid (∀ W, Below w3.heap.size w3 W → Calls Try.prog 14 #[.slice o2 n3 k2] W fun e w' => e = .returned (.bool true) ∧ Below W.heap.size W w') := fun W bb => by
          have h := Hub.implPathOk_any (.slice o2 n3 k2) n3 D2 N2 A2 T2 W (HS2.out W bb) HZ.out
          rw [hpt] at h
          exact h
        have hss := Hub.eq_bytes s
        clear hP hpt hput
        go_wp2_with first
          | (go_at_call 15; refine (cE.out _ (Below.refl _ _)).mono ?_; rintro e w4 ⟨rfl, b34⟩)
          | (go_at_call 12; refine (IP.out _ b34).mono ?_; rintro e w5 ⟨rfl, b5⟩; have b35 : Below w3.heap.size w3 w5 := b34.trans (b5.mono b34.size))
          | (go_at_call 14; refine (OK.out _ b35).mono ?_; rintro e w6 ⟨rfl, b6⟩; have c6 : Below w.heap.size w w6 := c3.trans ((b35.trans (b6.mono b35.size)).mono c3.size))
        go_ret
        exact ⟨rfl, c6⟩
      · cases h

theorem own : ownKnob Try.prog.godebug = none := by kernel_rfl
theorem laidOut : laidOutB Try.prog = true := by kernel_rfl
set_option maxRecDepth 100000 in
theorem lifted (os : Os) (started : os.Started) (H : Type) (enc : TypeId × Value → H) :
    ReturnsInHanded {} Try.checked os 5 .any (Rows.fnPathGetSpec.pre6 enc Try.prog Try.f5 Rows.fnPathGetRow.domain false) (Rows.fnPathGetSpec.post enc Try.prog Try.f5 false true false false) := by
  refine returnsInHanded_of_change_shaped (C := Try.checked) own started (by kernel_rfl) Try.func5
    (ChangeSpec.witness6 (enc := enc) (C := Try.checked) false ⟨#[], #[.slice none 0 0], []⟩ 8 (by kernel_rfl) (by kernel_rfl) (by kernel_rfl) (by kernel_rfl)) ?_
  intro W base args ds gs before hval0 hW hcnd _ hsh _
  have hval : ∀ (j : Nat) t v, Try.f5.params[j]? = some t → args[j]? = some v → Value.okWide Try.prog W .any base t v := hval0
  have hW' := hW
  obtain ⟨p, q, hA0, hV, rfl, hfz, hnd⟩ := hW
  have hA : DataW.TrodAll enc Try.prog W 0 (fun _ => true) true Try.f5.params.toList args.toList ds p := hA0
  rw [Try.params5] at hA hval
  obtain ⟨v0, vs0, d0, ds0, p0, q_0, hargs, rfl, rfl, h0, r0⟩ := trodAll_cons hA
  obtain ⟨rfl, rfl, rfl⟩ := trodAll_nil r0
  obtain rfl : args = #[v0] := by cases args; simp_all
  obtain ⟨rfl, rfl⟩ := trodVars_none hV
  obtain ⟨n0, hb0⟩ := Hub.open_bytes (hval 0 28 v0 rfl rfl) h0
  clear hA0 hval0
  simp only [List.append_nil] at hW'
  have hlt0 := hW'.lt
  obtain ⟨mx, hmx⟩ := Try.maxLen_some W hsh
  refine (walk v0 n0 mx W hb0 hmx).mono fun e W' ⟨he, bel⟩ => ?_
  subst he
  exact ⟨_, rfl, _, _, _, [], _, [], hW', trodAll_mk1 (shut_bool Try.underlying4 _), (trodAll_cons_mk (Below.trod laidOut (by kernel_rfl) (of_decide_eq_true (by kernel_rfl)) h0 bel (fun x hx => hlt0 x (by simp [hx]))) trodAll_mk0), rfl, bel.frame _, fun h => by cases h⟩

theorem over : Rows.fnPathGetRow.holds Try.pinned (OpenSpec.ofChange Rows.fnPathGetSpec) :=
  OpenClaim.holds_of_wide 5 Try.f5 rfl rfl rfl rfl rfl rfl rfl ⟨rfl, rfl, rfl, rfl, rfl⟩ rfl rfl rfl rfl rfl (by kernel_rfl) Try.func5 (by kernel_rfl)
    (of_decide_eq_true (by kernel_rfl)) (by unfold Func.isWrapper; first | (rw [if_pos (by decide +kernel)]; kernel_rfl) | (rw [if_neg (by decide +kernel)]; exact ⟨rfl, rfl⟩))
    (fun os started H enc _ => lifted os started H enc)
theorem proved : Rows.FnPathGetSaid := over
#print axioms proved
end Go.Proofs.Ytocpbcghkphcgaa.fnPathGet

namespace Go.Proofs.Ytocpbcghkphcgaa
/-- The statement. -/
theorem fnPathGet_holds : Rows.FnPathGetSaid := fnPathGet.proved
end Go.Proofs.Ytocpbcghkphcgaa
