/-
  For every text the law FnExactPathGet returns true: impl.PathGet answers as spec.PathGet, every field of every step, and what it answers is memory of its own, behind another call too. No condition: the law itself passes texts of more than 1048576 bytes by.
-/
import Derived.Test.YtocpbcghkphcgaaRows
import Derived.Test.YtocpbcghkphcgaaGetL
import Derived.Test.YtocpbcghkphcgaaLooseL
import Derived.Test.YtocpbcghkphcgaaMarkS
import Derived.ProofKit
import Derived.OpenShut
import Derived.ShutString
import Derived.Carry
import Derived.HandedShaped
namespace Go.Proofs.Ytocpbcghkphcgaa.fnExactPathGet
open Go.ChangeShapes Go.WideShapes Go.ChangeAt Go.RowKit
open Go.ChangeMaps (open_string shut_string)
set_option linter.unusedVariables false

/-- What PathGet answers, in one form. -/
theorem path_form {s : ByteArray} {w w' : World} {e : Ending} (h : Hub.PathP s w e w') : ∃ (o : Option Addr) (cap n : Nat) (b : Bool) (D : Nat → Bool) (N A T : Nat → ByteArray), e = .returned (.tuple #[.slice o n cap, .bool b]) ∧ Hub.OwnS w' w.heap.size (.slice o n cap) n D N A T ∧ n ≤ 5 ∧ ((b = true ∧ Hub.IsPath s n D N A T) ∨ (b = false ∧ n = 0 ∧ ∀ (n9 : Nat) (D9 : Nat → Bool) (N9 A9 T9 : Nat → ByteArray), ¬ Hub.IsPath s n9 D9 N9 A9 T9)) := by
  rcases h with ⟨o, cap, n, D, N, A, T, rfl, hO, hp⟩ | ⟨rfl, hno⟩
  · exact ⟨o, cap, n, true, D, N, A, T, rfl, hO, Hub.path_five hp.2.1, .inl ⟨rfl, hp⟩⟩
  · exact ⟨none, 0, 0, false, fun _ => false, fun _ => ⟨#[]⟩, fun _ => ⟨#[]⟩, fun _ => ⟨#[]⟩, rfl, Hub.OwnL.nil _ _ _ _ _, by omega, .inr ⟨rfl, rfl, hno⟩⟩
theorem forms_same {s : ByteArray} {n n2 : Nat} {b b2 : Bool} {D D2 : Nat → Bool} {N A T N2 A2 T2 : Nat → ByteArray} (h1 : (b = true ∧ Hub.IsPath s n D N A T) ∨ (b = false ∧ n = 0 ∧ ∀ (n9 : Nat) (D9 : Nat → Bool) (N9 A9 T9 : Nat → ByteArray), ¬ Hub.IsPath s n9 D9 N9 A9 T9)) (h2 : (b2 = true ∧ Hub.IsPath s n2 D2 N2 A2 T2) ∨ (b2 = false ∧ n2 = 0 ∧ ∀ (n9 : Nat) (D9 : Nat → Bool) (N9 A9 T9 : Nat → ByteArray), ¬ Hub.IsPath s n9 D9 N9 A9 T9)) : b2 = b ∧ n2 = n ∧ Hub.Agree D2 D N2 A2 T2 N A T n2 := by
  rcases h1 with ⟨rfl, p1⟩ | ⟨rfl, rfl, q1⟩
  · rcases h2 with ⟨rfl, p2⟩ | ⟨rfl, rfl, q2⟩
    · obtain ⟨e, hag⟩ := p2.2.2.2.2 n D N A T p1.2.1 p1.2.2.1
      exact ⟨rfl, e, hag⟩
    · exact absurd p1 (q2 _ _ _ _ _)
  · rcases h2 with ⟨rfl, p2⟩ | ⟨rfl, rfl, q2⟩
    · exact absurd p2 (q1 _ _ _ _ _)
    · exact ⟨rfl, rfl, fun j hj => absurd hj (by omega)⟩
theorem own_as {W : World} {base n : Nat} {v : Value} {D D2 : Nat → Bool} {N A T N2 A2 T2 : Nat → ByteArray} (h : Hub.OwnS W base v n D2 N2 A2 T2) (ha : Hub.Agree D2 D N2 A2 T2 N A T n) : Hub.OwnS W base v n D N A T :=
  Hub.OwnL.congr h (fun j hj => by obtain ⟨e1, e2, e3, e4⟩ := ha j hj; simp only [Hub.stepC, e1, e2, e3, e4])
theorem away {v : Value} {base h : Nat} (H : ∀ q, v.ownBlock = some q → base ≤ q ∧ q < h) (u : Option Nat) (hu : ∀ q, u = some q → h ≤ q) : v.ownBlock = none ∨ v.ownBlock ≠ u := by
  cases hv : v.ownBlock with
  | none => exact .inl rfl
  | some q =>
    refine .inr (fun e => ?_)
    have h1 := (H q hv).2
    have h2 := hu q e.symm
    omega

set_option maxRecDepth 100000 in
set_option maxHeartbeats 4000000 in
theorem walk (s : ByteArray) (m : Int) (w : World) (ws : s.size ≤ maxLen) (hm : w.cell? ⟨0, 0, none⟩ = some (.int .i64 m)) :
    Calls Try.prog 3 #[.string s] w fun e w' => e = .returned (.bool true) ∧ Below w.heap.size w w' := by
  unfold maxLen at ws
  have HM : Hid (∀ W, Below w.heap.size w W → W.cell? ⟨0, 0, none⟩ = some (.int .i64 m)) := fun W bb => (bb.cell (p := ⟨0, 0, none⟩) (Hub.cell_lt hm)).trans hm
  clear hm
  by_cases hbig : (1048576 : Int) < (s.size : Int)
  · go_enter Try.func3, Try.ntmps3
    go_wp2_with fail
    go_ret
    exact ⟨rfl, Below.refl _ _⟩
  · have cS := Hub.specPathGet_any s (by omega) w
    have cI : Hid (∀ W, Below w.heap.size w W → _) := fun W hW => Hub.implPathGet_any s (by omega) m W (HM.out W hW)
    go_enter Try.func3, Try.ntmps3
    go_wp2_with fail
    go_fit cS
    rintro e w1 ⟨hp1, b1⟩
    obtain ⟨o1, c1, n, b, D, N, A, T, rfl, O1, n5, F1⟩ := path_form hp1
    have HO1 : Hid (Hub.OwnS w1 w.heap.size (.slice o1 n c1) n D N A T) := O1
    have HF1 : Hid (_ ∨ _) := F1
    clear hp1 O1 F1 cS
    go_wp2_with fail
    refine (cI.out w1 b1).mono ?_
    rintro e w2 ⟨hp2, b2⟩
    obtain ⟨o2, c2, n2, bb, D2, N2, A2, T2, rfl, O2, n52, F2⟩ := path_form hp2
    obtain ⟨rfl, rfl, hag⟩ := forms_same HF1.out F2
    have O2' := own_as O2 hag
    have HO2 : Hid (Hub.OwnS w2 w1.heap.size (.slice o2 n2 c2) n2 D N A T) := O2'
    have bw2 := b1.trans (b2.mono b1.size)
    have O12 := Hub.OwnL.below HO1.out b2
    have HO12 : Hid (Hub.OwnS w2 w.heap.size (.slice o1 n2 c1) n2 D N A T) := O12
    have L1 := Hub.OwnL.lt HO1.out
    have cE := Hub.eqStepS_same (.slice o2 n2 c2) (.slice o1 n2 c1) n2 D N A T w2 (Hub.OwnS.step O2') (Hub.OwnS.step O12)
    have hbb : (bb != bb) = false := bne_self_eq_false bb
    clear hp2 O2 O2' O12 F2 hag
    have HL1 : Hid _ := L1
    clear L1
    go_wp2_with (go_at_call 8; go_fit cE; rintro e w3 ⟨rfl, b3⟩)
    have bw3 := bw2.trans (b3.mono bw2.size)
    have O23 := Hub.OwnL.below HO2.out b3
    have HO13 : Hid (Hub.OwnS w3 w.heap.size (.slice o1 n2 c1) n2 D N A T) := Hub.OwnL.below HO12.out b3
    have cM := Hub.markStepS_any w1.heap.size (.slice o2 n2 c2) n2 1 D N A T w3 O23 (by omega) (by omega)
    obtain ⟨Q, hQ⟩ : ∃ Q : Int, ((1 + 4 * n2 : Nat) : Int) = Q := ⟨_, rfl⟩
    have HQ : Hid (((1 + 4 * n2 : Nat) : Int) = Q) := hQ
    have hQ0 : ¬ Q < 0 := by omega
    have hQQ : (Q != Q) = false := bne_self_eq_false Q
    rw [hQ] at cM
    have HL2 : Hid _ := Hub.OwnL.lt O23
    clear O23 cE hQ
    go_fit cM
    rintro e w4 ⟨rfl, O4, gr⟩
    have HO4 : Hid (Hub.OwnS w4 w1.heap.size (.slice o2 n2 c2) n2 _ _ _ _) := O4
    have HO14 : Hid (Hub.OwnS w4 w.heap.size (.slice o1 n2 c1) n2 D N A T) := Hub.OwnL.kept HO13.out gr (away HL1.out _ (fun q hq => (HL2.out q hq).1))
    have bw4 : Below w.heap.size w w4 := bw3.grown gr bw3.size (fun q hq => Nat.le_trans b1.size (HL2.out q hq).1)
    have HH : Hid (∀ W, Below w4.heap.size w4 W → Calls Try.prog 10 #[.slice o2 n2 c2, .int .i64 1] W fun e w' => e = .returned (.int .i64 Q) ∧ Below W.heap.size W w') := fun W bb => by
      have h := Hub.heldStepS_any (.slice o2 n2 c2) n2 1 W (Hub.OwnS.step (Hub.OwnL.below HO4.out bb)) (by omega) (by omega)
      rw [HQ.out] at h
      exact h
    clear O4 cM gr
    go_wp2_with fail
    refine (HH.out w4 (Below.refl _ _)).mono ?_
    rintro e w5 ⟨rfl, b5⟩
    have bw5 := bw4.trans (b5.mono bw4.size)
    go_wp2_with fail
    refine (cI.out w5 bw5).mono ?_
    rintro e w6 ⟨hp6, b6⟩
    obtain ⟨o6, c6, n6, bb6, D6, N6, A6, T6, rfl, O6, n56, F6⟩ := path_form hp6
    obtain ⟨rfl, rfl, hag⟩ := forms_same HF1.out F6
    have O6' := own_as O6 hag
    have bw6 := bw5.trans (b6.mono bw5.size)
    have b46 : Below w4.heap.size w4 w6 := b5.trans (b6.mono b5.size)
    have O16 := Hub.OwnL.below HO14.out b46
    have cE := Hub.eqStepS_same (.slice o6 n6 c6) (.slice o1 n6 c1) n6 D N A T w6 (Hub.OwnS.step O6') (Hub.OwnS.step O16)
    clear hp6 O6 O6' O16 F6 hag
    go_wp2_with (go_at_call 8; go_fit cE; rintro e w7 ⟨rfl, b7⟩)
    have bw7 := bw6.trans (b7.mono bw6.size)
    have b47 : Below w4.heap.size w4 w7 := b46.trans (b7.mono b46.size)
    refine (HH.out w7 b47).mono ?_
    rintro e w8 ⟨rfl, b8⟩
    go_wp2_with fail
    go_ret
    exact ⟨rfl, bw7.trans (b8.mono bw7.size)⟩

theorem own : ownKnob Try.prog.godebug = none := by kernel_rfl
theorem laidOut : laidOutB Try.prog = true := by kernel_rfl
set_option maxRecDepth 100000 in
theorem lifted (os : Os) (started : os.Started) (H : Type) (enc : TypeId × Value → H) :
    ReturnsInHanded {} Try.checked os 3 .any (Rows.fnExactPathGetSpec.pre6 enc Try.prog Try.f3 Rows.fnExactPathGetRow.domain false) (Rows.fnExactPathGetSpec.post enc Try.prog Try.f3 false true false false) := by
  refine returnsInHanded_of_change_shaped (C := Try.checked) own started (by kernel_rfl) Try.func3
    (ChangeSpec.witness6 (enc := enc) (C := Try.checked) false ⟨#[], #[.string ByteArray.empty], []⟩ 8 (by kernel_rfl) (by kernel_rfl) (by kernel_rfl) (by kernel_rfl)) ?_
  intro W base args ds gs before hval0 hW hcnd _ hsh _
  have hval : ∀ (j : Nat) t v, Try.f3.params[j]? = some t → args[j]? = some v → Value.okWide Try.prog W .any base t v := hval0
  have hW' := hW
  obtain ⟨p, q, hA0, hV, rfl, hfz, hnd⟩ := hW
  have hA : DataW.TrodAll enc Try.prog W 0 (fun _ => true) true Try.f3.params.toList args.toList ds p := hA0
  rw [Try.params3] at hA hval
  obtain ⟨v0, vs0, d0, ds0, p0, q_0, hargs, rfl, rfl, h0, r0⟩ := trodAll_cons hA
  obtain ⟨rfl, rfl, rfl⟩ := trodAll_nil r0
  obtain rfl : args = #[v0] := by cases args; simp_all
  obtain ⟨rfl, rfl⟩ := trodVars_none hV
  obtain ⟨a0, e0, _, _, w0⟩ := open_string Try.underlying9 (hval 0 9 v0 rfl rfl) h0
  subst e0
  clear hA0 hval0
  simp only [List.append_nil] at hW'
  have hlt0 := hW'.lt
  obtain ⟨mx, hmx⟩ := Try.maxLen_some W hsh
  refine (walk a0 mx W w0 hmx).mono fun e W' ⟨he, bel⟩ => ?_
  subst he
  exact ⟨_, rfl, _, _, _, [], _, [], hW', trodAll_mk1 (shut_bool Try.underlying4 _), (trodAll_cons_mk (Below.trod laidOut (by kernel_rfl) (of_decide_eq_true (by kernel_rfl)) h0 bel (fun x hx => hlt0 x (by simp [hx]))) trodAll_mk0), rfl, bel.frame _, fun h => by cases h⟩

theorem over : Rows.fnExactPathGetRow.holds Try.pinned (OpenSpec.ofChange Rows.fnExactPathGetSpec) :=
  OpenClaim.holds_of_wide 3 Try.f3 rfl rfl rfl rfl rfl rfl rfl ⟨rfl, rfl, rfl, rfl, rfl⟩ rfl rfl rfl rfl rfl (by kernel_rfl) Try.func3 (by kernel_rfl)
    (of_decide_eq_true (by kernel_rfl)) (by unfold Func.isWrapper; first | (rw [if_pos (by decide +kernel)]; kernel_rfl) | (rw [if_neg (by decide +kernel)]; exact ⟨rfl, rfl⟩))
    (fun os started H enc _ => lifted os started H enc)
theorem proved : Rows.FnExactPathGetSaid := over
#print axioms proved
end Go.Proofs.Ytocpbcghkphcgaa.fnExactPathGet

namespace Go.Proofs.Ytocpbcghkphcgaa
/-- The statement. -/
theorem fnExactPathGet_holds : Rows.FnExactPathGetSaid := fnExactPathGet.proved
end Go.Proofs.Ytocpbcghkphcgaa
