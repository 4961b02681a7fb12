/-
  For every line the law FnExactLineSent returns true: impl.LineSent answers as spec.LineSent, and leaves the line as it was. No condition: the law itself passes lines whose texts have more than 1048576 bytes and places together by.
-/
import Derived.Test.YtpicccdlaiaemabRows
import Derived.Test.YtpicccdlaiaemabArgLine
import Derived.Test.YtpicccdlaiaemabLineSent
import Derived.ProofKit
import Derived.OpenShut
import Derived.ShutString
import Derived.Carry
namespace Go.Proofs.Ytpicccdlaiaemab.fnExactLineSent
open Go.ChangeShapes Go.WideShapes Go.ChangeAt Go.RowKit
open Go.ChangeMaps (open_string shut_string)
set_option linter.unusedVariables false

set_option maxRecDepth 100000 in
set_option maxHeartbeats 4000000 in
theorem walk (b g : Int) (o : Bool) (q : Value) (n : Nat) (S : Nat → ByteArray) (w : World) (hm : Hub.StrAt w q n S) (hs : ∀ j, j < n → (S j).size ≤ maxLen) (rb : -9223372036854775808 ≤ b ∧ b ≤ 9223372036854775807) (rg : -9223372036854775808 ≤ g ∧ g ≤ 9223372036854775807) :
    Calls Try.prog 5 #[Hub.lineV b q g o] w fun e w' => e = .returned (.bool true) ∧ Below w.heap.size w w' := by
  unfold maxLen at hs
  obtain ⟨o1, c1, rfl⟩ := hm.shape
  obtain ⟨W1, hW1⟩ : ∃ W1, W1 = w.alloc (.cells #[.int .i64 b, .slice o1 n c1, .int .i64 g, .bool o] 24) := ⟨_, rfl⟩
  obtain ⟨B, hB0⟩ : ∃ B, B = w.heap.size := ⟨_, rfl⟩
  have c0 : Below w.heap.size w W1 := by rw [hW1]; exact Hub.below_alloc w _
  have hw0 : B < W1.heap.size := by rw [hW1, hB0]; simp
  have NEW : Hid (∀ W : World, Below W1.heap.size W1 W → W.cell? ⟨B, 0, none⟩ = some (.int .i64 b) ∧ W.cell? ⟨B, 1, none⟩ = some (.slice o1 n c1) ∧ W.cell? ⟨B, 2, none⟩ = some (.int .i64 g) ∧ W.cell? ⟨B, 3, none⟩ = some (.bool o)) := fun W bb => by
    have q : ∀ i, W.cell? ⟨B, i, none⟩ = (#[.int .i64 b, .slice o1 n c1, .int .i64 g, .bool o] : Array Value)[i]? := fun i => (bb.cell (p := ⟨B, i, none⟩) hw0).trans (by rw [hW1, hB0]; exact Hub.line_cell w _ _ i)
    exact ⟨q 0, q 1, q 2, q 3⟩
  have hm1 := hm.below c0
  have cS := Hub.szLine_any b g o (.slice o1 n c1) n S W1 hm1 (fun j hj => by have := hs j hj; omega)
  have HM : Hid (Hub.StrAt W1 (.slice o1 n c1) n S) := hm1
  clear hm hm1
  go_enter Try.func5, Try.ntmps5
  go_wp2_with fail
  rw [← hW1, ← hB0]
  clear hW1 hB0
  go_fit cS
  clear cS
  rintro e w2 ⟨⟨y, rfl, hy⟩, b2⟩
  obtain ⟨x0, x1, x2, x3⟩ := NEW.out w2 b2
  rcases hy with hy | ⟨hy, s0, s1⟩
  · go_wp2_with fail
    go_ret
    exact ⟨rfl, c0.trans (b2.mono c0.size)⟩
  have hy' : ¬ y < 0 := by omega
  have HS : Hid (∀ j, j < n → (S j).size ≤ 9223372036854775807) := fun j hj => by have := s1 j hj; omega
  have hn : n ≤ 1048576 := by omega
  have TO := fun W (bb : Below W1.heap.size W1 W) => Hub.toLine_any b g o (.slice o1 n c1) n S W (HM.out.below bb) hn
  clear s1 hs
  go_wp2_with fail
  go_fit (TO w2 b2)
  rintro e w3 ⟨⟨q3, rfl, hm3, _⟩, b3⟩
  have d3 := b2.trans (b3.mono b2.size)
  have cP := Hub.specLineSent_any b g o q3 n S w3 hm3 hn HS.out
  clear hm3
  obtain ⟨F, hF⟩ : ∃ F, Hub.sentT b g o n S = F := ⟨_, rfl⟩
  have HF : Hid (Hub.sentT b g o n S = F) := hF
  rw [hF] at cP
  clear hF x0 x1 x2 x3
  go_wp2_with fail
  go_fit cP
  rintro e w4 ⟨rfl, b4⟩
  have d4 := d3.trans (b4.mono d3.size)
  clear cP
  obtain ⟨x0, x1, x2, x3⟩ := NEW.out w4 d4
  go_wp2_with fail
  go_fit (TO w4 d4)
  rintro e w5 ⟨⟨q5, rfl, hm5, _⟩, b5⟩
  have d5 := d4.trans (b5.mono d4.size)
  have HM5 : Hid (Hub.StrAt w5 q5 n S) := hm5
  obtain ⟨o5, c5, rfl⟩ := hm5.shape
  clear hm5
  obtain ⟨W6, hW6⟩ : ∃ W6, W6 = w5.alloc (.cells #[.int .i64 b, .slice o5 n c5, .int .i64 g, .bool o] 27) := ⟨_, rfl⟩
  obtain ⟨M, hM0⟩ : ∃ M, M = w5.heap.size := ⟨_, rfl⟩
  have b6 : Below w5.heap.size w5 W6 := by rw [hW6]; exact Hub.below_alloc w5 _
  have hM6 : M < W6.heap.size := by rw [hW6, hM0]; simp
  have d6 := d5.trans (b6.mono d5.size)
  have BOTH : Hid (∀ W : World, Below W6.heap.size W6 W → (W.cell? ⟨M, 0, none⟩ = some (.int .i64 b) ∧ W.cell? ⟨M, 1, none⟩ = some (.slice o5 n c5) ∧ W.cell? ⟨M, 2, none⟩ = some (.int .i64 g) ∧ W.cell? ⟨M, 3, none⟩ = some (.bool o)) ∧ W.cell? ⟨B, 0, none⟩ = some (.int .i64 b) ∧ W.cell? ⟨B, 1, none⟩ = some (.slice o1 n c1) ∧ W.cell? ⟨B, 2, none⟩ = some (.int .i64 g) ∧ W.cell? ⟨B, 3, none⟩ = some (.bool o)) := fun W bb => by
    have q : ∀ i, W.cell? ⟨M, i, none⟩ = (#[.int .i64 b, .slice o5 n c5, .int .i64 g, .bool o] : Array Value)[i]? := fun i => (bb.cell (p := ⟨M, i, none⟩) hM6).trans (by rw [hW6, hM0]; exact Hub.line_cell w5 _ _ i)
    exact ⟨⟨q 0, q 1, q 2, q 3⟩, NEW.out W (d6.trans (bb.mono d6.size))⟩
  have cI := Hub.lineSent_any b g o (.slice o5 n c5) n S W6 (HM5.out.below b6) hn HS.out
  rw [HF.out] at cI
  have HM6 : Hid (Hub.StrAt W6 (.slice o5 n c5) n S) := HM5.out.below b6
  clear HM5 x0 x1 x2 x3
  obtain ⟨x0, x1, x2, x3⟩ := NEW.out w4 d4
  go_wp2_with fail
  rw [← hW6, ← hM0]
  clear hW6 hM0 b6 x0 x1 x2 x3
  go_fit cI
  rintro e w7 ⟨rfl, b7⟩
  have d7 := d6.trans (b7.mono d6.size)
  clear cI HF
  have hFF : (F != F) = false := bne_self_eq_false F
  go_wp2_with fail
  refine wp_region_held_drew (S := (fun W => (W.cell? ⟨M, 0, none⟩ = some (.int .i64 b) ∧ W.cell? ⟨M, 1, none⟩ = some (.slice o5 n c5) ∧ W.cell? ⟨M, 2, none⟩ = some (.int .i64 g) ∧ W.cell? ⟨M, 3, none⟩ = some (.bool o)) ∧ W.cell? ⟨B, 0, none⟩ = some (.int .i64 b) ∧ W.cell? ⟨B, 1, none⟩ = some (.slice o1 n c1) ∧ W.cell? ⟨B, 2, none⟩ = some (.int .i64 g) ∧ W.cell? ⟨B, 3, none⟩ = some (.bool o))) (by kernel_rfl) ?_ (fun hHeld => ?_)
  · exact BOTH.out _ b7.drew
  refine wpAnyH_take (i := 0) (v := ?_) rfl (by kernel_rfl) (by kernel_rfl) (by kernel_rfl) (fun _ _ _ h => h) (Or.inl ⟨by rfl, ?takeYx0⟩) (by assumption) ?takeRx0
  case takeYx0 => (intro w hSw; (try dsimp only at hSw); go_simp; try (with_reducible rfl))
  simp only [Act.put, List.setIfInBounds_toArray, List.set_cons_zero, List.set_cons_succ, List.getElem_toArray, List.getElem_cons_zero]
  refine wpAnyH_take (i := 1) (v := ?_) rfl (by kernel_rfl) (by kernel_rfl) (by kernel_rfl) (fun _ _ _ h => h) (Or.inl ⟨by rfl, ?takeYx1⟩) (by assumption) ?takeRx1
  case takeYx1 => (intro w hSw; (try dsimp only at hSw); go_simp; try (with_reducible rfl))
  simp only [Act.put, List.setIfInBounds_toArray, List.set_cons_zero, List.set_cons_succ, List.getElem_toArray, List.getElem_cons_zero, List.getElem_cons_succ]
  refine wpAnyH_ready (rs := [2]) (by kernel_rfl) (by simp) ?_
  refine AllReadyH.cons rfl (fun K hK => ?_) AllReadyH.nil
  go_simp
  refine (TO _ d7.drew).mono ?_
  rintro e w8 ⟨⟨q8, rfl, hm8, _⟩, p8⟩
  have b8 : Below W6.heap.size W6 w8 := b7.drew.trans (p8.mono b7.drew.size)
  have cE := Hub.eqLine_same b g o (.slice o5 n c5) q8 n S w8 (HM6.out.below b8) hm8
  clear hm8
  go_wp2_with fail
  refine hK.out _ _ (BOTH.out w8 b8) (fun hHeldx2 => ?_)
  clear hK K
  try simp only [Act.put, List.setIfInBounds_toArray, List.set_cons_zero, List.set_cons_succ, List.getElem_toArray, List.getElem_cons_zero, List.getElem_cons_succ]
  refine wpAnyH_ready (rs := [3]) (by kernel_rfl) (by simp) ?_
  refine AllReadyH.cons rfl (fun K hK => ?_) AllReadyH.nil
  go_simp
  refine (cE).mono ?_
  rintro e w9 ⟨rfl, p9⟩
  have b9 : Below W6.heap.size W6 w9 := b8.trans (p9.mono b8.size)
  go_wp2_with fail
  refine hK.out _ _ (BOTH.out w9 b9) (fun hHeldx3 => ?_)
  clear hK K
  try simp only [Act.put, List.setIfInBounds_toArray, List.set_cons_zero, List.set_cons_succ, List.getElem_toArray, List.getElem_cons_zero, List.getElem_cons_succ]
  refine wpAnyH_take (i := 4) (v := ?_) rfl (by kernel_rfl) (by kernel_rfl) (by kernel_rfl) (fun _ _ _ h => h) (Or.inl ⟨by rfl, ?takeYx4⟩) (by assumption) ?takeRx4
  case takeYx4 => (intro w hSw; (try dsimp only at hSw); go_simp; try (with_reducible rfl))
  simp only [Act.put, List.setIfInBounds_toArray, List.set_cons_zero, List.set_cons_succ, List.getElem_toArray, List.getElem_cons_zero, List.getElem_cons_succ]
  refine wpAnyH_done (by kernel_rfl) ?_ _
  go_wp2_with fail
  go_ret
  exact ⟨rfl, c0.trans ((d6.trans (b9.mono d6.size)).mono c0.size)⟩

theorem own : ownKnob Try.prog.godebug = none := by kernel_rfl
theorem laidOut : laidOutB Try.prog = true := by kernel_rfl
set_option maxRecDepth 100000 in
theorem lifted (os : Os) (started : os.Started) (H : Type) (enc : TypeId × Value → H) :
    ReturnsInHanded {} Try.checked os 5 .any (Rows.fnExactLineSentSpec.pre6 enc Try.prog Try.f5 Rows.fnExactLineSentRow.domain false) (Rows.fnExactLineSentSpec.post enc Try.prog Try.f5 false true false false) := by
  refine returnsInHanded_of_change (C := Try.checked) own started (by kernel_rfl) Try.func5
    (ChangeSpec.witness6 (enc := enc) (C := Try.checked) false ⟨#[], #[.agg #[.int .i64 0, .slice none 0 0, .int .i64 0, .bool false]], []⟩ 8 (by kernel_rfl) (by kernel_rfl) (by kernel_rfl) (by kernel_rfl)) ?_
  intro W base args ds gs before hval0 hW hcnd _
  have hval : ∀ (j : Nat) t v, Try.f5.params[j]? = some t → args[j]? = some v → Value.okWide Try.prog W .any base t v := hval0
  have hW' := hW
  obtain ⟨p, q, hA0, hV, rfl, hfz, hnd⟩ := hW
  have hA : DataW.TrodAll enc Try.prog W 0 (fun _ => true) true Try.f5.params.toList args.toList ds p := hA0
  rw [Try.params5] at hA hval
  obtain ⟨v0, vs0, d0, ds0, p0, q_0, hargs, rfl, rfl, h0, r0⟩ := trodAll_cons hA
  obtain ⟨rfl, rfl, rfl⟩ := trodAll_nil r0
  obtain rfl : args = #[v0] := by cases args; simp_all
  obtain ⟨rfl, rfl⟩ := trodVars_none hV
  obtain ⟨b0, g0, o0, q0, k0, S0, e0, hq0, hw0, rb0, rg0⟩ := Hub.open_line (hval 0 24 v0 rfl rfl) h0
  subst e0
  clear hA0 hval0
  simp only [List.append_nil] at hW'
  have hlt0 := hW'.lt
  refine (walk b0 g0 o0 q0 k0 S0 W hq0 hw0 rb0 rg0).mono fun e W' ⟨he, bel⟩ => ?_
  subst he
  exact ⟨_, rfl, _, _, _, [], _, [], hW', trodAll_mk1 (shut_bool Try.underlying4 _), (trodAll_cons_mk (Below.trod laidOut (by kernel_rfl) (of_decide_eq_true (by kernel_rfl)) h0 bel (fun x hx => hlt0 x (by simp [hx]))) trodAll_mk0), rfl, bel.frame _, fun h => by cases h⟩

theorem over : Rows.fnExactLineSentRow.holds Try.pinned (OpenSpec.ofChange Rows.fnExactLineSentSpec) :=
  OpenClaim.holds_of_wide 5 Try.f5 rfl rfl rfl rfl rfl rfl rfl ⟨rfl, rfl, rfl, rfl, rfl⟩ rfl rfl rfl rfl rfl (by kernel_rfl) Try.func5 (by kernel_rfl)
    (of_decide_eq_true (by kernel_rfl)) (by unfold Func.isWrapper; first | (rw [if_pos (by decide +kernel)]; kernel_rfl) | (rw [if_neg (by decide +kernel)]; exact ⟨rfl, rfl⟩))
    (fun os started H enc _ => lifted os started H enc)
theorem proved : Rows.FnExactLineSentSaid := over
#print axioms proved
end Go.Proofs.Ytpicccdlaiaemab.fnExactLineSent

namespace Go.Proofs.Ytpicccdlaiaemab
/-- The statement. -/
theorem fnExactLineSent_holds : Rows.FnExactLineSentSaid := fnExactLineSent.proved
end Go.Proofs.Ytpicccdlaiaemab
