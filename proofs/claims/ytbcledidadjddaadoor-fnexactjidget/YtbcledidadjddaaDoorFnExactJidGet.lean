/-
  For every text the law FnExactJidGet returns true: impl.JidGet answers as spec.JidGet, field by field. Its condition: the two tables of unicode/utf8 are as the library's text lays them (the card ties them to the program's text); the law itself passes texts of more than 1048576 bytes by.
-/
import Derived.Test.YtbcledidadjddaaDoorRows
import Derived.Test.YtbcledidadjddaaDoorTie
import Derived.Test.YtbcledidadjddaaDoorCards
import Derived.Test.YtbcledidadjddaaDoorJidGetB
import Derived.Lib.LaidU8T
import Derived.PinnedBridge
import Derived.ProofKit
import Derived.OpenShut
import Derived.ShutString
import Derived.LaidMore
import Derived.Lay
import Derived.SevenTiedAt
import Derived.Stop.Joined
namespace Go.Proofs.YtbcledidadjddaaDoor.fnExactJidGet
open Go.ChangeShapes Go.WideShapes Go.ChangeAt Go.RowKit Go.Shelf
open Go.ChangeMaps (open_string shut_string)
set_option linter.unusedVariables false

set_option maxRecDepth 100000 in
set_option maxHeartbeats 2000000 in
theorem walk (s : ByteArray) (ws : s.size ≤ maxLen) (w : World) (hT : Hub.Tabs w) :
    Calls Tryd.prog 5 #[.string s] w fun e w' => e = .returned (.bool true) ∧ Below w.heap.size w w' := by
  unfold maxLen at ws
  by_cases hbig : (1048576 : Int) < (s.size : Int)
  · go_enter Tryd.func5, Tryd.ntmps5
    go_wp2_with fail
    go_ret
    exact ⟨rfl, Below.refl _ _⟩
  · have hS := Hub.specJidGet_any s w (by omega)
    have hI := fun W hT => Hub.jidGet_any s W hT (by omega)
    obtain ⟨x, y, z, b, hv⟩ := Hub.jgetV_shape s
    rw [hv] at hS hI
    clear hv
    go_enter Tryd.func5, Tryd.ntmps5
    go_wp2_with fail
    go_fit hS
    rintro e W1 ⟨rfl, b1⟩
    have t2 := Hub.three_new W1 x y z
    have b2 : Below W1.heap.size W1 (W1.alloc (.cells #[.string x, .string y, .string z] 26)) := (Below.refl _ W1).alloc (Nat.le_refl _) _
    have c2 := b1.trans (b2.mono b1.size)
    go_wp2_with fail
    go_fit (hI _ (Utf8Tabs_below hT c2))
    rintro e W3 ⟨rfl, b3⟩
    have c3 := c2.trans (b3.mono c2.size)
    have t3 := t2.below b3
    have t4 := Hub.three_new W3 x y z
    have b4 : Below W3.heap.size W3 (W3.alloc (.cells #[.string x, .string y, .string z] 26)) := (Below.refl _ W3).alloc (Nat.le_refl _) _
    have c4 := c3.trans (b4.mono c3.size)
    have t5 := t3.below b4
    have m0 := t5.c0
    have m1 := t5.c1
    have m2 := t5.c2
    have n0 := t3.c0
    have n1 := t3.c1
    have n2 := t3.c2
    clear t2 hS hI t4
    cases b
    all_goals
      go_wp2_with fail
      go_fit (Hub.eqJid_same x y z _)
      rintro e W6 ⟨rfl, b6⟩
      go_wp2_with fail
      go_ret
      exact ⟨rfl, c4.trans (b6.mono c4.size)⟩

theorem own : ownKnob Tryd.prog.godebug = none := by kernel_rfl
theorem tabs_of {W : World} (h : laidMetH Tryd.prog Rows.fnExactJidGetRow.laid W) : Hub.Tabs W := by
  rw [MakeChecks.laidMetH_plain _ _ _ (by kernel_rfl)] at h
  have e1 : Rows.laid_unicode_utf8_acceptRanges = Lib.acceptData := by kernel_rfl
  have e2 : Rows.laid_unicode_utf8_first = Lib.firstData := Pinned.utf8First_eq
  have r1 := Lib.laidMet.reads h (.head _)
  have r2 := Lib.laidMet.reads h (.tail _ (.head _))
  rw [e1] at r1
  rw [e2] at r2
  exact utf8Tabs_of_readsT (U8Types.of196 Tryd.lays196) ⟨by kernel_rfl, by kernel_rfl, by kernel_rfl, by kernel_rfl, by kernel_rfl, by kernel_rfl, by kernel_rfl⟩ r2 r1

theorem laidOut : laidOutB Tryd.prog = true := by kernel_rfl
set_option maxRecDepth 100000 in
theorem lifted (os : Os) (started : os.Started) (H : Type) (enc : TypeId × Value → H) :
    ReturnsInHanded {} Tryd.checked os 5 .any (fun w args => (Rows.fnExactJidGetSpec.pre enc Tryd.prog Tryd.f5 Rows.fnExactJidGetRow.domain false w args ∧ laidMetH Tryd.prog Rows.fnExactJidGetRow.laid w) ∧ sizedMet enc Tryd.prog Tryd.f5 (OpenSpec.ofChange Rows.fnExactJidGetSpec) false w args)
      (Rows.fnExactJidGetSpec.post enc Tryd.prog Tryd.f5 false true false false) := by
  refine returnsInHanded_of_change_and (C := Tryd.checked) (X := fun w _ => laidMetH Tryd.prog Rows.fnExactJidGetRow.laid w) (fun _ _ _ hh h => h.of_heap hh) own started (by kernel_rfl) Tryd.func5
    (ChangeSpec.witness_shaped (enc := enc) (C := Tryd.checked) (os := os) (X := fun w _ => laidMetH Tryd.prog Rows.fnExactJidGetRow.laid w) false (World.laidAll Tryd.prog os Rows.fnExactJidGetRow.laid) #[.string ByteArray.empty] 8 (World.laidAll_os _ _ _)
      (World.shaped_of_ZipB (by kernel_rfl) (by kernel_rfl)) (by kernel_rfl) (by kernel_rfl) (by kernel_rfl)
      (by rw [MakeChecks.laidMetH_plain _ _ _ (by kernel_rfl)]; exact laidMet_laidAll _ (by kernel_rfl) (by kernel_rfl))) ?_
  intro W base args ds gs before hval0 hW hc _ hL _
  have hval : ∀ (j : Nat) t v, Tryd.f5.params[j]? = some t → args[j]? = some v → Value.okWide Tryd.prog W .any base t v := hval0
  have hW' := hW
  obtain ⟨p, q, hA0, hV, rfl, _, _⟩ := hW
  have hA : DataW.TrodAll enc Tryd.prog W 0 (fun _ => true) true Tryd.f5.params.toList args.toList ds p := hA0
  rw [Tryd.params5] at hA hval
  obtain ⟨v0, d0, rfl, rfl, h0⟩ := trodAll_one hA
  obtain ⟨rfl, rfl⟩ := trodVars_none hV
  obtain ⟨a0, e0, _, _, w0⟩ := open_string Tryd.underlying9 (hval 0 9 v0 rfl rfl) h0
  subst e0
  simp only [List.append_nil] at hW'
  have hlt0 : ∀ x ∈ p, x.block < W.heap.size := fun x hx => by simpa using hW'.lt x hx
  refine (walk a0 w0 W (tabs_of hL)).mono fun e W' ⟨he, bel⟩ => ?_
  subst he
  exact ⟨_, rfl, _, _, _, [], _, [], hW', trodAll_mk1 (shut_bool Tryd.underlying4 _), trodAll_mk1 (Below.trod laidOut (by kernel_rfl) (of_decide_eq_true (by kernel_rfl)) h0 bel hlt0), rfl, bel.frame _, fun h => by cases h⟩

theorem holds : Rows.FnExactJidGetSaid :=
  OpenClaim.holds_of_wide 5 Tryd.f5 rfl rfl rfl rfl rfl rfl rfl ⟨rfl, rfl, rfl, rfl, rfl⟩ rfl rfl rfl rfl rfl (by kernel_rfl) Tryd.func5 (by kernel_rfl)
    (of_decide_eq_true (by kernel_rfl)) (by unfold Func.isWrapper; first | (rw [if_pos (by decide +kernel)]; kernel_rfl) | (rw [if_neg (by decide +kernel)]; exact ⟨rfl, rfl⟩))
    (fun os started H enc _ => lifted os started H enc)
theorem card_holds : Rows.FnExactJidGetCardSaid :=
  Claim7.holds_tied_plain_at .later [] [.data, .pinned] true (true, "2c93e48e31472343b9645471d6c77de7fbf8e0c93548de290039ea0ebadd93e6") true holds (fun _ h => by cases h) (by kernel_rfl) (fun _ h => by cases h) fnExactJidGet_row_tie rfl ⟨rfl, rfl⟩ (by kernel_rfl) rfl
    (fun f fn hf hfn => by
      obtain rfl : f = 5 := Option.some.inj ((show Tryd.prog.funcNamed Rows.fnExactJidGetRow.func = some 5 by kernel_rfl).symm.trans hf) |>.symm
      obtain rfl : fn = Tryd.f5 := (Option.some.inj (Tryd.func5.symm.trans hfn)).symm
      exact ⟨by kernel_rfl, fun j t ht => by
        rw [Tryd.params5] at ht
        have hm : t ∈ [9] := by simpa using Array.mem_of_getElem? ht
        have hall : ([9].all fun u => !Tryd.prog.wantsStandIn u) = true := by kernel_rfl
        exact (show Tryd.prog.wantsStandIn t = false by simpa using List.all_eq_true.1 hall t hm)⟩)
    (by kernel_rfl)
#print axioms card_holds
end Go.Proofs.YtbcledidadjddaaDoor.fnExactJidGet

namespace Go.Proofs.YtbcledidadjddaaDoor
/-- The statement. -/
theorem fnExactJidGet_card : Rows.FnExactJidGetCardSaid := fnExactJidGet.card_holds
end Go.Proofs.YtbcledidadjddaaDoor
