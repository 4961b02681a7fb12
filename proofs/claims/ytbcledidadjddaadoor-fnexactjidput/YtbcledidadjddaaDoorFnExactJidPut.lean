/-
  For every address the law FnExactJidPut returns true: impl.JidPut answers as spec.JidPut. Its condition: the two tables of unicode/utf8 are as the library's text lays them (the card ties them to the program's text); the law itself passes addresses whose texts have more than 1048576 bytes together by.
-/
import Derived.Test.YtbcledidadjddaaDoorRows
import Derived.Test.YtbcledidadjddaaDoorTie
import Derived.Test.YtbcledidadjddaaDoorCards
import Derived.Test.YtbcledidadjddaaDoorJidPut
import Derived.Lib.LaidU8T
import Derived.Lib.SmallJoins
import Derived.PinnedBridge
import Derived.ProofKit
import Derived.OpenShut
import Derived.ShutString
import Derived.LaidMore
import Derived.Lay
import Derived.SevenTiedAt
import Derived.Stop.Joined
namespace Go.Proofs.YtbcledidadjddaaDoor.fnExactJidPut
open Go.ChangeShapes Go.WideShapes Go.ChangeAt Go.RowKit Go.Shelf
open Go.ChangeMaps (open_string shut_string)
set_option linter.unusedVariables false

set_option maxRecDepth 100000 in
set_option maxHeartbeats 2000000 in
theorem walk (u h n : ByteArray) (wu : u.size ≤ maxLen) (wh : h.size ≤ maxLen) (wn : n.size ≤ maxLen) (w : World) (hT : Hub.Tabs w) :
    Calls Tryd.prog 4 #[.agg #[.string u, .string h, .string n]] w fun e w' => e = .returned (.bool true) ∧ Below w.heap.size w w' := by
  unfold maxLen at wu wh wn
  obtain ⟨W1, hW1⟩ : ∃ W1, W1 = w.alloc (.cells #[.string u, .string h, .string n] 23) := ⟨_, rfl⟩
  have c0 : Below w.heap.size w W1 := by rw [hW1]; exact (Below.refl _ w).alloc (Nat.le_refl _) _
  have q0 : W1.cell? ⟨w.heap.size, 0, none⟩ = some (.string u) := by rw [hW1]; exact (Hub.cell_lit w _ _ 0).trans rfl
  have q1 : W1.cell? ⟨w.heap.size, 1, none⟩ = some (.string h) := by rw [hW1]; exact (Hub.cell_lit w _ _ 1).trans rfl
  have q2 : W1.cell? ⟨w.heap.size, 2, none⟩ = some (.string n) := by rw [hW1]; exact (Hub.cell_lit w _ _ 2).trans rfl
  have hlt : w.heap.size < W1.heap.size := by rw [hW1]; simp
  have box : ∀ W : World, Below W1.heap.size W1 W → W.cell? ⟨w.heap.size, 0, none⟩ = some (.string u) ∧ W.cell? ⟨w.heap.size, 1, none⟩ = some (.string h) ∧ W.cell? ⟨w.heap.size, 2, none⟩ = some (.string n) := fun W b =>
    ⟨(b.cell (p := ⟨w.heap.size, 0, none⟩) hlt).trans q0, (b.cell (p := ⟨w.heap.size, 1, none⟩) hlt).trans q1, (b.cell (p := ⟨w.heap.size, 2, none⟩) hlt).trans q2⟩
  have BOX : Hid (∀ W : World, Below W1.heap.size W1 W → W.cell? ⟨w.heap.size, 0, none⟩ = some (.string u) ∧ W.cell? ⟨w.heap.size, 1, none⟩ = some (.string h) ∧ W.cell? ⟨w.heap.size, 2, none⟩ = some (.string n)) := box
  clear box
  go_enter Tryd.func4, Tryd.ntmps4
  go_wp2_with fail
  rw [← hW1]
  clear hW1
  refine (Hub.szJid_any u h n W1 (by omega) (by omega) (by omega)).mono ?_
  rintro e w2 ⟨⟨k, rfl, hk⟩, b2⟩
  obtain ⟨x0, x1, x2⟩ := BOX.out w2 b2
  rcases hk with hk | ⟨hk, hsz⟩
  · go_wp2_with fail
    go_ret
    exact ⟨rfl, c0.trans (b2.mono c0.size)⟩
  · have hk' : ¬ k < 0 := by omega
    go_wp2_with fail
    refine (Hub.toJid_any u h n w2).mono ?_
    rintro e w3 ⟨rfl, b3⟩
    have c3 := b2.trans (b3.mono b2.size)
    go_wp2_with fail
    refine (Hub.specJidPut_any u h n w3 (by omega) (by omega) (by omega)).mono ?_
    rintro e w4 ⟨rfl, b4⟩
    have c4 := c3.trans (b4.mono c3.size)
    obtain ⟨y0, y1, y2⟩ := BOX.out w4 c4
    obtain ⟨R, hR⟩ : ∃ R, Hub.jputT u h n = R := ⟨_, rfl⟩
    have HR : Hid (Hub.jputT u h n = R) := hR
    rw [hR]
    clear hR x0 x1 x2
    go_wp2_with fail
    refine (Hub.toJid_any u h n w4).mono ?_
    rintro e w5 ⟨rfl, b5⟩
    have c5 := c4.trans (b5.mono c4.size)
    have T5 : Hub.Tabs w5 := Utf8Tabs_below hT (c0.trans (c5.mono c0.size))
    go_wp2_with fail
    refine (Hub.jidPut_any u h n w5 T5 (by omega) (by omega) (by omega)).mono ?_
    rintro e w6 ⟨rfl, b6⟩
    rw [HR.out]
    have c6 := c5.trans (b6.mono c5.size)
    go_wp2_with fail
    go_ret
    exact ⟨rfl, c0.trans (c6.mono c0.size)⟩

theorem own : ownKnob Tryd.prog.godebug = none := by kernel_rfl
theorem tabs_of {W : World} (h : laidMetH Tryd.prog Rows.fnExactJidPutRow.laid W) : Hub.Tabs W := by
  rw [MakeChecks.laidMetH_plain _ _ _ (by kernel_rfl)] at h
  have e1 : Rows.laid_unicode_utf8_acceptRanges = Lib.acceptData := by kernel_rfl
  have e2 : Rows.laid_unicode_utf8_first = Lib.firstData := Pinned.utf8First_eq
  have r1 := Lib.laidMet.reads h (.head _)
  have r2 := Lib.laidMet.reads h (.tail _ (.head _))
  rw [e1] at r1
  rw [e2] at r2
  exact utf8Tabs_of_readsT (U8Types.of196 Tryd.lays196) ⟨by kernel_rfl, by kernel_rfl, by kernel_rfl, by kernel_rfl, by kernel_rfl, by kernel_rfl, by kernel_rfl⟩ r2 r1

theorem laidOut : laidOutB Tryd.prog = true := by kernel_rfl
set_option maxRecDepth 100000 in
theorem lifted (os : Os) (started : os.Started) (H : Type) (enc : TypeId × Value → H) :
    ReturnsInHanded {} Tryd.checked os 4 .any (fun w args => (Rows.fnExactJidPutSpec.pre enc Tryd.prog Tryd.f4 Rows.fnExactJidPutRow.domain false w args ∧ laidMetH Tryd.prog Rows.fnExactJidPutRow.laid w) ∧ sizedMet enc Tryd.prog Tryd.f4 (OpenSpec.ofChange Rows.fnExactJidPutSpec) false w args)
      (Rows.fnExactJidPutSpec.post enc Tryd.prog Tryd.f4 false true false false) := by
  refine returnsInHanded_of_change_and (C := Tryd.checked) (X := fun w _ => laidMetH Tryd.prog Rows.fnExactJidPutRow.laid w) (fun _ _ _ hh h => h.of_heap hh) own started (by kernel_rfl) Tryd.func4
    (ChangeSpec.witness_shaped (enc := enc) (C := Tryd.checked) (os := os) (X := fun w _ => laidMetH Tryd.prog Rows.fnExactJidPutRow.laid w) false (World.laidAll Tryd.prog os Rows.fnExactJidPutRow.laid) #[.agg #[.string ByteArray.empty, .string ByteArray.empty, .string ByteArray.empty]] 8 (World.laidAll_os _ _ _)
      (World.shaped_of_ZipB (by kernel_rfl) (by kernel_rfl)) (by kernel_rfl) (by kernel_rfl) (by kernel_rfl)
      (by rw [MakeChecks.laidMetH_plain _ _ _ (by kernel_rfl)]; exact laidMet_laidAll _ (by kernel_rfl) (by kernel_rfl))) ?_
  intro W base args ds gs before hval0 hW hc _ hL _
  have hval : ∀ (j : Nat) t v, Tryd.f4.params[j]? = some t → args[j]? = some v → Value.okWide Tryd.prog W .any base t v := hval0
  have hW' := hW
  obtain ⟨p, q, hA0, hV, rfl, _, _⟩ := hW
  have hA : DataW.TrodAll enc Tryd.prog W 0 (fun _ => true) true Tryd.f4.params.toList args.toList ds p := hA0
  rw [Tryd.params4] at hA hval
  obtain ⟨v0, d0, rfl, rfl, h0⟩ := trodAll_one hA
  obtain ⟨rfl, rfl⟩ := trodVars_none hV
  obtain ⟨c0, c1, c2, y0, y1, y2, m, e0, _, _, hy0, hy1, hy2⟩ := Joins.open_agg3 Tryd.underlying23 (by kernel_rfl) (by kernel_rfl) (hval 0 23 v0 rfl rfl) h0
  obtain ⟨s0, q0, _, w0⟩ := DataW.trod_string Tryd.underlying9 hy0
  obtain ⟨s1, q1, _, w1⟩ := DataW.trod_string Tryd.underlying9 hy1
  obtain ⟨s2, q2, _, w2⟩ := DataW.trod_string Tryd.underlying9 hy2
  obtain rfl : c0 = .string s0 := by simpa using q0
  obtain rfl : c1 = .string s1 := by simpa using q1
  obtain rfl : c2 = .string s2 := by simpa using q2
  subst e0
  simp only [List.append_nil] at hW'
  have hlt0 : ∀ x ∈ p, x.block < W.heap.size := fun x hx => by simpa using hW'.lt x hx
  refine (walk s0 s1 s2 w0 w1 w2 W (tabs_of hL)).mono fun e W' ⟨he, bel⟩ => ?_
  subst he
  exact ⟨_, rfl, _, _, _, [], _, [], hW', trodAll_mk1 (shut_bool Tryd.underlying4 _), trodAll_mk1 (Below.trod laidOut (by kernel_rfl) (of_decide_eq_true (by kernel_rfl)) h0 bel hlt0), rfl, bel.frame _, fun h => by cases h⟩

theorem holds : Rows.FnExactJidPutSaid :=
  OpenClaim.holds_of_wide 4 Tryd.f4 rfl rfl rfl rfl rfl rfl rfl ⟨rfl, rfl, rfl, rfl, rfl⟩ rfl rfl rfl rfl rfl (by kernel_rfl) Tryd.func4 (by kernel_rfl)
    (of_decide_eq_true (by kernel_rfl)) (by unfold Func.isWrapper; first | (rw [if_pos (by decide +kernel)]; kernel_rfl) | (rw [if_neg (by decide +kernel)]; exact ⟨rfl, rfl⟩))
    (fun os started H enc _ => lifted os started H enc)
theorem card_holds : Rows.FnExactJidPutCardSaid :=
  Claim7.holds_tied_plain_at .later [] [.data, .pinned] true (true, "2c93e48e31472343b9645471d6c77de7fbf8e0c93548de290039ea0ebadd93e6") true holds (fun _ h => by cases h) (by kernel_rfl) (fun _ h => by cases h) fnExactJidPut_row_tie rfl ⟨rfl, rfl⟩ (by kernel_rfl) rfl
    (fun f fn hf hfn => by
      obtain rfl : f = 4 := Option.some.inj ((show Tryd.prog.funcNamed Rows.fnExactJidPutRow.func = some 4 by kernel_rfl).symm.trans hf) |>.symm
      obtain rfl : fn = Tryd.f4 := (Option.some.inj (Tryd.func4.symm.trans hfn)).symm
      exact ⟨by kernel_rfl, fun j t ht => by
        rw [Tryd.params4] at ht
        have hm : t ∈ [23] := by simpa using Array.mem_of_getElem? ht
        have hall : ([23].all fun u => !Tryd.prog.wantsStandIn u) = true := by kernel_rfl
        exact (show Tryd.prog.wantsStandIn t = false by simpa using List.all_eq_true.1 hall t hm)⟩)
    (by kernel_rfl)
#print axioms card_holds
end Go.Proofs.YtbcledidadjddaaDoor.fnExactJidPut

namespace Go.Proofs.YtbcledidadjddaaDoor
/-- The statement. -/
theorem fnExactJidPut_card : Rows.FnExactJidPutCardSaid := fnExactJidPut.card_holds
end Go.Proofs.YtbcledidadjddaaDoor
