/-
  For every entry the law FnExactEntryPut returns true: impl.EntryPut answers as spec.EntryPut. Its condition: the two tables of unicode/utf8 and the table of powers of ten of strconv are as the library's text lays them (the card ties them to the program's text); the law itself passes entries whose texts have more than 1048576 bytes together by.
-/
import Derived.Test.YtmhigbomnhdeeaaDoorRows
import Derived.Test.YtmhigbomnhdeeaaDoorTie
import Derived.Test.YtmhigbomnhdeeaaDoorCards
import Derived.Test.YtmhigbomnhdeeaaDoorArgEntry
import Derived.Test.YtmhigbomnhdeeaaDoorEntryPutI
import Derived.Lib.LaidU8T
import Derived.Lib.SmallJoins
import Derived.PinnedBridge
import Derived.ProofKit
import Derived.OpenShut
import Derived.ShutString
import Derived.LaidMore
import Derived.Lay
import Derived.SevenTiedAt
import Derived.Stop.Joined
namespace Go.Proofs.YtmhigbomnhdeeaaDoor.fnExactEntryPut
open Go.ChangeShapes Go.WideShapes Go.ChangeAt Go.RowKit Go.Shelf
open Go.ChangeMaps (open_string shut_string)
set_option linter.unusedVariables false

set_option maxRecDepth 100000 in
set_option maxHeartbeats 4000000 in
theorem walk (r : ByteArray) (q k : Int) (u n t i f : ByteArray) (m : Int) (wr : r.size ≤ maxLen) (wu : u.size ≤ maxLen) (wn : n.size ≤ maxLen) (wt : t.size ≤ maxLen) (wi : i.size ≤ maxLen) (wf : f.size ≤ maxLen) (w : World) (hE : Hub.Tabs w ∧ Hub.Tens w) :
    Calls Tryd.prog 3 #[Hub.entV r q k u n t i f m] w fun e w' => e = .returned (.bool true) ∧ Below w.heap.size w w' := by
  unfold maxLen at wr wu wn wt wi wf
  obtain ⟨W1, hW1⟩ : ∃ W1, W1 = w.alloc (.cells #[.string r, .int .i64 q, .int .i64 k, .string u, .string n, .string t, .string i, .string f, .int .i64 m] 23) := ⟨_, rfl⟩
  have c0 : Below w.heap.size w W1 := by rw [hW1]; exact (Below.refl _ w).alloc (Nat.le_refl _) _
  have NEW : Hid (∀ W : World, Below W1.heap.size W1 W → Hub.Nine W w.heap.size r q k u n t i f m) := by rw [hW1]; exact Hub.nine_new w 23 r q k u n t i f m
  go_enter Tryd.func3, Tryd.ntmps3
  go_wp2_with fail
  rw [← hW1]
  clear hW1
  refine (Hub.szEntry_any r q k u n t i f m W1 (by omega) (by omega) (by omega) (by omega) (by omega) (by omega)).mono ?_
  rintro e w2 ⟨⟨z, rfl, hk⟩, b2⟩
  obtain ⟨x0, x1, x2, x3, x4, x5, x6, x7, x8⟩ := NEW.out w2 b2
  rcases hk with hk | ⟨hk, hsz⟩
  · go_wp2_with fail
    go_ret
    exact ⟨rfl, c0.trans (b2.mono c0.size)⟩
  · have hk' : ¬ z < 0 := by omega
    go_wp2_with fail
    refine (Hub.toEntry_any r q k u n t i f m w2).mono ?_
    rintro e w3 ⟨rfl, b3⟩
    have c3 := b2.trans (b3.mono b2.size)
    go_wp2_with fail
    refine (Hub.specEntryPut_any r q k u n t i f m w3 (by omega) (by omega) (by omega) (by omega) (by omega) (by omega)).mono ?_
    rintro e w4 ⟨rfl, b4⟩
    have c4 := c3.trans (b4.mono c3.size)
    obtain ⟨y0, y1, y2, y3, y4, y5, y6, y7, y8⟩ := NEW.out w4 c4
    obtain ⟨R, hR⟩ : ∃ R, Hub.eputT r q k u n t i f m = R := ⟨_, rfl⟩
    have HR : Hid (Hub.eputT r q k u n t i f m = R) := hR
    rw [hR]
    clear hR x0 x1 x2 x3 x4 x5 x6 x7 x8
    go_wp2_with fail
    refine (Hub.toEntry_any r q k u n t i f m w4).mono ?_
    rintro e w5 ⟨rfl, b5⟩
    have c5 := c4.trans (b5.mono c4.size)
    have d5 := c0.trans (c5.mono c0.size)
    have T5 : Hub.Tabs w5 := Utf8Tabs_below hE.1 d5
    have X5 : Hub.Tens w5 := hE.2.below d5
    go_wp2_with fail
    refine (Hub.entryPut_any r q k u n t i f m w5 T5 X5 (by omega) (by omega) (by omega) (by omega) (by omega) (by omega)).mono ?_
    rintro e w6 ⟨rfl, b6⟩
    rw [HR.out]
    have c6 := c5.trans (b6.mono c5.size)
    go_wp2_with fail
    go_ret
    exact ⟨rfl, c0.trans (c6.mono c0.size)⟩

theorem own : ownKnob Tryd.prog.godebug = none := by kernel_rfl
theorem tabs_of {W : World} (h : laidMetH Tryd.prog Rows.fnExactEntryPutRow.laid W) : Hub.Tabs W ∧ Hub.Tens W := by
  rw [MakeChecks.laidMetH_plain _ _ _ (by kernel_rfl)] at h
  have e1 : Rows.laid_unicode_utf8_acceptRanges = Lib.acceptData := by kernel_rfl
  have e2 : Rows.laid_unicode_utf8_first = Lib.firstData := Pinned.utf8First_eq
  have r1 := Lib.laidMet.reads h (.tail _ (.tail _ (.tail _ (.head _))))
  have r2 := Lib.laidMet.reads h (.tail _ (.tail _ (.tail _ (.tail _ (.head _)))))
  have r3 := Lib.laidMet.reads h (.tail _ (.tail _ (.head _)))
  have e3 : (Rows.laid_internal_strconv_uint64pow10 : DataW Unit) = Lib.tabData .u64 Lib.pow10Tab := by kernel_rfl
  rw [e1] at r1
  rw [e2] at r2
  rw [e3] at r3
  refine ⟨utf8Tabs_of_readsT (U8Types.of196 Tryd.lays196) ⟨by kernel_rfl, by kernel_rfl, by kernel_rfl, by kernel_rfl, by kernel_rfl, by kernel_rfl, by kernel_rfl⟩ r2 r1, ?_⟩
  obtain ⟨g, t, cs, fuel, p, hg, ht, hv, hr⟩ := r3
  have hg2 : Tryd.prog.globalNamed "internal/strconv.uint64pow10" = some 4 := by kernel_rfl
  obtain rfl : 4 = g := Option.some.inj (hg2.symm.trans hg)
  have ht2 : (Tryd.prog.globals[4]?).map (·.type) = some 99 := by kernel_rfl
  obtain rfl : 99 = t := Option.some.inj (ht2.symm.trans ht)
  unfold Hub.Tens Lib.TabIs
  rw [hv, ← Lib.cells_of_tab Tryd.underlying99 Tryd.underlying71 (by kernel_rfl) (by kernel_rfl) hr]

theorem laidOut : laidOutB Tryd.prog = true := by kernel_rfl
set_option maxRecDepth 100000 in
theorem lifted (os : Os) (started : os.Started) (H : Type) (enc : TypeId × Value → H) :
    ReturnsInHanded {} Tryd.checked os 3 .any (fun w args => (Rows.fnExactEntryPutSpec.pre enc Tryd.prog Tryd.f3 Rows.fnExactEntryPutRow.domain false w args ∧ laidMetH Tryd.prog Rows.fnExactEntryPutRow.laid w) ∧ sizedMet enc Tryd.prog Tryd.f3 (OpenSpec.ofChange Rows.fnExactEntryPutSpec) false w args)
      (Rows.fnExactEntryPutSpec.post enc Tryd.prog Tryd.f3 false true false false) := by
  refine returnsInHanded_of_change_and (C := Tryd.checked) (X := fun w _ => laidMetH Tryd.prog Rows.fnExactEntryPutRow.laid w) (fun _ _ _ hh h => h.of_heap hh) own started (by kernel_rfl) Tryd.func3
    (ChangeSpec.witness_shaped (enc := enc) (C := Tryd.checked) (os := os) (X := fun w _ => laidMetH Tryd.prog Rows.fnExactEntryPutRow.laid w) false (World.laidAll Tryd.prog os Rows.fnExactEntryPutRow.laid) #[.agg #[.string ByteArray.empty, .int .i64 0, .int .i64 0, .string ByteArray.empty, .string ByteArray.empty, .string ByteArray.empty, .string ByteArray.empty, .string ByteArray.empty, .int .i64 0]] 8 (World.laidAll_os _ _ _)
      (World.shaped_of_ZipB (by kernel_rfl) (by kernel_rfl)) (by kernel_rfl) (by kernel_rfl) (by kernel_rfl)
      (by rw [MakeChecks.laidMetH_plain _ _ _ (by kernel_rfl)]; exact laidMet_laidAll _ (by kernel_rfl) (by kernel_rfl))) ?_
  intro W base args ds gs before hval0 hW hc _ hL _
  have hval : ∀ (j : Nat) t v, Tryd.f3.params[j]? = some t → args[j]? = some v → Value.okWide Tryd.prog W .any base t v := hval0
  have hW' := hW
  obtain ⟨p, q, hA0, hV, rfl, _, _⟩ := hW
  have hA : DataW.TrodAll enc Tryd.prog W 0 (fun _ => true) true Tryd.f3.params.toList args.toList ds p := hA0
  rw [Tryd.params3] at hA hval
  obtain ⟨v0, d0, rfl, rfl, h0⟩ := trodAll_one hA
  obtain ⟨rfl, rfl⟩ := trodVars_none hV
  obtain ⟨s0, s1, s2, s3, s4, s5, s6, s7, s8, e0, w0, w3, w4, w5, w6, w7⟩ := Hub.open_entry (hval 0 23 v0 rfl rfl) h0
  subst e0
  simp only [List.append_nil] at hW'
  have hlt0 : ∀ x ∈ p, x.block < W.heap.size := fun x hx => by simpa using hW'.lt x hx
  refine (walk s0 s1 s2 s3 s4 s5 s6 s7 s8 w0 w3 w4 w5 w6 w7 W (tabs_of hL)).mono fun e W' ⟨he, bel⟩ => ?_
  subst he
  exact ⟨_, rfl, _, _, _, [], _, [], hW', trodAll_mk1 (shut_bool Tryd.underlying4 _), trodAll_mk1 (Below.trod laidOut (by kernel_rfl) (of_decide_eq_true (by kernel_rfl)) h0 bel hlt0), rfl, bel.frame _, fun h => by cases h⟩

theorem holds : Rows.FnExactEntryPutSaid :=
  OpenClaim.holds_of_wide 3 Tryd.f3 rfl rfl rfl rfl rfl rfl rfl ⟨rfl, rfl, rfl, rfl, rfl⟩ rfl rfl rfl rfl rfl (by kernel_rfl) Tryd.func3 (by kernel_rfl)
    (of_decide_eq_true (by kernel_rfl)) (by unfold Func.isWrapper; first | (rw [if_pos (by decide +kernel)]; kernel_rfl) | (rw [if_neg (by decide +kernel)]; exact ⟨rfl, rfl⟩))
    (fun os started H enc _ => lifted os started H enc)
theorem card_holds : Rows.FnExactEntryPutCardSaid :=
  Claim7.holds_tied_plain_at .later [] [.data, .data, .data, .data, .pinned] true (true, "5ff269cb9c32b32aef942f2bf3a1ed9bc725cdf7780c1e81836eed241b63c088") true holds (fun _ h => by cases h) (by kernel_rfl) (fun _ h => by cases h) fnExactEntryPut_row_tie rfl ⟨rfl, rfl⟩ (by kernel_rfl) rfl
    (fun f fn hf hfn => by
      obtain rfl : f = 3 := Option.some.inj ((show Tryd.prog.funcNamed Rows.fnExactEntryPutRow.func = some 3 by kernel_rfl).symm.trans hf) |>.symm
      obtain rfl : fn = Tryd.f3 := (Option.some.inj (Tryd.func3.symm.trans hfn)).symm
      exact ⟨by kernel_rfl, fun j t ht => by
        rw [Tryd.params3] at ht
        have hm : t ∈ [23] := by simpa using Array.mem_of_getElem? ht
        have hall : ([23].all fun u => !Tryd.prog.wantsStandIn u) = true := by kernel_rfl
        exact (show Tryd.prog.wantsStandIn t = false by simpa using List.all_eq_true.1 hall t hm)⟩)
    (by kernel_rfl)
#print axioms card_holds
end Go.Proofs.YtmhigbomnhdeeaaDoor.fnExactEntryPut

namespace Go.Proofs.YtmhigbomnhdeeaaDoor
/-- The statement. -/
theorem fnExactEntryPut_card : Rows.FnExactEntryPutCardSaid := fnExactEntryPut.card_holds
end Go.Proofs.YtmhigbomnhdeeaaDoor
