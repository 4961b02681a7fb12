/-
  For every slice of bytes the law FnUnescape returns true: of a drawn text impl.Unescape answers as spec.Unescape; what it reads is ok, and comes back from impl.Escape. Its condition: the variables of the library that are listed are as the library's text lays them (the card ties them to the program's text); the law itself passes slices of more than 1048576 bytes by.
-/
import Derived.Test.YtbcledidadjddaaDoorRows
import Derived.Test.YtbcledidadjddaaDoorTie
import Derived.Test.YtbcledidadjddaaDoorCards
import Derived.Test.YtbcledidadjddaaDoorBackAll
import Derived.Test.YtbcledidadjddaaDoorUnImpl
import Derived.Test.YtbcledidadjddaaDoorDrawD
import Derived.Test.YtbcledidadjddaaDoorArgB
import Derived.Lib.LaidU8T
import Derived.PinnedBridge
import Derived.ProofKit
import Derived.OpenShut
import Derived.ShutString
import Derived.LaidMore
import Derived.Lay
import Derived.SevenTiedAt
import Derived.Stop.Joined
namespace Go.Proofs.YtbcledidadjddaaDoor.fnUnescape
open Go.ChangeShapes Go.WideShapes Go.ChangeAt Go.RowKit Go.Shelf
open Go.ChangeMaps (open_string shut_string)
set_option linter.unusedVariables false

set_option maxRecDepth 100000 in
set_option maxHeartbeats 2000000 in
theorem walk (v1 : Value) (n1 : Nat) (w : World) (hE : Hub.Env w) (hb1 : Hub.BytesAt w.heap.size w v1 n1) :
    Calls Tryd.prog 7 #[v1] w fun e w' => e = .returned (.bool true) ∧ Below w.heap.size w w' := by
  obtain ⟨o1, cap1, rfl⟩ := Hub.bytes_shape hb1
  by_cases hbig : (1048576 : Int) < (n1 : Int)
  · go_enter Tryd.func7, Tryd.ntmps7
    go_wp2_with fail
    go_ret
    exact ⟨rfl, Below.refl _ _⟩
  · go_enter Tryd.func7, Tryd.ntmps7
    go_wp2_with fail
    refine (Hub.drawUnescape_any _ n1 _ hb1).mono ?_
    rintro e w1 ⟨⟨s, hs, rfl⟩, c1⟩
    have E1 := hE.below c1
    have hlen := Hub.unT_size s
    go_wp2_with fail
    refine (Hub.unescape_any s _ (by omega) E1).mono ?_
    rintro e w2 ⟨rfl, b2⟩
    have c2 := c1.trans (b2.mono c1.size)
    have E2 := hE.below c2
    obtain ⟨x, ok, hx⟩ : ∃ x ok, Hub.unT s = (x, ok) := ⟨_, _, rfl⟩
    have HX : Hid (Hub.unT s = (x, ok)) := hx
    rw [hx] at hlen ⊢
    clear hx
    simp only at hlen ⊢
    go_wp2_with fail
    refine (Hub.specUnescape_any s _ (by omega)).mono ?_
    rintro e w3 ⟨rfl, b3⟩
    rw [HX.out]
    have c3 := c2.trans (b3.mono c2.size)
    have E3 := hE.below c3
    cases ok
    · go_wp2_with fail
      go_ret
      exact ⟨rfl, c3⟩
    · obtain ⟨hok, hback⟩ := Hub.unT_back s x HX.out
      have hes : (Hub.escT x).size ≤ 6 * x.size := Hub.escT_size x
      obtain ⟨E, hEe⟩ : ∃ E, Hub.escT x = E := ⟨_, rfl⟩
      rw [hEe] at hback hes
      have HEE : Hid (Hub.escT x = E) := hEe
      have HB : Hid (Hub.unT E = (x, true)) := hback
      have HO : Hid (Hub.okT x = true) := hok
      clear hEe hback hok HX
      go_wp2_with fail
      refine (Hub.escape_any x _ (by omega) E3.1).mono ?_
      rintro e w4 ⟨rfl, b4⟩
      rw [HEE.out]
      have c4 := c3.trans (b4.mono c3.size)
      have E4 := hE.below c4
      go_wp2_with fail
      refine (Hub.unescape_any E _ (by omega) E4).mono ?_
      rintro e w5 ⟨rfl, b5⟩
      rw [HB.out]
      have c5 := c4.trans (b5.mono c4.size)
      have E5 := hE.below c5
      go_wp2_with fail
      refine (Hub.textOk_any x _ (by omega) E5.1).mono ?_
      rintro e w6 ⟨rfl, b6⟩
      rw [HO.out]
      have c6 := c5.trans (b6.mono c5.size)
      go_wp2_with fail
      go_ret
      exact ⟨rfl, c6⟩

theorem own : ownKnob Tryd.prog.godebug = none := by kernel_rfl
theorem env_of {W : World} (h : laidMetH Tryd.prog Rows.fnUnescapeRow.laid W) : Hub.Env W := by
  rw [MakeChecks.laidMetH_plain _ _ _ (by kernel_rfl)] at h
  have e1 : Rows.laid_unicode_utf8_acceptRanges = Lib.acceptData := by kernel_rfl
  have e2 : Rows.laid_unicode_utf8_first = Lib.firstData := Pinned.utf8First_eq
  have r1 := Lib.laidMet.reads h (.tail _ (.tail _ (.tail _ (.head _))))
  have r2 := Lib.laidMet.reads h (.tail _ (.tail _ (.tail _ (.tail _ (.tail _ (.tail _ (.head _)))))))
  have r3 := Lib.laidMet.reads h (.tail _ (.tail _ (.tail _ (.tail _ (.tail _ (.head _))))))
  rw [e1] at r1
  rw [e2] at r2
  refine ⟨utf8Tabs_of_readsT (U8Types.of196 Tryd.lays196) ⟨by kernel_rfl, by kernel_rfl, by kernel_rfl, by kernel_rfl, by kernel_rfl, by kernel_rfl, by kernel_rfl⟩ r2 r1, ?_⟩
  obtain ⟨g, t, cs, fuel, p, hg, ht, hv, hr⟩ := r3
  have hg2 : Tryd.prog.globalNamed "strconv.ErrSyntax" = some 3 := by kernel_rfl
  obtain rfl : 3 = g := Option.some.inj (hg2.symm.trans hg)
  have ht2 : (Tryd.prog.globals[3]?).map (·.type) = some 49 := by kernel_rfl
  obtain rfl : 49 = t := Option.some.inj (ht2.symm.trans ht)
  obtain ⟨_, u, v, hcs, _, _⟩ := iface_of_trod Tryd.underlying49 hr
  refine ⟨u, v, ?_⟩
  have h0 := World.var?_cell hg2 hv 0
  have h1 : cs[0]? = some (.iface u v) := by rw [← Array.getElem?_toList, hcs]; rfl
  exact h0.trans h1

theorem laidOut : laidOutB Tryd.prog = true := by kernel_rfl
set_option maxRecDepth 100000 in
theorem lifted (os : Os) (started : os.Started) (H : Type) (enc : TypeId × Value → H) :
    ReturnsInHanded {} Tryd.checked os 7 .any (fun w args => (Rows.fnUnescapeSpec.pre enc Tryd.prog Tryd.f7 Rows.fnUnescapeRow.domain false w args ∧ laidMetH Tryd.prog Rows.fnUnescapeRow.laid w) ∧ sizedMet enc Tryd.prog Tryd.f7 (OpenSpec.ofChange Rows.fnUnescapeSpec) false w args)
      (Rows.fnUnescapeSpec.post enc Tryd.prog Tryd.f7 false true false false) := by
  refine returnsInHanded_of_change_and (C := Tryd.checked) (X := fun w _ => laidMetH Tryd.prog Rows.fnUnescapeRow.laid w) (fun _ _ _ hh h => h.of_heap hh) own started (by kernel_rfl) Tryd.func7
    (ChangeSpec.witness_shaped (enc := enc) (C := Tryd.checked) (os := os) (X := fun w _ => laidMetH Tryd.prog Rows.fnUnescapeRow.laid w) false (World.laidAll Tryd.prog os Rows.fnUnescapeRow.laid) #[.slice none 0 0] 8 (World.laidAll_os _ _ _)
      (World.shaped_of_ZipB (by kernel_rfl) (by kernel_rfl)) (by kernel_rfl) (by kernel_rfl) (by kernel_rfl)
      (by rw [MakeChecks.laidMetH_plain _ _ _ (by kernel_rfl)]; exact laidMet_laidAll _ (by kernel_rfl) (by kernel_rfl))) ?_
  intro W base args ds gs before hval0 hW hc _ hL _
  have hval : ∀ (j : Nat) t v, Tryd.f7.params[j]? = some t → args[j]? = some v → Value.okWide Tryd.prog W .any base t v := hval0
  have hW' := hW
  obtain ⟨p, q, hA0, hV, rfl, _, _⟩ := hW
  have hA : DataW.TrodAll enc Tryd.prog W 0 (fun _ => true) true Tryd.f7.params.toList args.toList ds p := hA0
  rw [Tryd.params7] at hA hval
  obtain ⟨v0, d0, rfl, rfl, h0⟩ := trodAll_one hA
  obtain ⟨rfl, rfl⟩ := trodVars_none hV
  obtain ⟨n0, hb0⟩ := Hub.open_bytes (hval 0 34 v0 rfl rfl) h0
  simp only [List.append_nil] at hW'
  have hlt0 : ∀ x ∈ p, x.block < W.heap.size := fun x hx => by simpa using hW'.lt x hx
  refine (walk v0 n0 W (env_of hL) hb0).mono fun e W' ⟨he, bel⟩ => ?_
  subst he
  exact ⟨_, rfl, _, _, _, [], _, [], hW', trodAll_mk1 (shut_bool Tryd.underlying4 _), trodAll_mk1 (Below.trod laidOut (by kernel_rfl) (of_decide_eq_true (by kernel_rfl)) h0 bel hlt0), rfl, bel.frame _, fun h => by cases h⟩

theorem holds : Rows.FnUnescapeSaid :=
  OpenClaim.holds_of_wide 7 Tryd.f7 rfl rfl rfl rfl rfl rfl rfl ⟨rfl, rfl, rfl, rfl, rfl⟩ rfl rfl rfl rfl rfl (by kernel_rfl) Tryd.func7 (by kernel_rfl)
    (of_decide_eq_true (by kernel_rfl)) (by unfold Func.isWrapper; first | (rw [if_pos (by decide +kernel)]; kernel_rfl) | (rw [if_neg (by decide +kernel)]; exact ⟨rfl, rfl⟩))
    (fun os started H enc _ => lifted os started H enc)
theorem card_holds : Rows.FnUnescapeCardSaid :=
  Claim7.holds_tied_plain_at .later [] [.data, .data, .data, .data, .sentinel, .sentinel, .pinned] true (true, "2c93e48e31472343b9645471d6c77de7fbf8e0c93548de290039ea0ebadd93e6") true holds (fun _ h => by cases h) (by kernel_rfl) (fun _ h => by cases h) fnUnescape_row_tie rfl ⟨rfl, rfl⟩ (by kernel_rfl) rfl
    (fun f fn hf hfn => by
      obtain rfl : f = 7 := Option.some.inj ((show Tryd.prog.funcNamed Rows.fnUnescapeRow.func = some 7 by kernel_rfl).symm.trans hf) |>.symm
      obtain rfl : fn = Tryd.f7 := (Option.some.inj (Tryd.func7.symm.trans hfn)).symm
      exact ⟨by kernel_rfl, fun j t ht => by
        rw [Tryd.params7] at ht
        have hm : t ∈ [34] := by simpa using Array.mem_of_getElem? ht
        have hall : ([34].all fun u => !Tryd.prog.wantsStandIn u) = true := by kernel_rfl
        exact (show Tryd.prog.wantsStandIn t = false by simpa using List.all_eq_true.1 hall t hm)⟩)
    (by kernel_rfl)
#print axioms card_holds
end Go.Proofs.YtbcledidadjddaaDoor.fnUnescape

namespace Go.Proofs.YtbcledidadjddaaDoor
/-- The statement. -/
theorem fnUnescape_card : Rows.FnUnescapeCardSaid := fnUnescape.card_holds
end Go.Proofs.YtbcledidadjddaaDoor
