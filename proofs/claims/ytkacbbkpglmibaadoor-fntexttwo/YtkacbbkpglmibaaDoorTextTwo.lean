/-
  For every two slices of bytes the law FnTextTwo returns true: a drawn text behind a drawn one that is ok makes one that is ok just if it is ok itself, by impl.TextOk, and then impl.Escape of both is that of the one behind that of the other. Its condition: the two tables of unicode/utf8 are as the library's text lays them (the card ties them to the program's text); the law itself passes slices of more than 1048576 bytes by.
-/
import Derived.Test.YtkacbbkpglmibaaDoorRows
import Derived.Test.YtkacbbkpglmibaaDoorTie
import Derived.Test.YtkacbbkpglmibaaDoorCards
import Derived.Test.YtkacbbkpglmibaaDoorTextImpl
import Derived.Test.YtkacbbkpglmibaaDoorTwoPlain
import Derived.Test.YtkacbbkpglmibaaDoorArgB
import Derived.Lib.LaidU8T
import Derived.PinnedBridge
import Derived.ProofKit
import Derived.OpenShut
import Derived.ShutString
import Derived.LaidMore
import Derived.Lay
import Derived.SevenTiedAt
import Derived.Stop.Joined
namespace Go.Proofs.YtkacbbkpglmibaaDoor.fnTextTwo
open Go.ChangeShapes Go.WideShapes Go.ChangeAt Go.RowKit Go.Shelf
open Go.ChangeMaps (open_string shut_string)
set_option linter.unusedVariables false

set_option maxRecDepth 100000 in
set_option maxHeartbeats 2000000 in
theorem walk (v1 v2 : Value) (n1 n2 : Nat) (w : World) (hT : Hub.Tabs w) (hb1 : Hub.BytesAt w.heap.size w v1 n1) (hb2 : Hub.BytesAt w.heap.size w v2 n2) :
    Calls Tryd.prog 6 #[v1, v2] w fun e w' => e = .returned (.bool true) ∧ Below w.heap.size w w' := by
  obtain ⟨o1, cap1, rfl⟩ := Hub.bytes_shape hb1
  obtain ⟨o2, cap2, rfl⟩ := Hub.bytes_shape hb2
  by_cases hbig : (1048576 : Int) < (n1 : Int)
  · go_enter Tryd.func6, Tryd.ntmps6
    go_wp2_with fail
    go_ret
    exact ⟨rfl, Below.refl _ _⟩
  · by_cases hbig2 : (1048576 : Int) < (n2 : Int)
    · go_enter Tryd.func6, Tryd.ntmps6
      go_wp2_with fail
      go_ret
      exact ⟨rfl, Below.refl _ _⟩
    · go_enter Tryd.func6, Tryd.ntmps6
      go_wp2_with fail
      refine (Hub.drawTextOk_any _ n1 _ hb1).mono ?_
      rintro e w1 ⟨⟨a, t, ha, ht, rfl⟩, b1⟩
      have hb2' : Hub.BytesAt w1.heap.size w1 (.slice o2 n2 cap2) n2 := (hb2.below b1).wider b1.size
      go_wp2_with fail
      refine (Hub.drawTextOk_any _ n2 _ hb2').mono ?_
      rintro e w2 ⟨⟨b, u, hb, hu, rfl⟩, b2⟩
      have htwo := fun hok => Hub.two_any ha ht hb hu hok
      have hsz : (a ++ t).size ≤ 200 := by rw [ByteArray.size_append]; have := Hub.texts_small a ha; have := Hub.ends_small t ht; omega
      have hsz2 : (b ++ u).size ≤ 200 := by rw [ByteArray.size_append]; have := Hub.texts_small b hb; have := Hub.ends_small u hu; omega
      generalize a ++ t = x at *
      generalize b ++ u = y at *
      have hsz3 : (x ++ y).size ≤ 400 := by rw [ByteArray.size_append]; omega
      have HC : Hid (∀ (hok : Hub.okT x = true), Hub.okT (x ++ y) = Hub.okT y) := htwo
      clear htwo ha ht hb hu a t b u
      have c2 := b1.trans (b2.mono b1.size)
      have T2 := Utf8Tabs_below hT c2
      cases hx : Hub.okT x
      · cases hy : Hub.okT y
        · clear HC
          go_wp2_with fail
          refine (Hub.textOk_any x _ (by omega) T2).mono ?_
          rintro e w3 ⟨rfl, b3⟩
          rw [hx]
          have c3 := c2.trans (b3.mono c2.size)
          have T3 := Utf8Tabs_below hT c3
          go_wp2_with fail
          refine (Hub.specTextOk_any x _ (by omega)).mono ?_
          rintro e w4 ⟨rfl, b4⟩
          rw [hx]
          have c4 := c3.trans (b4.mono c3.size)
          have T4 := Utf8Tabs_below hT c4
          go_wp2_with fail
          refine (Hub.textOk_any y _ (by omega) T4).mono ?_
          rintro e w5 ⟨rfl, b5⟩
          rw [hy]
          have c5 := c4.trans (b5.mono c4.size)
          have T5 := Utf8Tabs_below hT c5
          go_wp2_with fail
          refine (Hub.specTextOk_any y _ (by omega)).mono ?_
          rintro e w6 ⟨rfl, b6⟩
          rw [hy]
          have c6 := c5.trans (b6.mono c5.size)
          have T6 := Utf8Tabs_below hT c6
          go_wp2_with fail
          refine (Hub.textOk_any x _ (by omega) T6).mono ?_
          rintro e w7 ⟨rfl, b7⟩
          rw [hx]
          have c7 := c6.trans (b7.mono c6.size)
          have T7 := Utf8Tabs_below hT c7
          go_wp2_with fail
          refine (Hub.textOk_any x _ (by omega) T7).mono ?_
          rintro e w8 ⟨rfl, b8⟩
          rw [hx]
          have c8 := c7.trans (b8.mono c7.size)
          have T8 := Utf8Tabs_below hT c8
          go_wp2_with fail
          go_ret
          exact ⟨rfl, c8⟩
        · clear HC
          go_wp2_with fail
          refine (Hub.textOk_any x _ (by omega) T2).mono ?_
          rintro e w3 ⟨rfl, b3⟩
          rw [hx]
          have c3 := c2.trans (b3.mono c2.size)
          have T3 := Utf8Tabs_below hT c3
          go_wp2_with fail
          refine (Hub.specTextOk_any x _ (by omega)).mono ?_
          rintro e w4 ⟨rfl, b4⟩
          rw [hx]
          have c4 := c3.trans (b4.mono c3.size)
          have T4 := Utf8Tabs_below hT c4
          go_wp2_with fail
          refine (Hub.textOk_any y _ (by omega) T4).mono ?_
          rintro e w5 ⟨rfl, b5⟩
          rw [hy]
          have c5 := c4.trans (b5.mono c4.size)
          have T5 := Utf8Tabs_below hT c5
          go_wp2_with fail
          refine (Hub.specTextOk_any y _ (by omega)).mono ?_
          rintro e w6 ⟨rfl, b6⟩
          rw [hy]
          have c6 := c5.trans (b6.mono c5.size)
          have T6 := Utf8Tabs_below hT c6
          go_wp2_with fail
          refine (Hub.textOk_any x _ (by omega) T6).mono ?_
          rintro e w7 ⟨rfl, b7⟩
          rw [hx]
          have c7 := c6.trans (b7.mono c6.size)
          have T7 := Utf8Tabs_below hT c7
          go_wp2_with fail
          refine (Hub.textOk_any x _ (by omega) T7).mono ?_
          rintro e w8 ⟨rfl, b8⟩
          rw [hx]
          have c8 := c7.trans (b8.mono c7.size)
          have T8 := Utf8Tabs_below hT c8
          go_wp2_with fail
          go_ret
          exact ⟨rfl, c8⟩
      · have hxy0 := HC.out hx
        cases hy : Hub.okT y
        · have hxy : Hub.okT (x ++ y) = false := hxy0.trans hy
          clear HC hxy0
          go_wp2_with fail
          refine (Hub.textOk_any x _ (by omega) T2).mono ?_
          rintro e w3 ⟨rfl, b3⟩
          rw [hx]
          have c3 := c2.trans (b3.mono c2.size)
          have T3 := Utf8Tabs_below hT c3
          go_wp2_with fail
          refine (Hub.specTextOk_any x _ (by omega)).mono ?_
          rintro e w4 ⟨rfl, b4⟩
          rw [hx]
          have c4 := c3.trans (b4.mono c3.size)
          have T4 := Utf8Tabs_below hT c4
          go_wp2_with fail
          refine (Hub.textOk_any y _ (by omega) T4).mono ?_
          rintro e w5 ⟨rfl, b5⟩
          rw [hy]
          have c5 := c4.trans (b5.mono c4.size)
          have T5 := Utf8Tabs_below hT c5
          go_wp2_with fail
          refine (Hub.specTextOk_any y _ (by omega)).mono ?_
          rintro e w6 ⟨rfl, b6⟩
          rw [hy]
          have c6 := c5.trans (b6.mono c5.size)
          have T6 := Utf8Tabs_below hT c6
          go_wp2_with fail
          refine (Hub.textOk_any x _ (by omega) T6).mono ?_
          rintro e w7 ⟨rfl, b7⟩
          rw [hx]
          have c7 := c6.trans (b7.mono c6.size)
          have T7 := Utf8Tabs_below hT c7
          go_wp2_with fail
          refine (Hub.textOk_any y _ (by omega) T7).mono ?_
          rintro e w8 ⟨rfl, b8⟩
          rw [hy]
          have c8 := c7.trans (b8.mono c7.size)
          have T8 := Utf8Tabs_below hT c8
          go_wp2_with fail
          refine (Hub.textOk_any x _ (by omega) T8).mono ?_
          rintro e w9 ⟨rfl, b9⟩
          rw [hx]
          have c9 := c8.trans (b9.mono c8.size)
          have T9 := Utf8Tabs_below hT c9
          go_wp2_with fail
          refine (Hub.textOk_any (x ++ y) _ (by omega) T9).mono ?_
          rintro e w10 ⟨rfl, b10⟩
          rw [hxy]
          have c10 := c9.trans (b10.mono c9.size)
          have T10 := Utf8Tabs_below hT c10
          go_wp2_with fail
          go_ret
          exact ⟨rfl, c10⟩
        · have hxy : Hub.okT (x ++ y) = true := hxy0.trans hy
          have hes0 := Hub.esc_two hx hy hxy
          have hes : Hub.escT (x ++ y) = Hub.escT x ++ Hub.escT y := hes0
          have s1 : (Hub.escT x).size ≤ 1200 := by
            unfold Hub.escT
            rw [if_pos hx, Hub.ofL_size]
            have h1 := Hub.escL_le x.data.toList
            have h2 : x.size = x.data.toList.length := rfl
            omega
          have s2 : (Hub.escT y).size ≤ 1200 := by
            unfold Hub.escT
            rw [if_pos hy, Hub.ofL_size]
            have h1 := Hub.escL_le y.data.toList
            have h2 : y.size = y.data.toList.length := rfl
            omega
          obtain ⟨X, hX⟩ : ∃ X, Hub.escT x = X := ⟨_, rfl⟩
          obtain ⟨Y, hY⟩ : ∃ Y, Hub.escT y = Y := ⟨_, rfl⟩
          rw [hX] at s1 hes
          rw [hY] at s2 hes
          have HES : Hid (Hub.escT (x ++ y) = X ++ Y) := hes
          have HX : Hid (Hub.escT x = X) := hX
          have HY : Hid (Hub.escT y = Y) := hY
          clear HC hxy0 hes0 hes hX hY
          go_wp2_with fail
          refine (Hub.textOk_any x _ (by omega) T2).mono ?_
          rintro e w3 ⟨rfl, b3⟩
          rw [hx]
          have c3 := c2.trans (b3.mono c2.size)
          have T3 := Utf8Tabs_below hT c3
          go_wp2_with fail
          refine (Hub.specTextOk_any x _ (by omega)).mono ?_
          rintro e w4 ⟨rfl, b4⟩
          rw [hx]
          have c4 := c3.trans (b4.mono c3.size)
          have T4 := Utf8Tabs_below hT c4
          go_wp2_with fail
          refine (Hub.textOk_any y _ (by omega) T4).mono ?_
          rintro e w5 ⟨rfl, b5⟩
          rw [hy]
          have c5 := c4.trans (b5.mono c4.size)
          have T5 := Utf8Tabs_below hT c5
          go_wp2_with fail
          refine (Hub.specTextOk_any y _ (by omega)).mono ?_
          rintro e w6 ⟨rfl, b6⟩
          rw [hy]
          have c6 := c5.trans (b6.mono c5.size)
          have T6 := Utf8Tabs_below hT c6
          go_wp2_with fail
          refine (Hub.textOk_any x _ (by omega) T6).mono ?_
          rintro e w7 ⟨rfl, b7⟩
          rw [hx]
          have c7 := c6.trans (b7.mono c6.size)
          have T7 := Utf8Tabs_below hT c7
          go_wp2_with fail
          refine (Hub.textOk_any y _ (by omega) T7).mono ?_
          rintro e w8 ⟨rfl, b8⟩
          rw [hy]
          have c8 := c7.trans (b8.mono c7.size)
          have T8 := Utf8Tabs_below hT c8
          go_wp2_with fail
          refine (Hub.textOk_any (x ++ y) _ (by omega) T8).mono ?_
          rintro e w9 ⟨rfl, b9⟩
          rw [hxy]
          have c9 := c8.trans (b9.mono c8.size)
          have T9 := Utf8Tabs_below hT c9
          go_wp2_with fail
          refine (Hub.escape_any (x ++ y) _ (by omega) T9).mono ?_
          rintro e w10 ⟨rfl, b10⟩
          rw [HES.out]
          have c10 := c9.trans (b10.mono c9.size)
          have T10 := Utf8Tabs_below hT c10
          go_wp2_with fail
          refine (Hub.escape_any x _ (by omega) T10).mono ?_
          rintro e w11 ⟨rfl, b11⟩
          rw [HX.out]
          have c11 := c10.trans (b11.mono c10.size)
          have T11 := Utf8Tabs_below hT c11
          go_wp2_with fail
          refine (Hub.escape_any y _ (by omega) T11).mono ?_
          rintro e w12 ⟨rfl, b12⟩
          rw [HY.out]
          have c12 := c11.trans (b12.mono c11.size)
          have T12 := Utf8Tabs_below hT c12
          go_wp2_with fail
          go_ret
          exact ⟨rfl, c12⟩

theorem own : ownKnob Tryd.prog.godebug = none := by kernel_rfl
theorem tabs_of {W : World} (h : laidMetH Tryd.prog Rows.fnTextTwoRow.laid W) : Hub.Tabs W := by
  rw [MakeChecks.laidMetH_plain _ _ _ (by kernel_rfl)] at h
  have e1 : Rows.laid_unicode_utf8_acceptRanges = Lib.acceptData := by kernel_rfl
  have e2 : Rows.laid_unicode_utf8_first = Lib.firstData := Pinned.utf8First_eq
  have r1 := Lib.laidMet.reads h (.head _)
  have r2 := Lib.laidMet.reads h (.tail _ (.head _))
  rw [e1] at r1
  rw [e2] at r2
  exact utf8Tabs_of_readsT (U8Types.of196 Tryd.lays196) ⟨by kernel_rfl, by kernel_rfl, by kernel_rfl, by kernel_rfl, by kernel_rfl, by kernel_rfl, by kernel_rfl⟩ r2 r1

theorem laidOut : laidOutB Tryd.prog = true := by kernel_rfl
set_option maxRecDepth 100000 in
theorem lifted (os : Os) (started : os.Started) (H : Type) (enc : TypeId × Value → H) :
    ReturnsInHanded {} Tryd.checked os 6 .any (fun w args => (Rows.fnTextTwoSpec.pre enc Tryd.prog Tryd.f6 Rows.fnTextTwoRow.domain false w args ∧ laidMetH Tryd.prog Rows.fnTextTwoRow.laid w) ∧ sizedMet enc Tryd.prog Tryd.f6 (OpenSpec.ofChange Rows.fnTextTwoSpec) false w args)
      (Rows.fnTextTwoSpec.post enc Tryd.prog Tryd.f6 false true false false) := by
  refine returnsInHanded_of_change_and (C := Tryd.checked) (X := fun w _ => laidMetH Tryd.prog Rows.fnTextTwoRow.laid w) (fun _ _ _ hh h => h.of_heap hh) own started (by kernel_rfl) Tryd.func6
    (ChangeSpec.witness_shaped (enc := enc) (C := Tryd.checked) (os := os) (X := fun w _ => laidMetH Tryd.prog Rows.fnTextTwoRow.laid w) false (World.laidAll Tryd.prog os Rows.fnTextTwoRow.laid) #[.slice none 0 0, .slice none 0 0] 8 (World.laidAll_os _ _ _)
      (World.shaped_of_ZipB (by kernel_rfl) (by kernel_rfl)) (by kernel_rfl) (by kernel_rfl) (by kernel_rfl)
      (by rw [MakeChecks.laidMetH_plain _ _ _ (by kernel_rfl)]; exact laidMet_laidAll _ (by kernel_rfl) (by kernel_rfl))) ?_
  intro W base args ds gs before hval0 hW hc _ hL _
  have hval : ∀ (j : Nat) t v, Tryd.f6.params[j]? = some t → args[j]? = some v → Value.okWide Tryd.prog W .any base t v := hval0
  have hW' := hW
  obtain ⟨p, q, hA0, hV, rfl, _, _⟩ := hW
  have hA : DataW.TrodAll enc Tryd.prog W 0 (fun _ => true) true Tryd.f6.params.toList args.toList ds p := hA0
  rw [Tryd.params6] at hA hval
  obtain ⟨v0, v1, d0, d1, p0, p1, rfl, rfl, rfl, h0, h1⟩ := trodAll_two hA
  obtain ⟨rfl, rfl⟩ := trodVars_none hV
  obtain ⟨n0, hb0⟩ := Hub.open_bytes (hval 0 22 v0 rfl rfl) h0
  obtain ⟨n1, hb1⟩ := Hub.open_bytes (hval 1 22 v1 rfl rfl) h1
  simp only [List.append_nil] at hW'
  have hlt0 : ∀ x ∈ p0, x.block < W.heap.size := fun x hx => by simpa using hW'.lt x (List.mem_append.2 (.inl hx))
  have hlt1 : ∀ x ∈ p1, x.block < W.heap.size := fun x hx => by simpa using hW'.lt x (List.mem_append.2 (.inr hx))
  refine (walk v0 v1 n0 n1 W (tabs_of hL) hb0 hb1).mono fun e W' ⟨he, bel⟩ => ?_
  subst he
  exact ⟨_, rfl, _, _, _, [], _, [], hW', trodAll_mk1 (shut_bool Tryd.underlying4 _), trodAll_mk2 (Below.trod laidOut (by kernel_rfl) (of_decide_eq_true (by kernel_rfl)) h0 bel hlt0) (Below.trod laidOut (by kernel_rfl) (of_decide_eq_true (by kernel_rfl)) h1 bel hlt1), rfl, bel.frame _, fun h => by cases h⟩

theorem holds : Rows.FnTextTwoSaid :=
  OpenClaim.holds_of_wide 6 Tryd.f6 rfl rfl rfl rfl rfl rfl rfl ⟨rfl, rfl, rfl, rfl, rfl⟩ rfl rfl rfl rfl rfl (by kernel_rfl) Tryd.func6 (by kernel_rfl)
    (of_decide_eq_true (by kernel_rfl)) (by unfold Func.isWrapper; first | (rw [if_pos (by decide +kernel)]; kernel_rfl) | (rw [if_neg (by decide +kernel)]; exact ⟨rfl, rfl⟩))
    (fun os started H enc _ => lifted os started H enc)
theorem card_holds : Rows.FnTextTwoCardSaid :=
  Claim7.holds_tied_plain_at .later [] [.data, .pinned] true (true, "1961522794bbe4d1d27ede83d80fed02c69383b5dd41ec11586a672cbfce1179") true holds (fun _ h => by cases h) (by kernel_rfl) (fun _ h => by cases h) fnTextTwo_row_tie rfl ⟨rfl, rfl⟩ (by kernel_rfl) rfl
    (fun f fn hf hfn => by
      obtain rfl : f = 6 := Option.some.inj ((show Tryd.prog.funcNamed Rows.fnTextTwoRow.func = some 6 by kernel_rfl).symm.trans hf) |>.symm
      obtain rfl : fn = Tryd.f6 := (Option.some.inj (Tryd.func6.symm.trans hfn)).symm
      exact ⟨by kernel_rfl, fun j t ht => by
        rw [Tryd.params6] at ht
        have hm : t ∈ [22] := by simpa using Array.mem_of_getElem? ht
        have hall : ([22].all fun u => !Tryd.prog.wantsStandIn u) = true := by kernel_rfl
        exact (show Tryd.prog.wantsStandIn t = false by simpa using List.all_eq_true.1 hall t hm)⟩)
    (by kernel_rfl)
#print axioms card_holds
end Go.Proofs.YtkacbbkpglmibaaDoor.fnTextTwo

namespace Go.Proofs.YtkacbbkpglmibaaDoor
/-- The statement. -/
theorem fnTextTwo_card : Rows.FnTextTwoCardSaid := fnTextTwo.card_holds
end Go.Proofs.YtkacbbkpglmibaaDoor
