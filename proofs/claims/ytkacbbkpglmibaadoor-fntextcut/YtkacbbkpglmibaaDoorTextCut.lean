/-
  For every two slices of bytes the law FnTextCut returns true: where a drawn text that is ok is cut within a sign neither piece is ok by impl.TextOk, and elsewhere both are. Its condition: the two tables of unicode/utf8 are as the library's text lays them (the card ties them to the program's text); the law itself passes slices of more than 1048576 bytes by.
-/
import Derived.Test.YtkacbbkpglmibaaDoorRows
import Derived.Test.YtkacbbkpglmibaaDoorTie
import Derived.Test.YtkacbbkpglmibaaDoorCards
import Derived.Test.YtkacbbkpglmibaaDoorTextImpl
import Derived.Test.YtkacbbkpglmibaaDoorCutPlain
import Derived.Test.YtkacbbkpglmibaaDoorArg
import Derived.Lib.LaidU8T
import Derived.PinnedBridge
import Derived.ProofKit
import Derived.OpenShut
import Derived.ShutString
import Derived.LaidMore
import Derived.Lay
import Derived.SevenTiedAt
import Derived.Stop.Joined
namespace Go.Proofs.YtkacbbkpglmibaaDoor.fnTextCut
open Go.ChangeShapes Go.WideShapes Go.ChangeAt Go.RowKit Go.Shelf
open Go.ChangeMaps (open_string shut_string)
set_option linter.unusedVariables false

set_option maxRecDepth 100000 in
set_option maxHeartbeats 1000000 in
theorem walk (v1 v2 : Value) (n1 n2 : Nat) (w : World) (hT : Hub.Tabs w) (hb1 : Hub.BytesAt w.heap.size w v1 n1) (hb2 : Hub.BytesAt w.heap.size w v2 n2) :
    Calls Tryd.prog 7 #[v1, v2] w fun e w' => e = .returned (.bool true) ∧ Below w.heap.size w w' := by
  obtain ⟨o1, cap1, rfl⟩ := Hub.bytes_shape hb1
  obtain ⟨o2, cap2, rfl⟩ := Hub.bytes_shape hb2
  by_cases hbig : (1048576 : Int) < (n1 : Int)
  · go_enter Tryd.func7, Tryd.ntmps7
    go_wp2_with fail
    go_ret
    exact ⟨rfl, Below.refl _ _⟩
  · by_cases hbig2 : (1048576 : Int) < (n2 : Int)
    · go_enter Tryd.func7, Tryd.ntmps7
      go_wp2_with fail
      go_ret
      exact ⟨rfl, Below.refl _ _⟩
    · go_enter Tryd.func7, Tryd.ntmps7
      go_wp2_with fail
      refine (Hub.drawTextOk_any _ n1 _ hb1).mono ?_
      rintro e w1 ⟨⟨a, t, ha, ht, rfl⟩, b1⟩
      have hcut := fun hok k hk => Hub.cut_any ha ht hok k hk
      have hsz : (a ++ t).size ≤ 200 := by rw [ByteArray.size_append]; have := Hub.texts_small a ha; have := Hub.ends_small t ht; omega
      generalize a ++ t = s at *
      have HC : Hid (∀ (hok : Hub.okT s = true) k (hk : k ≤ s.size), Hub.okT (s.extract 0 k) = (!Hub.withinB s k) ∧ Hub.okT (s.extract k s.size) = (!Hub.withinB s k)) := hcut
      clear hcut ha ht
      have hs : s.size ≤ 9223372036854775800 := by omega
      have hT1 := Utf8Tabs_below hT b1
      go_wp2_with fail
      refine (Hub.textOk_any s _ hs hT1).mono ?_
      rintro e w2 ⟨rfl, b2⟩
      have hT2 := Utf8Tabs_below hT1 b2
      go_wp2_with fail
      refine (Hub.specTextOk_any s _ hs).mono ?_
      rintro e w3 ⟨rfl, b3⟩
      have hT3 := Utf8Tabs_below hT2 b3
      cases hok : Hub.okT s
      · go_wp2_with fail
        refine (Hub.textOk_any s _ hs hT3).mono ?_
        rintro e w4 ⟨rfl, b4⟩
        rw [hok]
        have hT4 := Utf8Tabs_below hT3 b4
        go_wp2_with fail
        refine (Hub.textOk_any s _ hs hT4).mono ?_
        rintro e w5 ⟨rfl, b5⟩
        rw [hok]
        go_wp2_with fail
        refine (Hub.specTextOk_any s _ hs).mono ?_
        rintro e w6 ⟨rfl, b6⟩
        rw [hok]
        have c2 := b1.trans (b2.mono b1.size)
        have c3 := c2.trans (b3.mono c2.size)
        have c4 := c3.trans (b4.mono c3.size)
        have c5 := c4.trans (b5.mono c4.size)
        have c6 := c5.trans (b6.mono c5.size)
        go_wp2_with fail
        go_ret
        exact ⟨rfl, c6⟩
      · go_wp2_with fail
        refine (Hub.textOk_any s _ hs hT3).mono ?_
        rintro e w4 ⟨rfl, b4⟩
        rw [hok]
        have hT4 := Utf8Tabs_below hT3 b4
        obtain ⟨K, hK, hKe⟩ : ∃ K : Nat, K ≤ s.size ∧ (n2 : Int) % ((s.size : Int) + 1) = (K : Int) := ⟨n2 % (s.size + 1), by have := Nat.mod_lt n2 (show 0 < s.size + 1 by omega); omega, by rw [Int.natCast_emod]; rfl⟩
        have hcut := HC.out hok K hK
        have HC2 : Hid (Hub.okT (s.extract 0 K) = (!Hub.withinB s K) ∧ Hub.okT (s.extract K s.size) = (!Hub.withinB s K)) := hcut
        clear HC hcut
        by_cases hlt : K < s.size
        · have hli : (K : Int) < (s.size : Int) := by omega
          have hg : (s.get! K).toNat = s[K].toNat := Hub.get_lt s K hlt
          by_cases h1 : 128 ≤ s[K].toNat
          · have h1i : (128 : Int) ≤ (s[K].toNat : Int) := by omega
            by_cases h2 : s[K].toNat < 192
            · have h2i : (s[K].toNat : Int) < 192 := by omega
              have hw : Hub.withinB s K = true := by unfold Hub.withinB; rw [hg, decide_eq_true hlt, decide_eq_true h1, decide_eq_true h2]; rfl
              clear hg
              go_wp2_with fail
              refine (Hub.textOk_any (s.extract 0 K) _ (by rw [ByteArray.size_extract]; omega) hT4).mono ?_
              rintro e w5 ⟨rfl, b5⟩
              rw [HC2.out.1, hw]
              have hT5 := Utf8Tabs_below hT4 b5
              go_wp2_with fail
              refine (Hub.textOk_any (s.extract K s.size) _ (by rw [ByteArray.size_extract]; omega) hT5).mono ?_
              rintro e w6 ⟨rfl, b6⟩
              rw [HC2.out.2, hw]
              have c2 := b1.trans (b2.mono b1.size)
              have c3 := c2.trans (b3.mono c2.size)
              have c4 := c3.trans (b4.mono c3.size)
              have c5 := c4.trans (b5.mono c4.size)
              have c6 := c5.trans (b6.mono c5.size)
              go_wp2_with fail
              go_ret
              exact ⟨rfl, c6⟩
            · have h2i : ¬ (s[K].toNat : Int) < 192 := by omega
              have hw : Hub.withinB s K = false := by unfold Hub.withinB; rw [hg, decide_eq_false h2]; simp
              clear hg
              go_wp2_with fail
              refine (Hub.textOk_any (s.extract 0 K) _ (by rw [ByteArray.size_extract]; omega) hT4).mono ?_
              rintro e w5 ⟨rfl, b5⟩
              rw [HC2.out.1, hw]
              have hT5 := Utf8Tabs_below hT4 b5
              go_wp2_with fail
              refine (Hub.textOk_any (s.extract K s.size) _ (by rw [ByteArray.size_extract]; omega) hT5).mono ?_
              rintro e w6 ⟨rfl, b6⟩
              rw [HC2.out.2, hw]
              have c2 := b1.trans (b2.mono b1.size)
              have c3 := c2.trans (b3.mono c2.size)
              have c4 := c3.trans (b4.mono c3.size)
              have c5 := c4.trans (b5.mono c4.size)
              have c6 := c5.trans (b6.mono c5.size)
              go_wp2_with fail
              go_ret
              exact ⟨by show Ending.returned (.bool (!decide ((s[K].toNat : Int) < 192))) = _; rw [decide_eq_false (by omega)]; rfl, c6⟩
          · have h1i : ¬ (128 : Int) ≤ (s[K].toNat : Int) := by omega
            have hw : Hub.withinB s K = false := by unfold Hub.withinB; rw [hg, decide_eq_false h1]; simp
            clear hg
            go_wp2_with fail
            refine (Hub.textOk_any (s.extract 0 K) _ (by rw [ByteArray.size_extract]; omega) hT4).mono ?_
            rintro e w5 ⟨rfl, b5⟩
            rw [HC2.out.1, hw]
            have hT5 := Utf8Tabs_below hT4 b5
            go_wp2_with fail
            refine (Hub.textOk_any (s.extract K s.size) _ (by rw [ByteArray.size_extract]; omega) hT5).mono ?_
            rintro e w6 ⟨rfl, b6⟩
            rw [HC2.out.2, hw]
            have c2 := b1.trans (b2.mono b1.size)
            have c3 := c2.trans (b3.mono c2.size)
            have c4 := c3.trans (b4.mono c3.size)
            have c5 := c4.trans (b5.mono c4.size)
            have c6 := c5.trans (b6.mono c5.size)
            go_wp2_with fail
            go_ret
            exact ⟨rfl, c6⟩
        · have hli : ¬ (K : Int) < (s.size : Int) := by omega
          have hw : Hub.withinB s K = false := by unfold Hub.withinB; rw [decide_eq_false hlt]; rfl
          go_wp2_with fail
          refine (Hub.textOk_any (s.extract 0 K) _ (by rw [ByteArray.size_extract]; omega) hT4).mono ?_
          rintro e w5 ⟨rfl, b5⟩
          rw [HC2.out.1, hw]
          have hT5 := Utf8Tabs_below hT4 b5
          go_wp2_with fail
          refine (Hub.textOk_any (s.extract K s.size) _ (by rw [ByteArray.size_extract]; omega) hT5).mono ?_
          rintro e w6 ⟨rfl, b6⟩
          rw [HC2.out.2, hw]
          have c2 := b1.trans (b2.mono b1.size)
          have c3 := c2.trans (b3.mono c2.size)
          have c4 := c3.trans (b4.mono c3.size)
          have c5 := c4.trans (b5.mono c4.size)
          have c6 := c5.trans (b6.mono c5.size)
          go_wp2_with fail
          go_ret
          exact ⟨rfl, c6⟩

theorem own : ownKnob Tryd.prog.godebug = none := by kernel_rfl
theorem tabs_of {W : World} (h : laidMetH Tryd.prog Rows.fnTextCutRow.laid W) : Hub.Tabs W := by
  rw [MakeChecks.laidMetH_plain _ _ _ (by kernel_rfl)] at h
  have e1 : Rows.laid_unicode_utf8_acceptRanges = Lib.acceptData := by kernel_rfl
  have e2 : Rows.laid_unicode_utf8_first = Lib.firstData := Pinned.utf8First_eq
  have r1 := Lib.laidMet.reads h (.head _)
  have r2 := Lib.laidMet.reads h (.tail _ (.head _))
  rw [e1] at r1
  rw [e2] at r2
  exact utf8Tabs_of_readsT (U8Types.of196 Tryd.lays196) ⟨by kernel_rfl, by kernel_rfl, by kernel_rfl, by kernel_rfl, by kernel_rfl, by kernel_rfl, by kernel_rfl⟩ r2 r1

theorem laidOut : laidOutB Tryd.prog = true := by kernel_rfl
set_option maxRecDepth 100000 in
theorem lifted (os : Os) (started : os.Started) (H : Type) (enc : TypeId × Value → H) :
    ReturnsInHanded {} Tryd.checked os 7 .any (fun w args => (Rows.fnTextCutSpec.pre enc Tryd.prog Tryd.f7 Rows.fnTextCutRow.domain false w args ∧ laidMetH Tryd.prog Rows.fnTextCutRow.laid w) ∧ sizedMet enc Tryd.prog Tryd.f7 (OpenSpec.ofChange Rows.fnTextCutSpec) false w args)
      (Rows.fnTextCutSpec.post enc Tryd.prog Tryd.f7 false true false false) := by
  refine returnsInHanded_of_change_and (C := Tryd.checked) (X := fun w _ => laidMetH Tryd.prog Rows.fnTextCutRow.laid w) (fun _ _ _ hh h => h.of_heap hh) own started (by kernel_rfl) Tryd.func7
    (ChangeSpec.witness_shaped (enc := enc) (C := Tryd.checked) (os := os) (X := fun w _ => laidMetH Tryd.prog Rows.fnTextCutRow.laid w) false (World.laidAll Tryd.prog os Rows.fnTextCutRow.laid) #[.slice none 0 0, .slice none 0 0] 8 (World.laidAll_os _ _ _)
      (World.shaped_of_ZipB (by kernel_rfl) (by kernel_rfl)) (by kernel_rfl) (by kernel_rfl) (by kernel_rfl)
      (by rw [MakeChecks.laidMetH_plain _ _ _ (by kernel_rfl)]; exact laidMet_laidAll _ (by kernel_rfl) (by kernel_rfl))) ?_
  intro W base args ds gs before hval0 hW hc _ hL _
  have hval : ∀ (j : Nat) t v, Tryd.f7.params[j]? = some t → args[j]? = some v → Value.okWide Tryd.prog W .any base t v := hval0
  have hW' := hW
  obtain ⟨p, q, hA0, hV, rfl, _, _⟩ := hW
  have hA : DataW.TrodAll enc Tryd.prog W 0 (fun _ => true) true Tryd.f7.params.toList args.toList ds p := hA0
  rw [Tryd.params7] at hA hval
  obtain ⟨v0, v1, d0, d1, p0, p1, rfl, rfl, rfl, h0, h1⟩ := trodAll_two hA
  obtain ⟨rfl, rfl⟩ := trodVars_none hV
  obtain ⟨n0, hb0⟩ := Hub.open_bytes (hval 0 22 v0 rfl rfl) h0
  obtain ⟨n1, hb1⟩ := Hub.open_bytes (hval 1 22 v1 rfl rfl) h1
  simp only [List.append_nil] at hW'
  have hlt0 : ∀ x ∈ p0, x.block < W.heap.size := fun x hx => by simpa using hW'.lt x (List.mem_append.2 (.inl hx))
  have hlt1 : ∀ x ∈ p1, x.block < W.heap.size := fun x hx => by simpa using hW'.lt x (List.mem_append.2 (.inr hx))
  refine (walk v0 v1 n0 n1 W (tabs_of hL) hb0 hb1).mono fun e W' ⟨he, bel⟩ => ?_
  subst he
  exact ⟨_, rfl, _, _, _, [], _, [], hW', trodAll_mk1 (shut_bool Tryd.underlying4 _), trodAll_mk2 (Below.trod laidOut (by kernel_rfl) (of_decide_eq_true (by kernel_rfl)) h0 bel hlt0) (Below.trod laidOut (by kernel_rfl) (of_decide_eq_true (by kernel_rfl)) h1 bel hlt1), rfl, bel.frame _, fun h => by cases h⟩

theorem holds : Rows.FnTextCutSaid :=
  OpenClaim.holds_of_wide 7 Tryd.f7 rfl rfl rfl rfl rfl rfl rfl ⟨rfl, rfl, rfl, rfl, rfl⟩ rfl rfl rfl rfl rfl (by kernel_rfl) Tryd.func7 (by kernel_rfl)
    (of_decide_eq_true (by kernel_rfl)) (by unfold Func.isWrapper; first | (rw [if_pos (by decide +kernel)]; kernel_rfl) | (rw [if_neg (by decide +kernel)]; exact ⟨rfl, rfl⟩))
    (fun os started H enc _ => lifted os started H enc)
theorem card_holds : Rows.FnTextCutCardSaid :=
  Claim7.holds_tied_plain_at .later [] [.data, .pinned] true (true, "1961522794bbe4d1d27ede83d80fed02c69383b5dd41ec11586a672cbfce1179") true holds (fun _ h => by cases h) (by kernel_rfl) (fun _ h => by cases h) fnTextCut_row_tie rfl ⟨rfl, rfl⟩ (by kernel_rfl) rfl
    (fun f fn hf hfn => by
      obtain rfl : f = 7 := Option.some.inj ((show Tryd.prog.funcNamed Rows.fnTextCutRow.func = some 7 by kernel_rfl).symm.trans hf) |>.symm
      obtain rfl : fn = Tryd.f7 := (Option.some.inj (Tryd.func7.symm.trans hfn)).symm
      exact ⟨by kernel_rfl, fun j t ht => by
        rw [Tryd.params7] at ht
        have hm : t ∈ [22] := by simpa using Array.mem_of_getElem? ht
        have hall : ([22].all fun u => !Tryd.prog.wantsStandIn u) = true := by kernel_rfl
        exact (show Tryd.prog.wantsStandIn t = false by simpa using List.all_eq_true.1 hall t hm)⟩)
    (by kernel_rfl)
#print axioms card_holds
end Go.Proofs.YtkacbbkpglmibaaDoor.fnTextCut

namespace Go.Proofs.YtkacbbkpglmibaaDoor
/-- The statement. -/
theorem fnTextCut_card : Rows.FnTextCutCardSaid := fnTextCut.card_holds
end Go.Proofs.YtkacbbkpglmibaaDoor
