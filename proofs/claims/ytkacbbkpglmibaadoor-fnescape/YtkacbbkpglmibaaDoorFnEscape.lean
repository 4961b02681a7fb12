/-
  For every slice of bytes the law FnEscape returns true: a drawn text that is ok comes back from impl.Escape by impl.Unescape, and no sign of the escaped one would mark something; of one that is not ok impl.Escape is the empty text. Its condition: the variables of the library that are listed are as the library's text lays them (the card ties them to the program's text); the law itself passes slices of more than 1048576 bytes by.
-/
import Derived.Test.YtkacbbkpglmibaaDoorRows
import Derived.Test.YtkacbbkpglmibaaDoorTie
import Derived.Test.YtkacbbkpglmibaaDoorCards
import Derived.Test.YtkacbbkpglmibaaDoorBackPlain
import Derived.Test.YtkacbbkpglmibaaDoorUnImpl
import Derived.Test.YtkacbbkpglmibaaDoorArgB
import Derived.Lib.LaidU8T
import Derived.PinnedBridge
import Derived.ProofKit
import Derived.OpenShut
import Derived.ShutString
import Derived.LaidMore
import Derived.Lay
import Derived.SevenTiedAt
import Derived.Stop.Joined
namespace Go.Proofs.YtkacbbkpglmibaaDoor.fnEscape
open Go.ChangeShapes Go.WideShapes Go.ChangeAt Go.RowKit Go.Shelf
open Go.ChangeMaps (open_string shut_string)
set_option linter.unusedVariables false

set_option maxRecDepth 100000 in
set_option maxHeartbeats 2000000 in
theorem walk (v1 : Value) (n1 : Nat) (w : World) (hE : Hub.Env w) (hb1 : Hub.BytesAt w.heap.size w v1 n1) :
    Calls Tryd.prog 3 #[v1] w fun e w' => e = .returned (.bool true) ∧ Below w.heap.size w w' := by
  obtain ⟨o1, cap1, rfl⟩ := Hub.bytes_shape hb1
  by_cases hbig : (1048576 : Int) < (n1 : Int)
  · go_enter Tryd.func3, Tryd.ntmps3
    go_wp2_with fail
    go_ret
    exact ⟨rfl, Below.refl _ _⟩
  · go_enter Tryd.func3, Tryd.ntmps3
    go_wp2_with fail
    refine (Hub.drawEscape_any _ n1 _ hb1).mono ?_
    rintro e w1 ⟨⟨a, t, ha, ht, rfl⟩, c1⟩
    have hback := fun hok => Hub.back_any ha ht hok
    have hsz : (a ++ t).size ≤ 200 := by rw [ByteArray.size_append]; have := Hub.texts_small a ha; have := Hub.ends_small t ht; omega
    generalize a ++ t = x at *
    have HC : Hid (∀ (hok : Hub.okT x = true), Hub.unT (Hub.escT x) = (x, true) ∧ Hub.okT (Hub.escT x) = true ∧ (Hub.escT x).size ≤ 600 ∧ (Hub.escT x).data.toList.all Hub.plainB = true) := hback
    clear hback ha ht a t
    have E1 := hE.below c1
    go_wp2_with fail
    refine (Hub.escape_any x _ (by omega) E1.1).mono ?_
    rintro e w2 ⟨rfl, b2⟩
    have c2 := c1.trans (b2.mono c1.size)
    have E2 := hE.below c2
    cases hx : Hub.okT x
    · have he : Hub.escT x = ⟨#[]⟩ := by unfold Hub.escT; rw [hx]; rfl
      have HE0 : Hid (Hub.escT x = ⟨#[]⟩) := he
      rw [he]
      clear he HC
      go_wp2_with fail
      refine (Hub.specEscape_any x _ (by omega)).mono ?_
      rintro e w3 ⟨rfl, b3⟩
      rw [HE0.out]
      have c3 := c2.trans (b3.mono c2.size)
      have E3 := hE.below c3
      go_wp2_with fail
      refine (Hub.textOk_any x _ (by omega) E3.1).mono ?_
      rintro e w4 ⟨rfl, b4⟩
      rw [hx]
      have c4 := c3.trans (b4.mono c3.size)
      go_wp2_with fail
      refine (Hub.specEscape_any x _ (by omega)).mono ?_
      rintro e w5 ⟨rfl, b5⟩
      rw [HE0.out]
      have c5 := c4.trans (b5.mono c4.size)
      go_wp2_with fail
      go_ret
      exact ⟨rfl, c5⟩
    · obtain ⟨hu, hok2, hes, hpl⟩ := HC.out hx
      obtain ⟨E, hEe⟩ : ∃ E, Hub.escT x = E := ⟨_, rfl⟩
      rw [hEe] at hu hok2 hes hpl ⊢
      have HEE : Hid (Hub.escT x = E) := hEe
      have HU : Hid (Hub.unT E = (x, true)) := hu
      have HP : Hid (∀ k (hk : k < E.size), E[k].toNat ≠ 60 ∧ E[k].toNat ≠ 62 ∧ E[k].toNat ≠ 39 ∧ E[k].toNat ≠ 34) := fun k hk => Hub.plain_at hpl k hk
      clear HC hEe hu hpl
      go_wp2_with fail
      refine (Hub.specEscape_any x _ (by omega)).mono ?_
      rintro e w3 ⟨rfl, b3⟩
      rw [HEE.out]
      have c3 := c2.trans (b3.mono c2.size)
      have E3 := hE.below c3
      go_wp2_with fail
      refine (Hub.textOk_any x _ (by omega) E3.1).mono ?_
      rintro e w4 ⟨rfl, b4⟩
      rw [hx]
      have c4 := c3.trans (b4.mono c3.size)
      have E4 := hE.below c4
      go_wp2_with fail
      refine (Hub.unescape_any E _ (by omega) E4).mono ?_
      rintro e w5 ⟨rfl, b5⟩
      rw [HU.out]
      have c5 := c4.trans (b5.mono c4.size)
      have E5 := hE.below c5
      go_wp2_with fail
      go_loop [7] (fun a => ∃ k : Nat, k ≤ E.size ∧ a = .int .i64 k) (fun a => E.size - (intOf a).toNat)
      case atStart => exact ⟨0, Nat.zero_le _, rfl⟩
      case round =>
        obtain ⟨k, hk, rfl⟩ := hrel
        by_cases hlt : k < E.size
        · obtain ⟨p1, p2, p3, p4⟩ := HP.out k hlt
          have q1 : ((E[k].toNat : Int) == 60) = false := by rw [beq_eq_false_iff_ne]; omega
          have q2 : ((E[k].toNat : Int) == 62) = false := by rw [beq_eq_false_iff_ne]; omega
          have q3 : ((E[k].toNat : Int) == 39) = false := by rw [beq_eq_false_iff_ne]; omega
          have q4 : ((E[k].toNat : Int) == 34) = false := by rw [beq_eq_false_iff_ne]; omega
          clear p1 p2 p3 p4
          go_wp2_with fail
          go_round
          case rel => exact ⟨k + 1, by omega, by go_num⟩
          case measure => simp [intOf]; omega
        · go_wp2_with fail
          refine (Hub.textOk_any E _ (by omega) E5.1).mono ?_
          rintro e w6 ⟨rfl, b6⟩
          rw [hok2]
          have c6 := c5.trans (b6.mono c5.size)
          go_wp2_with fail
          go_ret
          exact ⟨rfl, c6⟩

theorem own : ownKnob Tryd.prog.godebug = none := by kernel_rfl
theorem env_of {W : World} (h : laidMetH Tryd.prog Rows.fnEscapeRow.laid W) : Hub.Env W := by
  rw [MakeChecks.laidMetH_plain _ _ _ (by kernel_rfl)] at h
  have e1 : Rows.laid_unicode_utf8_acceptRanges = Lib.acceptData := by kernel_rfl
  have e2 : Rows.laid_unicode_utf8_first = Lib.firstData := Pinned.utf8First_eq
  have r1 := Lib.laidMet.reads h (.tail _ (.tail _ (.tail _ (.head _))))
  have r2 := Lib.laidMet.reads h (.tail _ (.tail _ (.tail _ (.tail _ (.tail _ (.tail _ (.head _)))))))
  have r3 := Lib.laidMet.reads h (.tail _ (.tail _ (.tail _ (.tail _ (.tail _ (.head _))))))
  rw [e1] at r1
  rw [e2] at r2
  refine ⟨utf8Tabs_of_readsT (U8Types.of196 Tryd.lays196) ⟨by kernel_rfl, by kernel_rfl, by kernel_rfl, by kernel_rfl, by kernel_rfl, by kernel_rfl, by kernel_rfl⟩ r2 r1, ?_⟩
  obtain ⟨g, t, cs, fuel, p, hg, ht, hv, hr⟩ := r3
  have hg2 : Tryd.prog.globalNamed "strconv.ErrSyntax" = some 2 := by kernel_rfl
  obtain rfl : 2 = g := Option.some.inj (hg2.symm.trans hg)
  have ht2 : (Tryd.prog.globals[2]?).map (·.type) = some 39 := by kernel_rfl
  obtain rfl : 39 = t := Option.some.inj (ht2.symm.trans ht)
  obtain ⟨_, u, v, hcs, _, _⟩ := iface_of_trod Tryd.underlying39 hr
  refine ⟨u, v, ?_⟩
  have h0 := World.var?_cell hg2 hv 0
  have h1 : cs[0]? = some (.iface u v) := by rw [← Array.getElem?_toList, hcs]; rfl
  exact h0.trans h1

theorem laidOut : laidOutB Tryd.prog = true := by kernel_rfl
set_option maxRecDepth 100000 in
theorem lifted (os : Os) (started : os.Started) (H : Type) (enc : TypeId × Value → H) :
    ReturnsInHanded {} Tryd.checked os 3 .any (fun w args => (Rows.fnEscapeSpec.pre enc Tryd.prog Tryd.f3 Rows.fnEscapeRow.domain false w args ∧ laidMetH Tryd.prog Rows.fnEscapeRow.laid w) ∧ sizedMet enc Tryd.prog Tryd.f3 (OpenSpec.ofChange Rows.fnEscapeSpec) false w args)
      (Rows.fnEscapeSpec.post enc Tryd.prog Tryd.f3 false true false false) := by
  refine returnsInHanded_of_change_and (C := Tryd.checked) (X := fun w _ => laidMetH Tryd.prog Rows.fnEscapeRow.laid w) (fun _ _ _ hh h => h.of_heap hh) own started (by kernel_rfl) Tryd.func3
    (ChangeSpec.witness_shaped (enc := enc) (C := Tryd.checked) (os := os) (X := fun w _ => laidMetH Tryd.prog Rows.fnEscapeRow.laid w) false (World.laidAll Tryd.prog os Rows.fnEscapeRow.laid) #[.slice none 0 0] 8 (World.laidAll_os _ _ _)
      (World.shaped_of_ZipB (by kernel_rfl) (by kernel_rfl)) (by kernel_rfl) (by kernel_rfl) (by kernel_rfl)
      (by rw [MakeChecks.laidMetH_plain _ _ _ (by kernel_rfl)]; exact laidMet_laidAll _ (by kernel_rfl) (by kernel_rfl))) ?_
  intro W base args ds gs before hval0 hW hc _ hL _
  have hval : ∀ (j : Nat) t v, Tryd.f3.params[j]? = some t → args[j]? = some v → Value.okWide Tryd.prog W .any base t v := hval0
  have hW' := hW
  obtain ⟨p, q, hA0, hV, rfl, _, _⟩ := hW
  have hA : DataW.TrodAll enc Tryd.prog W 0 (fun _ => true) true Tryd.f3.params.toList args.toList ds p := hA0
  rw [Tryd.params3] at hA hval
  obtain ⟨v0, d0, rfl, rfl, h0⟩ := trodAll_one hA
  obtain ⟨rfl, rfl⟩ := trodVars_none hV
  obtain ⟨n0, hb0⟩ := Hub.open_bytes (hval 0 22 v0 rfl rfl) h0
  simp only [List.append_nil] at hW'
  have hlt0 : ∀ x ∈ p, x.block < W.heap.size := fun x hx => by simpa using hW'.lt x hx
  refine (walk v0 n0 W (env_of hL) hb0).mono fun e W' ⟨he, bel⟩ => ?_
  subst he
  exact ⟨_, rfl, _, _, _, [], _, [], hW', trodAll_mk1 (shut_bool Tryd.underlying4 _), trodAll_mk1 (Below.trod laidOut (by kernel_rfl) (of_decide_eq_true (by kernel_rfl)) h0 bel hlt0), rfl, bel.frame _, fun h => by cases h⟩

theorem holds : Rows.FnEscapeSaid :=
  OpenClaim.holds_of_wide 3 Tryd.f3 rfl rfl rfl rfl rfl rfl rfl ⟨rfl, rfl, rfl, rfl, rfl⟩ rfl rfl rfl rfl rfl (by kernel_rfl) Tryd.func3 (by kernel_rfl)
    (of_decide_eq_true (by kernel_rfl)) (by unfold Func.isWrapper; first | (rw [if_pos (by decide +kernel)]; kernel_rfl) | (rw [if_neg (by decide +kernel)]; exact ⟨rfl, rfl⟩))
    (fun os started H enc _ => lifted os started H enc)
theorem card_holds : Rows.FnEscapeCardSaid :=
  Claim7.holds_tied_plain_at .later [] [.data, .data, .data, .data, .sentinel, .sentinel, .pinned] true (true, "1961522794bbe4d1d27ede83d80fed02c69383b5dd41ec11586a672cbfce1179") true holds (fun _ h => by cases h) (by kernel_rfl) (fun _ h => by cases h) fnEscape_row_tie rfl ⟨rfl, rfl⟩ (by kernel_rfl) rfl
    (fun f fn hf hfn => by
      obtain rfl : f = 3 := Option.some.inj ((show Tryd.prog.funcNamed Rows.fnEscapeRow.func = some 3 by kernel_rfl).symm.trans hf) |>.symm
      obtain rfl : fn = Tryd.f3 := (Option.some.inj (Tryd.func3.symm.trans hfn)).symm
      exact ⟨by kernel_rfl, fun j t ht => by
        rw [Tryd.params3] at ht
        have hm : t ∈ [22] := by simpa using Array.mem_of_getElem? ht
        have hall : ([22].all fun u => !Tryd.prog.wantsStandIn u) = true := by kernel_rfl
        exact (show Tryd.prog.wantsStandIn t = false by simpa using List.all_eq_true.1 hall t hm)⟩)
    (by kernel_rfl)
#print axioms card_holds
end Go.Proofs.YtkacbbkpglmibaaDoor.fnEscape

namespace Go.Proofs.YtkacbbkpglmibaaDoor
/-- The statement. -/
theorem fnEscape_card : Rows.FnEscapeCardSaid := fnEscape.card_holds
end Go.Proofs.YtkacbbkpglmibaaDoor
