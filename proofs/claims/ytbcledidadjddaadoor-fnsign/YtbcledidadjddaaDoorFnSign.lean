/-
  For every slice of bytes the law FnSign returns true: of a drawn number impl.SignPut answers as spec.SignPut, and impl.Unescape reads that sign where it is told by its number, and nothing where the number is none. Its condition: the variables of the library that are listed are as the library's text lays them (the card ties them to the program's text); the law itself passes slices of more than 1048576 bytes by.
-/
import Derived.Test.YtbcledidadjddaaDoorRows
import Derived.Test.YtbcledidadjddaaDoorTie
import Derived.Test.YtbcledidadjddaaDoorCards
import Derived.Test.YtbcledidadjddaaDoorSignPlain
import Derived.Test.YtbcledidadjddaaDoorUnImpl
import Derived.Test.YtbcledidadjddaaDoorArgB
import Derived.Lib.LaidU8T
import Derived.PinnedBridge
import Derived.ProofKit
import Derived.OpenShut
import Derived.ShutString
import Derived.LaidMore
import Derived.Lay
import Derived.SevenTiedAt
import Derived.Stop.Joined
namespace Go.Proofs.YtbcledidadjddaaDoor.fnSign
open Go.ChangeShapes Go.WideShapes Go.ChangeAt Go.RowKit Go.Shelf
open Go.ChangeMaps (open_string shut_string)
set_option linter.unusedVariables false

set_option maxRecDepth 100000 in
set_option maxHeartbeats 2000000 in
theorem walk (v1 : Value) (n1 : Nat) (w : World) (hE : Hub.Env w) (hb1 : Hub.BytesAt w.heap.size w v1 n1) :
    Calls Tryd.prog 6 #[v1] w fun e w' => e = .returned (.bool true) ∧ Below w.heap.size w w' := by
  obtain ⟨o1, cap1, rfl⟩ := Hub.bytes_shape hb1
  by_cases hbig : (1048576 : Int) < (n1 : Int)
  · go_enter Tryd.func6, Tryd.ntmps6
    go_wp2_with fail
    go_ret
    exact ⟨rfl, Below.refl _ _⟩
  · go_enter Tryd.func6, Tryd.ntmps6
    go_wp2_with fail
    refine (Hub.drawSignPut_any _ n1 _ hb1).mono ?_
    rintro e w1 ⟨⟨n, hn, rfl⟩, c1⟩
    obtain ⟨hu, hok, hemp, hsz, hrange⟩ := Hub.sign_any hn
    have hdec := fun w => Hub.dec_drawn n hrange w
    have h4 : (Hub.putS n).size ≤ 4 := Hub.putS_small n
    have hsp := fun w => Hub.signPut_any n w
    have hss := fun w => Hub.specSignPut_any n w
    unfold Hub.tellT at hu hsz
    obtain ⟨P, hP⟩ : ∃ P, Hub.putS n = P := ⟨_, rfl⟩
    obtain ⟨D, hD⟩ : ∃ D, Hub.decT n = D := ⟨_, rfl⟩
    rw [hP] at hu hok hemp h4 hsp hss
    rw [hD] at hu hsz hdec
    have hDs : D.size ≤ 100 := by rw [ByteArray.size_append, ByteArray.size_append] at hsz; omega
    obtain ⟨T, hT⟩ : ∃ T, (⟨#[38, 35]⟩ : ByteArray) ++ D ++ ⟨#[59]⟩ = T := ⟨_, rfl⟩
    have HT : Hid ((⟨#[38, 35]⟩ : ByteArray) ++ D ++ ⟨#[59]⟩ = T) := hT
    rw [hT] at hu hsz
    have HU : Hid (Hub.unT T = (P, Hub.signB n)) := hu
    have HO : Hid (Hub.okT P = true) := hok
    have HSP : Hid (∀ w : World, Calls Tryd.prog 18 #[.int .i64 n] w fun e w' => e = .returned (.string P) ∧ w' = w) := hsp
    have HSS : Hid (∀ w : World, Calls Tryd.prog 19 #[.int .i64 n] w fun e w' => e = .returned (.string P) ∧ Below w.heap.size w w') := hss
    have HDC : Hid (∀ w : World, Calls Tryd.prog 21 #[.int .i64 n] w fun e w' => e = .returned (.string D) ∧ Below w.heap.size w w') := hdec
    clear hu hok hP hD hT hn hrange hsp hss hdec
    go_wp2_with fail
    refine (HSP.out _).mono ?_
    rintro e w2 ⟨rfl, rfl⟩
    have c2 := c1
    go_wp2_with fail
    refine (HSS.out _).mono ?_
    rintro e w3 ⟨rfl, b3⟩
    have c3 := c2.trans (b3.mono c2.size)
    go_wp2_with fail
    refine (HDC.out _).mono ?_
    rintro e w4 ⟨rfl, b4⟩
    have c4 := c3.trans (b4.mono c3.size)
    have E4 := hE.below c4
    go_wp2_with fail
    rw [HT.out]
    refine (Hub.unescape_any T _ (by omega) E4).mono ?_
    rintro e w5 ⟨rfl, b5⟩
    rw [HU.out]
    have c5 := c4.trans (b5.mono c4.size)
    have E5 := hE.below c5
    have hTO := fun w hE => Hub.textOk_any P w (by omega) hE
    rw [HO.out] at hTO
    cases hs : Hub.signB n
    · rw [hs] at hemp
      simp only [Bool.not_false] at hemp
      go_wp2_with fail
      refine (hTO _ E5.1).mono ?_
      rintro e w6 ⟨rfl, b6⟩
      have c6 := c5.trans (b6.mono c5.size)
      go_wp2_with fail
      go_ret
      exact ⟨rfl, c6⟩
    · rw [hs] at hemp
      simp only [Bool.not_true] at hemp
      go_wp2_with fail
      refine (hTO _ E5.1).mono ?_
      rintro e w6 ⟨rfl, b6⟩
      have c6 := c5.trans (b6.mono c5.size)
      go_wp2_with fail
      go_ret
      exact ⟨rfl, c6⟩

theorem own : ownKnob Tryd.prog.godebug = none := by kernel_rfl
theorem env_of {W : World} (h : laidMetH Tryd.prog Rows.fnSignRow.laid W) : Hub.Env W := by
  rw [MakeChecks.laidMetH_plain _ _ _ (by kernel_rfl)] at h
  have e1 : Rows.laid_unicode_utf8_acceptRanges = Lib.acceptData := by kernel_rfl
  have e2 : Rows.laid_unicode_utf8_first = Lib.firstData := Pinned.utf8First_eq
  have r1 := Lib.laidMet.reads h (.tail _ (.tail _ (.tail _ (.head _))))
  have r2 := Lib.laidMet.reads h (.tail _ (.tail _ (.tail _ (.tail _ (.tail _ (.tail _ (.head _)))))))
  have r3 := Lib.laidMet.reads h (.tail _ (.tail _ (.tail _ (.tail _ (.tail _ (.head _))))))
  rw [e1] at r1
  rw [e2] at r2
  refine ⟨utf8Tabs_of_readsT (U8Types.of196 Tryd.lays196) ⟨by kernel_rfl, by kernel_rfl, by kernel_rfl, by kernel_rfl, by kernel_rfl, by kernel_rfl, by kernel_rfl⟩ r2 r1, ?_⟩
  obtain ⟨g, t, cs, fuel, p, hg, ht, hv, hr⟩ := r3
  have hg2 : Tryd.prog.globalNamed "strconv.ErrSyntax" = some 3 := by kernel_rfl
  obtain rfl : 3 = g := Option.some.inj (hg2.symm.trans hg)
  have ht2 : (Tryd.prog.globals[3]?).map (·.type) = some 49 := by kernel_rfl
  obtain rfl : 49 = t := Option.some.inj (ht2.symm.trans ht)
  obtain ⟨_, u, v, hcs, _, _⟩ := iface_of_trod Tryd.underlying49 hr
  refine ⟨u, v, ?_⟩
  have h0 := World.var?_cell hg2 hv 0
  have h1 : cs[0]? = some (.iface u v) := by rw [← Array.getElem?_toList, hcs]; rfl
  exact h0.trans h1

theorem laidOut : laidOutB Tryd.prog = true := by kernel_rfl
set_option maxRecDepth 100000 in
theorem lifted (os : Os) (started : os.Started) (H : Type) (enc : TypeId × Value → H) :
    ReturnsInHanded {} Tryd.checked os 6 .any (fun w args => (Rows.fnSignSpec.pre enc Tryd.prog Tryd.f6 Rows.fnSignRow.domain false w args ∧ laidMetH Tryd.prog Rows.fnSignRow.laid w) ∧ sizedMet enc Tryd.prog Tryd.f6 (OpenSpec.ofChange Rows.fnSignSpec) false w args)
      (Rows.fnSignSpec.post enc Tryd.prog Tryd.f6 false true false false) := by
  refine returnsInHanded_of_change_and (C := Tryd.checked) (X := fun w _ => laidMetH Tryd.prog Rows.fnSignRow.laid w) (fun _ _ _ hh h => h.of_heap hh) own started (by kernel_rfl) Tryd.func6
    (ChangeSpec.witness_shaped (enc := enc) (C := Tryd.checked) (os := os) (X := fun w _ => laidMetH Tryd.prog Rows.fnSignRow.laid w) false (World.laidAll Tryd.prog os Rows.fnSignRow.laid) #[.slice none 0 0] 8 (World.laidAll_os _ _ _)
      (World.shaped_of_ZipB (by kernel_rfl) (by kernel_rfl)) (by kernel_rfl) (by kernel_rfl) (by kernel_rfl)
      (by rw [MakeChecks.laidMetH_plain _ _ _ (by kernel_rfl)]; exact laidMet_laidAll _ (by kernel_rfl) (by kernel_rfl))) ?_
  intro W base args ds gs before hval0 hW hc _ hL _
  have hval : ∀ (j : Nat) t v, Tryd.f6.params[j]? = some t → args[j]? = some v → Value.okWide Tryd.prog W .any base t v := hval0
  have hW' := hW
  obtain ⟨p, q, hA0, hV, rfl, _, _⟩ := hW
  have hA : DataW.TrodAll enc Tryd.prog W 0 (fun _ => true) true Tryd.f6.params.toList args.toList ds p := hA0
  rw [Tryd.params6] at hA hval
  obtain ⟨v0, d0, rfl, rfl, h0⟩ := trodAll_one hA
  obtain ⟨rfl, rfl⟩ := trodVars_none hV
  obtain ⟨n0, hb0⟩ := Hub.open_bytes (hval 0 34 v0 rfl rfl) h0
  simp only [List.append_nil] at hW'
  have hlt0 : ∀ x ∈ p, x.block < W.heap.size := fun x hx => by simpa using hW'.lt x hx
  refine (walk v0 n0 W (env_of hL) hb0).mono fun e W' ⟨he, bel⟩ => ?_
  subst he
  exact ⟨_, rfl, _, _, _, [], _, [], hW', trodAll_mk1 (shut_bool Tryd.underlying4 _), trodAll_mk1 (Below.trod laidOut (by kernel_rfl) (of_decide_eq_true (by kernel_rfl)) h0 bel hlt0), rfl, bel.frame _, fun h => by cases h⟩

theorem holds : Rows.FnSignSaid :=
  OpenClaim.holds_of_wide 6 Tryd.f6 rfl rfl rfl rfl rfl rfl rfl ⟨rfl, rfl, rfl, rfl, rfl⟩ rfl rfl rfl rfl rfl (by kernel_rfl) Tryd.func6 (by kernel_rfl)
    (of_decide_eq_true (by kernel_rfl)) (by unfold Func.isWrapper; first | (rw [if_pos (by decide +kernel)]; kernel_rfl) | (rw [if_neg (by decide +kernel)]; exact ⟨rfl, rfl⟩))
    (fun os started H enc _ => lifted os started H enc)
theorem card_holds : Rows.FnSignCardSaid :=
  Claim7.holds_tied_plain_at .later [] [.data, .data, .data, .data, .sentinel, .sentinel, .pinned] true (true, "2c93e48e31472343b9645471d6c77de7fbf8e0c93548de290039ea0ebadd93e6") true holds (fun _ h => by cases h) (by kernel_rfl) (fun _ h => by cases h) fnSign_row_tie rfl ⟨rfl, rfl⟩ (by kernel_rfl) rfl
    (fun f fn hf hfn => by
      obtain rfl : f = 6 := Option.some.inj ((show Tryd.prog.funcNamed Rows.fnSignRow.func = some 6 by kernel_rfl).symm.trans hf) |>.symm
      obtain rfl : fn = Tryd.f6 := (Option.some.inj (Tryd.func6.symm.trans hfn)).symm
      exact ⟨by kernel_rfl, fun j t ht => by
        rw [Tryd.params6] at ht
        have hm : t ∈ [34] := by simpa using Array.mem_of_getElem? ht
        have hall : ([34].all fun u => !Tryd.prog.wantsStandIn u) = true := by kernel_rfl
        exact (show Tryd.prog.wantsStandIn t = false by simpa using List.all_eq_true.1 hall t hm)⟩)
    (by kernel_rfl)
#print axioms card_holds
end Go.Proofs.YtbcledidadjddaaDoor.fnSign

namespace Go.Proofs.YtbcledidadjddaaDoor
/-- The statement. -/
theorem fnSign_card : Rows.FnSignCardSaid := fnSign.card_holds
end Go.Proofs.YtbcledidadjddaaDoor
