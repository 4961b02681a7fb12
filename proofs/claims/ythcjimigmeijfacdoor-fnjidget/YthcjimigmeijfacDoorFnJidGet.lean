/-
  For every slice of bytes the law FnJidGet returns true: of a drawn text impl.JidGet answers as spec.JidGet; what it reads is ok, is written by impl.JidPut in as many bytes, and is read back from that. Its condition: the two tables of unicode/utf8 are as the library's text lays them (the card ties them to the program's text); the law itself passes slices of more than 1048576 bytes by.
-/
import Derived.Test.YthcjimigmeijfacDoorRows
import Derived.Test.YthcjimigmeijfacDoorTie
import Derived.Test.YthcjimigmeijfacDoorCards
import Derived.Test.YthcjimigmeijfacDoorDrawJid
import Derived.Test.YthcjimigmeijfacDoorJidBack
import Derived.Test.YthcjimigmeijfacDoorArgB
import Derived.Lib.LaidU8T
import Derived.PinnedBridge
import Derived.ProofKit
import Derived.OpenShut
import Derived.ShutString
import Derived.LaidMore
import Derived.Lay
import Derived.SevenTiedAt
import Derived.Stop.Joined
namespace Go.Proofs.YthcjimigmeijfacDoor.fnJidGet
open Go.ChangeShapes Go.WideShapes Go.ChangeAt Go.RowKit Go.Shelf
open Go.ChangeMaps (open_string shut_string)
set_option linter.unusedVariables false

set_option maxRecDepth 100000 in
set_option maxHeartbeats 2000000 in
theorem walk (v1 : Value) (n1 : Nat) (w : World) (hT : Hub.Tabs w) (hb1 : Hub.BytesAt w.heap.size w v1 n1) :
    Calls Tryd.prog 4 #[v1] w fun e w' => e = .returned (.bool true) ∧ Below w.heap.size w w' := by
  obtain ⟨o1, cap1, rfl⟩ := Hub.bytes_shape hb1
  by_cases hbig : (1048576 : Int) < (n1 : Int)
  · go_enter Tryd.func4, Tryd.ntmps4
    go_wp2_with fail
    go_ret
    exact ⟨rfl, Below.refl _ _⟩
  · go_enter Tryd.func4, Tryd.ntmps4
    go_wp2_with fail
    go_fit (Hub.drawJidGet_any _ n1 _ hb1)
    rintro e W1 ⟨⟨s, hs, rfl⟩, c1⟩
    obtain ⟨x, y, z, b, hv⟩ := Hub.jgetV_shape s
    have hI := fun W hT => Hub.jidGet_any s W hT (by omega)
    have hS := fun W => Hub.specJidGet_any s W (by omega)
    rw [hv] at hI hS
    have HV : Hid (Hub.jgetV s = .tuple #[.agg #[.string x, .string y, .string z], .bool b]) := hv
    clear hv hb1
    go_wp2_with fail
    go_fit (hI _ (Utf8Tabs_below hT c1))
    rintro e W2 ⟨rfl, b2⟩
    have c2 := c1.trans (b2.mono c1.size)
    have j3 := Hub.three_new W2 x y z
    have c3 := c2.alloc c2.size (.cells #[.string x, .string y, .string z] 24)
    go_wp2_with fail
    obtain ⟨W3, hW3⟩ : ∃ W3, W2.alloc (.cells #[.string x, .string y, .string z] 24) = W3 := ⟨_, rfl⟩
    rw [hW3] at j3 c3 ⊢
    clear hW3 b2 c2
    go_fit (hS W3)
    rintro e W4 ⟨rfl, b4⟩
    have j4 := j3.below b4
    have c4 := c3.trans (b4.mono c3.size)
    have k5 := Hub.three_new W4 x y z
    have b5 : Below W4.heap.size W4 (W4.alloc (.cells #[.string x, .string y, .string z] 24)) := (Below.refl _ W4).alloc (Nat.le_refl _) _
    have j5 := j4.below b5
    have c5 := c4.trans (b5.mono c4.size)
    have zl := j4.lt
    have x0 := j4.c0
    have x1 := j4.c1
    have x2 := j4.c2
    clear hS j3
    cases b
    · go_wp2_with fail
      go_ret
      exact ⟨rfl, c5⟩
    · obtain ⟨hj, hsz⟩ := Hub.get_back s x y z HV.out
      obtain ⟨hp1, hp2⟩ := Hub.jput_pos x y z hj
      obtain ⟨⟨_, su⟩, ⟨_, _, sh⟩, sn⟩ := Hub.jid_parts x y z hj
      have hback := Hub.jput_back x y z hj
      have hPT : Hub.jputT x y z = Hub.jput x y z := by unfold Hub.jputT; rw [if_pos hj]
      have hP := fun W hT => Hub.jidPut_any x y z W hT (by omega) (by omega) (by omega)
      have hO := fun W hT => Hub.jidOk_any x y z W hT (by omega) (by omega) (by omega)
      obtain ⟨S, hSe⟩ : ∃ S, Hub.jput x y z = S := ⟨_, rfl⟩
      rw [hSe] at hp1 hp2 hback hPT hsz
      rw [hPT] at hP
      rw [hj] at hO
      have hget := fun W hT => Hub.jidGet_any S W hT (by omega)
      rw [hback] at hget
      have hSI : (S.size : Int) = (s.size : Int) := by omega
      clear hback hPT hSe hj hI HV
      go_wp2_with fail
      go_fit (hP _ (Utf8Tabs_below hT c5))
      rintro e W6 ⟨rfl, b6⟩
      have j6 := j5.below b6
      have c6 := c5.trans (b6.mono c5.size)
      clear x0 x1 x2 j4 j5 k5 b5
      go_wp2_with fail
      go_fit (hget _ (Utf8Tabs_below hT c6))
      rintro e W7 ⟨rfl, b7⟩
      have j7 := j6.below b7
      have c7 := c6.trans (b7.mono c6.size)
      have k8 := Hub.three_new W7 x y z
      have b8 : Below W7.heap.size W7 (W7.alloc (.cells #[.string x, .string y, .string z] 24)) := (Below.refl _ W7).alloc (Nat.le_refl _) _
      have j8 := j7.below b8
      have c8 := c7.trans (b8.mono c7.size)
      have y0 := j7.c0
      have y1 := j7.c1
      have y2 := j7.c2
      have yl := j7.lt
      go_wp2_with fail
      go_fit (hO _ (Utf8Tabs_below hT c8))
      rintro e W9 ⟨rfl, b9⟩
      have j9 := j8.below b9
      have k9 := k8.below b9
      have c9 := c8.trans (b9.mono c8.size)
      have z0 := j9.c0
      have z1 := j9.c1
      have z2 := j9.c2
      have t0 := k9.c0
      have t1 := k9.c1
      have t2 := k9.c2
      clear y0 y1 y2 j6 j7 j8 k8 b8
      go_wp2_with fail
      go_ret
      exact ⟨rfl, c9⟩

theorem own : ownKnob Tryd.prog.godebug = none := by kernel_rfl
theorem tabs_of {W : World} (h : laidMetH Tryd.prog Rows.fnJidGetRow.laid W) : Hub.Tabs W := by
  rw [MakeChecks.laidMetH_plain _ _ _ (by kernel_rfl)] at h
  have e1 : Rows.laid_unicode_utf8_acceptRanges = Lib.acceptData := by kernel_rfl
  have e2 : Rows.laid_unicode_utf8_first = Lib.firstData := Pinned.utf8First_eq
  have r1 := Lib.laidMet.reads h (.head _)
  have r2 := Lib.laidMet.reads h (.tail _ (.head _))
  rw [e1] at r1
  rw [e2] at r2
  exact utf8Tabs_of_readsT (U8Types.of196 Tryd.lays196) ⟨by kernel_rfl, by kernel_rfl, by kernel_rfl, by kernel_rfl, by kernel_rfl, by kernel_rfl, by kernel_rfl⟩ r2 r1

theorem laidOut : laidOutB Tryd.prog = true := by kernel_rfl
set_option maxRecDepth 100000 in
theorem lifted (os : Os) (started : os.Started) (H : Type) (enc : TypeId × Value → H) :
    ReturnsInHanded {} Tryd.checked os 4 .any (fun w args => (Rows.fnJidGetSpec.pre enc Tryd.prog Tryd.f4 Rows.fnJidGetRow.domain false w args ∧ laidMetH Tryd.prog Rows.fnJidGetRow.laid w) ∧ sizedMet enc Tryd.prog Tryd.f4 (OpenSpec.ofChange Rows.fnJidGetSpec) false w args)
      (Rows.fnJidGetSpec.post enc Tryd.prog Tryd.f4 false true false false) := by
  refine returnsInHanded_of_change_and (C := Tryd.checked) (X := fun w _ => laidMetH Tryd.prog Rows.fnJidGetRow.laid w) (fun _ _ _ hh h => h.of_heap hh) own started (by kernel_rfl) Tryd.func4
    (ChangeSpec.witness_shaped (enc := enc) (C := Tryd.checked) (os := os) (X := fun w _ => laidMetH Tryd.prog Rows.fnJidGetRow.laid w) false (World.laidAll Tryd.prog os Rows.fnJidGetRow.laid) #[.slice none 0 0] 8 (World.laidAll_os _ _ _)
      (World.shaped_of_ZipB (by kernel_rfl) (by kernel_rfl)) (by kernel_rfl) (by kernel_rfl) (by kernel_rfl)
      (by rw [MakeChecks.laidMetH_plain _ _ _ (by kernel_rfl)]; exact laidMet_laidAll _ (by kernel_rfl) (by kernel_rfl))) ?_
  intro W base args ds gs before hval0 hW hc _ hL _
  have hval : ∀ (j : Nat) t v, Tryd.f4.params[j]? = some t → args[j]? = some v → Value.okWide Tryd.prog W .any base t v := hval0
  have hW' := hW
  obtain ⟨p, q, hA0, hV, rfl, _, _⟩ := hW
  have hA : DataW.TrodAll enc Tryd.prog W 0 (fun _ => true) true Tryd.f4.params.toList args.toList ds p := hA0
  rw [Tryd.params4] at hA hval
  obtain ⟨v0, d0, rfl, rfl, h0⟩ := trodAll_one hA
  obtain ⟨rfl, rfl⟩ := trodVars_none hV
  obtain ⟨n0, hb0⟩ := Hub.open_bytes (hval 0 22 v0 rfl rfl) h0
  simp only [List.append_nil] at hW'
  have hlt0 : ∀ x ∈ p, x.block < W.heap.size := fun x hx => by simpa using hW'.lt x hx
  refine (walk v0 n0 W (tabs_of hL) hb0).mono fun e W' ⟨he, bel⟩ => ?_
  subst he
  exact ⟨_, rfl, _, _, _, [], _, [], hW', trodAll_mk1 (shut_bool Tryd.underlying4 _), trodAll_mk1 (Below.trod laidOut (by kernel_rfl) (of_decide_eq_true (by kernel_rfl)) h0 bel hlt0), rfl, bel.frame _, fun h => by cases h⟩

theorem holds : Rows.FnJidGetSaid :=
  OpenClaim.holds_of_wide 4 Tryd.f4 rfl rfl rfl rfl rfl rfl rfl ⟨rfl, rfl, rfl, rfl, rfl⟩ rfl rfl rfl rfl rfl (by kernel_rfl) Tryd.func4 (by kernel_rfl)
    (of_decide_eq_true (by kernel_rfl)) (by unfold Func.isWrapper; first | (rw [if_pos (by decide +kernel)]; kernel_rfl) | (rw [if_neg (by decide +kernel)]; exact ⟨rfl, rfl⟩))
    (fun os started H enc _ => lifted os started H enc)
theorem card_holds : Rows.FnJidGetCardSaid :=
  Claim7.holds_tied_plain_at .later [] [.data, .pinned] true (true, "5fbe6ade74d4c12dc90945530359e7a95f3bcb5ebdebf2fc00d94e0e27a28fd0") false holds (fun _ h => by cases h) (by kernel_rfl) (fun _ h => by cases h) fnJidGet_row_tie rfl ⟨rfl, rfl⟩ (by kernel_rfl) rfl
    (fun f fn hf hfn => by
      obtain rfl : f = 4 := Option.some.inj ((show Tryd.prog.funcNamed Rows.fnJidGetRow.func = some 4 by kernel_rfl).symm.trans hf) |>.symm
      obtain rfl : fn = Tryd.f4 := (Option.some.inj (Tryd.func4.symm.trans hfn)).symm
      exact ⟨by kernel_rfl, fun j t ht => by
        rw [Tryd.params4] at ht
        have hm : t ∈ [22] := by simpa using Array.mem_of_getElem? ht
        have hall : ([22].all fun u => !Tryd.prog.wantsStandIn u) = true := by kernel_rfl
        exact (show Tryd.prog.wantsStandIn t = false by simpa using List.all_eq_true.1 hall t hm)⟩)
    (by kernel_rfl)
#print axioms card_holds
end Go.Proofs.YthcjimigmeijfacDoor.fnJidGet

namespace Go.Proofs.YthcjimigmeijfacDoor
/-- The statement. -/
theorem fnJidGet_card : Rows.FnJidGetCardSaid := fnJidGet.card_holds
end Go.Proofs.YthcjimigmeijfacDoor
