/-
  For every slice of bytes the law FnJidPut returns true: of a drawn address impl.JidPut answers as spec.JidPut, the empty text just if impl.JidOk is false; else impl.JidGet reads the address back, and it has at most 60 bytes. Its condition: the two tables of unicode/utf8 are as the library's text lays them (the card ties them to the program's text); the law itself passes slices of more than 1048576 bytes by.
-/
import Derived.Test.YthcjimigmeijfacDoorRows
import Derived.Test.YthcjimigmeijfacDoorTie
import Derived.Test.YthcjimigmeijfacDoorCards
import Derived.Test.YthcjimigmeijfacDoorDrawJid
import Derived.Test.YthcjimigmeijfacDoorJidBack
import Derived.Test.YthcjimigmeijfacDoorArgB
import Derived.Lib.LaidU8T
import Derived.PinnedBridge
import Derived.ProofKit
import Derived.OpenShut
import Derived.ShutString
import Derived.LaidMore
import Derived.Lay
import Derived.SevenTiedAt
import Derived.Stop.Joined
namespace Go.Proofs.YthcjimigmeijfacDoor.fnJidPut
open Go.ChangeShapes Go.WideShapes Go.ChangeAt Go.RowKit Go.Shelf
open Go.ChangeMaps (open_string shut_string)
set_option linter.unusedVariables false

set_option maxRecDepth 100000 in
set_option maxHeartbeats 2000000 in
theorem walk (v1 : Value) (n1 : Nat) (w : World) (hT : Hub.Tabs w) (hb1 : Hub.BytesAt w.heap.size w v1 n1) :
    Calls Tryd.prog 3 #[v1] w fun e w' => e = .returned (.bool true) ∧ Below w.heap.size w w' := by
  obtain ⟨o1, cap1, rfl⟩ := Hub.bytes_shape hb1
  by_cases hbig : (1048576 : Int) < (n1 : Int)
  · go_enter Tryd.func3, Tryd.ntmps3
    go_wp2_with fail
    go_ret
    exact ⟨rfl, Below.refl _ _⟩
  · go_enter Tryd.func3, Tryd.ntmps3
    go_wp2_with fail
    go_fit (Hub.drawJidPut_any _ n1 _ hb1)
    rintro e W1 ⟨⟨u, h, n, hu, hh, hn, rfl⟩, c1⟩
    have j2 := Hub.three_new W1 u h n
    have b2 : Below W1.heap.size W1 (W1.alloc (.cells #[.string u, .string h, .string n] 24)) := (Below.refl _ W1).alloc (Nat.le_refl _) _
    have c2 := c1.trans (b2.mono c1.size)
    go_wp2_with fail
    obtain ⟨W2, hW2⟩ : ∃ W2, W1.alloc (.cells #[.string u, .string h, .string n] 24) = W2 := ⟨_, rfl⟩
    rw [hW2] at j2 c2 ⊢
    clear hW2 b2 hb1
    go_fit (Hub.jidPut_any u h n W2 (Utf8Tabs_below hT c2) (by omega) (by omega) (by omega))
    rintro e W3 ⟨rfl, b3⟩
    have j3 := j2.below b3
    have c3 := c2.trans (b3.mono c2.size)
    have x0 := j3.c0
    have x1 := j3.c1
    have x2 := j3.c2
    clear j2 b3
    have hsp := fun W => Hub.specJidPut_any u h n W (by omega) (by omega) (by omega)
    have hok := fun W hT => Hub.jidOk_any u h n W hT (by omega) (by omega) (by omega)
    cases hj : Hub.jidT u h n
    · have hS : Hub.jputT u h n = ⟨#[]⟩ := by unfold Hub.jputT; rw [hj]; rfl
      rw [hS] at hsp ⊢
      rw [hj] at hok
      obtain ⟨p, q, r, b, hv⟩ := Hub.jgetV_shape ⟨#[]⟩
      have hget := fun W hT => Hub.jidGet_any ⟨#[]⟩ W hT (by show 0 ≤ _; omega)
      rw [hv] at hget
      clear hS hj hv
      go_wp2_with fail
      go_fit (hsp _)
      rintro e W4 ⟨rfl, b4⟩
      have j4 := j3.below b4
      have c4 := c3.trans (b4.mono c3.size)
      have y0 := j4.c0
      have y1 := j4.c1
      have y2 := j4.c2
      go_wp2_with fail
      go_fit (hok _ (Utf8Tabs_below hT c4))
      rintro e W5 ⟨rfl, b5⟩
      have c5 := c4.trans (b5.mono c4.size)
      go_wp2_with fail
      go_fit (hget _ (Utf8Tabs_below hT c5))
      rintro e W6 ⟨rfl, b6⟩
      have c6 := c5.trans (b6.mono c5.size)
      go_wp2_with fail
      go_ret
      exact ⟨rfl, c6.alloc c6.size _⟩
    · obtain ⟨hp1, hp2⟩ := Hub.jput_pos u h n hj
      have hback := Hub.jput_back u h n hj
      have hS : Hub.jputT u h n = Hub.jput u h n := by unfold Hub.jputT; rw [if_pos hj]
      obtain ⟨S, hSe⟩ : ∃ S, Hub.jput u h n = S := ⟨_, rfl⟩
      rw [hSe] at hp1 hp2 hback hS
      rw [hS] at hsp ⊢
      rw [hj] at hok
      have hget := fun W hT => Hub.jidGet_any S W hT (by omega)
      rw [hback] at hget
      have hem := Hub.not_empty S (by omega)
      have hSI : (S.size : Int) ≤ 60 := by omega
      clear hback hS hSe hj
      go_wp2_with fail
      go_fit (hsp _)
      rintro e W4 ⟨rfl, b4⟩
      have j4 := j3.below b4
      have c4 := c3.trans (b4.mono c3.size)
      have y0 := j4.c0
      have y1 := j4.c1
      have y2 := j4.c2
      clear x0 x1 x2 j3
      go_wp2_with fail
      go_fit (hok _ (Utf8Tabs_below hT c4))
      rintro e W5 ⟨rfl, b5⟩
      have j5 := j4.below b5
      have c5 := c4.trans (b5.mono c4.size)
      go_wp2_with fail
      go_fit (hget _ (Utf8Tabs_below hT c5))
      rintro e W6 ⟨rfl, b6⟩
      have j6 := j5.below b6
      have c6 := c5.trans (b6.mono c5.size)
      have z0 := j6.c0
      have z1 := j6.c1
      have z2 := j6.c2
      have zl := j6.lt
      clear y0 y1 y2 j4 j5
      go_wp2_with fail
      go_ret
      exact ⟨rfl, c6.alloc c6.size _⟩

theorem own : ownKnob Tryd.prog.godebug = none := by kernel_rfl
theorem tabs_of {W : World} (h : laidMetH Tryd.prog Rows.fnJidPutRow.laid W) : Hub.Tabs W := by
  rw [MakeChecks.laidMetH_plain _ _ _ (by kernel_rfl)] at h
  have e1 : Rows.laid_unicode_utf8_acceptRanges = Lib.acceptData := by kernel_rfl
  have e2 : Rows.laid_unicode_utf8_first = Lib.firstData := Pinned.utf8First_eq
  have r1 := Lib.laidMet.reads h (.head _)
  have r2 := Lib.laidMet.reads h (.tail _ (.head _))
  rw [e1] at r1
  rw [e2] at r2
  exact utf8Tabs_of_readsT (U8Types.of196 Tryd.lays196) ⟨by kernel_rfl, by kernel_rfl, by kernel_rfl, by kernel_rfl, by kernel_rfl, by kernel_rfl, by kernel_rfl⟩ r2 r1

theorem laidOut : laidOutB Tryd.prog = true := by kernel_rfl
set_option maxRecDepth 100000 in
theorem lifted (os : Os) (started : os.Started) (H : Type) (enc : TypeId × Value → H) :
    ReturnsInHanded {} Tryd.checked os 3 .any (fun w args => (Rows.fnJidPutSpec.pre enc Tryd.prog Tryd.f3 Rows.fnJidPutRow.domain false w args ∧ laidMetH Tryd.prog Rows.fnJidPutRow.laid w) ∧ sizedMet enc Tryd.prog Tryd.f3 (OpenSpec.ofChange Rows.fnJidPutSpec) false w args)
      (Rows.fnJidPutSpec.post enc Tryd.prog Tryd.f3 false true false false) := by
  refine returnsInHanded_of_change_and (C := Tryd.checked) (X := fun w _ => laidMetH Tryd.prog Rows.fnJidPutRow.laid w) (fun _ _ _ hh h => h.of_heap hh) own started (by kernel_rfl) Tryd.func3
    (ChangeSpec.witness_shaped (enc := enc) (C := Tryd.checked) (os := os) (X := fun w _ => laidMetH Tryd.prog Rows.fnJidPutRow.laid w) false (World.laidAll Tryd.prog os Rows.fnJidPutRow.laid) #[.slice none 0 0] 8 (World.laidAll_os _ _ _)
      (World.shaped_of_ZipB (by kernel_rfl) (by kernel_rfl)) (by kernel_rfl) (by kernel_rfl) (by kernel_rfl)
      (by rw [MakeChecks.laidMetH_plain _ _ _ (by kernel_rfl)]; exact laidMet_laidAll _ (by kernel_rfl) (by kernel_rfl))) ?_
  intro W base args ds gs before hval0 hW hc _ hL _
  have hval : ∀ (j : Nat) t v, Tryd.f3.params[j]? = some t → args[j]? = some v → Value.okWide Tryd.prog W .any base t v := hval0
  have hW' := hW
  obtain ⟨p, q, hA0, hV, rfl, _, _⟩ := hW
  have hA : DataW.TrodAll enc Tryd.prog W 0 (fun _ => true) true Tryd.f3.params.toList args.toList ds p := hA0
  rw [Tryd.params3] at hA hval
  obtain ⟨v0, d0, rfl, rfl, h0⟩ := trodAll_one hA
  obtain ⟨rfl, rfl⟩ := trodVars_none hV
  obtain ⟨n0, hb0⟩ := Hub.open_bytes (hval 0 22 v0 rfl rfl) h0
  simp only [List.append_nil] at hW'
  have hlt0 : ∀ x ∈ p, x.block < W.heap.size := fun x hx => by simpa using hW'.lt x hx
  refine (walk v0 n0 W (tabs_of hL) hb0).mono fun e W' ⟨he, bel⟩ => ?_
  subst he
  exact ⟨_, rfl, _, _, _, [], _, [], hW', trodAll_mk1 (shut_bool Tryd.underlying4 _), trodAll_mk1 (Below.trod laidOut (by kernel_rfl) (of_decide_eq_true (by kernel_rfl)) h0 bel hlt0), rfl, bel.frame _, fun h => by cases h⟩

theorem holds : Rows.FnJidPutSaid :=
  OpenClaim.holds_of_wide 3 Tryd.f3 rfl rfl rfl rfl rfl rfl rfl ⟨rfl, rfl, rfl, rfl, rfl⟩ rfl rfl rfl rfl rfl (by kernel_rfl) Tryd.func3 (by kernel_rfl)
    (of_decide_eq_true (by kernel_rfl)) (by unfold Func.isWrapper; first | (rw [if_pos (by decide +kernel)]; kernel_rfl) | (rw [if_neg (by decide +kernel)]; exact ⟨rfl, rfl⟩))
    (fun os started H enc _ => lifted os started H enc)
theorem card_holds : Rows.FnJidPutCardSaid :=
  Claim7.holds_tied_plain_at .later [] [.data, .pinned] true (true, "5fbe6ade74d4c12dc90945530359e7a95f3bcb5ebdebf2fc00d94e0e27a28fd0") false holds (fun _ h => by cases h) (by kernel_rfl) (fun _ h => by cases h) fnJidPut_row_tie rfl ⟨rfl, rfl⟩ (by kernel_rfl) rfl
    (fun f fn hf hfn => by
      obtain rfl : f = 3 := Option.some.inj ((show Tryd.prog.funcNamed Rows.fnJidPutRow.func = some 3 by kernel_rfl).symm.trans hf) |>.symm
      obtain rfl : fn = Tryd.f3 := (Option.some.inj (Tryd.func3.symm.trans hfn)).symm
      exact ⟨by kernel_rfl, fun j t ht => by
        rw [Tryd.params3] at ht
        have hm : t ∈ [22] := by simpa using Array.mem_of_getElem? ht
        have hall : ([22].all fun u => !Tryd.prog.wantsStandIn u) = true := by kernel_rfl
        exact (show Tryd.prog.wantsStandIn t = false by simpa using List.all_eq_true.1 hall t hm)⟩)
    (by kernel_rfl)
#print axioms card_holds
end Go.Proofs.YthcjimigmeijfacDoor.fnJidPut

namespace Go.Proofs.YthcjimigmeijfacDoor
/-- The statement. -/
theorem fnJidPut_card : Rows.FnJidPutCardSaid := fnJidPut.card_holds
end Go.Proofs.YthcjimigmeijfacDoor
