/-
  For every text the law FnExactWordsOf returns true: impl.WordsOf answers as spec.WordsOf, and what it answers is memory of its own, behind another call too. Its condition: the two tables of unicode/utf8 are as the library's text lays them (the card ties them to the program's text); the law itself passes texts of more than 1048576 bytes by.
-/
import Derived.Test.YtkhfigcmpigmnaaDoorRows
import Derived.Test.YtkhfigcmpigmnaaDoorTie
import Derived.Test.YtkhfigcmpigmnaaDoorCards
import Derived.Test.YtkhfigcmpigmnaaDoorWordsI
import Derived.Test.YtkhfigcmpigmnaaDoorMarks
import Derived.Lib.LaidU8T
import Derived.Lib.SmallJoins
import Derived.PinnedBridge
import Derived.ProofKit
import Derived.OpenShut
import Derived.ShutString
import Derived.LaidMore
import Derived.Lay
import Derived.SevenTiedAt
import Derived.Stop.Joined
namespace Go.Proofs.YtkhfigcmpigmnaaDoor.Hub
open Go.Shelf Go.Lib Go.Proofs in
theorem u8T : U8Types Tryd.prog Tryd.lays197_ren := { Tryd.lays197 with }
abbrev Tabs (w : World) : Prop := Lib.Utf8Tabs (Tryd.lays197_ren.g 3) (Tryd.lays197_ren.g 4) w
end Go.Proofs.YtkhfigcmpigmnaaDoor.Hub
namespace Go.Proofs.YtkhfigcmpigmnaaDoor.fnExactWordsOf
open Go.ChangeShapes Go.WideShapes Go.ChangeAt Go.RowKit Go.Shelf
open Go.ChangeMaps (open_string shut_string)
set_option linter.unusedVariables false

theorem own_kept {W W' : World} {base n : Nat} {v : Value} {S : Nat → ByteArray} {u : Option Nat} (h : Hub.Own W base v n S) (hg : W.grownBy W' u) (hu : v.ownBlock = none ∨ v.ownBlock ≠ u) : Hub.Own W' base v n S := World.ownsRow.kept h hg hu
theorem own_lt {W : World} {base n : Nat} {v : Value} {S : Nat → ByteArray} (h : Hub.Own W base v n S) : ∀ q, v.ownBlock = some q → base ≤ q ∧ q < W.heap.size := by
  intro q e
  rcases h.2 with ⟨rfl, _⟩ | ⟨g, cap, cur, rfl, hb, hg, _⟩
  · cases e
  · obtain rfl := Option.some.inj e
    exact ⟨hb, (Array.getElem?_eq_some_iff.1 hg).1⟩
theorem away {v : Value} {base h : Nat} (H : ∀ q, v.ownBlock = some q → base ≤ q ∧ q < h) (u : Option Nat) (hu : ∀ q, u = some q → h ≤ q) : v.ownBlock = none ∨ v.ownBlock ≠ u := by
  cases hv : v.ownBlock with
  | none => exact .inl rfl
  | some q =>
    refine .inr (fun e => ?_)
    have h1 := (H q hv).2
    have h2 := hu q e.symm
    omega
theorem words_len (s : ByteArray) : (Hub.wordsT s).length ≤ s.size := by
  have h : Hub.wordsT s = Hub.wl (Hub.runsV s 0) := Hub.words_all s
  have h1 := Hub.wl_len (Hub.runsV s 0)
  have h2 := Hub.runs_len s (s.size - 0) 0
  rw [h]
  unfold Hub.runsV at h1 ⊢
  omega

set_option maxRecDepth 100000 in
set_option maxHeartbeats 4000000 in
theorem walk (s : ByteArray) (ws : s.size ≤ maxLen) (w : World) (hT : Hub.Tabs w) :
    Calls Tryd.prog 3 #[.string s] w fun e w' => e = .returned (.bool true) ∧ Below w.heap.size w w' := by
  unfold maxLen at ws
  by_cases hbig : (1048576 : Int) < (s.size : Int)
  · go_enter Tryd.func3, Tryd.ntmps3
    go_wp2_with fail
    go_ret
    exact ⟨rfl, Below.refl _ _⟩
  · have cS := Hub.specWordsOf_any s (by omega) w
    have cI : Hid (∀ W, Below w.heap.size w W → _) := fun W hW => Hub.wordsOf_any s (by omega) W (fun W2 h2 => Utf8Tabs_below hT (hW.trans (h2.mono hW.size)))
    have hwl := words_len s
    obtain ⟨L, hL⟩ : ∃ L, Hub.wordsT s = L := ⟨_, rfl⟩
    rw [hL] at cS cI hwl
    have hLn : L.length ≤ 1048576 := by omega
    clear hL hT hwl
    go_enter Tryd.func3, Tryd.ntmps3
    go_wp2_with fail
    go_fit cS
    rintro e w1 ⟨v1, rfl, O1, b1⟩
    have HO1 : Hid (Hub.Own w1 w.heap.size v1 L.length (Hub.gt L)) := O1
    obtain ⟨o1, c1, rfl⟩ := O1.shape
    clear O1 cS
    go_wp2_with fail
    refine (cI.out w1 b1).mono ?_
    rintro e w2 ⟨v2, rfl, O2, b2⟩
    have HO2 : Hid (Hub.Own w2 w1.heap.size v2 L.length (Hub.gt L)) := O2
    obtain ⟨o2, c2, rfl⟩ := O2.shape
    have bw2 := b1.trans (b2.mono b1.size)
    have O12 := HO1.out.below b2
    have HO12 : Hid (Hub.Own w2 w.heap.size (.slice o1 L.length c1) L.length (Hub.gt L)) := O12
    have L1 := own_lt HO1.out
    have cE := Hub.eqStringS_same (.slice o2 L.length c2) (.slice o1 L.length c1) L.length (Hub.gt L) w2 O2.strAt O12.strAt
    have HL1 : Hid _ := L1
    clear L1 O2 O12
    go_wp2_with (go_at_call 6; go_fit cE; rintro e w3 ⟨rfl, b3⟩)
    have bw3 := bw2.trans (b3.mono bw2.size)
    have O23 := HO2.out.below b3
    have HO13 : Hid (Hub.Own w3 w.heap.size (.slice o1 L.length c1) L.length (Hub.gt L)) := HO12.out.below b3
    have cM := Hub.markStringS_any w1.heap.size (.slice o2 L.length c2) L.length 1 (Hub.gt L) w3 O23 (by omega) (by omega)
    obtain ⟨Q, hQ⟩ : ∃ Q : Int, ((1 + L.length : Nat) : Int) = Q := ⟨_, rfl⟩
    have HQ : Hid (((1 + L.length : Nat) : Int) = Q) := hQ
    have hQ0 : ¬ Q < 0 := by omega
    have hQQ : (Q != Q) = false := bne_self_eq_false Q
    rw [hQ] at cM
    have HL2 : Hid _ := own_lt O23
    clear O23 cE hQ
    go_fit cM
    rintro e w4 ⟨rfl, O4, gr⟩
    have HO4 : Hid (Hub.Own w4 w1.heap.size (.slice o2 L.length c2) L.length _) := O4
    have HO14 : Hid (Hub.Own w4 w.heap.size (.slice o1 L.length c1) L.length (Hub.gt L)) := own_kept HO13.out gr (away HL1.out _ (fun q hq => (HL2.out q hq).1))
    have bw4 : Below w.heap.size w w4 := bw3.grown gr bw3.size (fun q hq => Nat.le_trans b1.size (HL2.out q hq).1)
    have HH : Hid (∀ W, Below w4.heap.size w4 W → Calls Tryd.prog 8 #[.slice o2 L.length c2, .int .i64 1] W fun e w' => e = .returned (.int .i64 Q) ∧ Below W.heap.size W w') := fun W bb => by
      have h := Hub.heldStringS_any (.slice o2 L.length c2) L.length 1 W ((HO4.out.below bb).strAt) (by omega) (by omega)
      rw [HQ.out] at h
      exact h
    clear O4 cM gr
    go_wp2_with fail
    refine (HH.out w4 (Below.refl _ _)).mono ?_
    rintro e w5 ⟨rfl, b5⟩
    have bw5 := bw4.trans (b5.mono bw4.size)
    go_wp2_with fail
    refine (cI.out w5 bw5).mono ?_
    rintro e w6 ⟨v6, rfl, O6, b6⟩
    obtain ⟨o6, c6, rfl⟩ := O6.shape
    have bw6 := bw5.trans (b6.mono bw5.size)
    have b46 : Below w4.heap.size w4 w6 := b5.trans (b6.mono b5.size)
    have O16 := HO14.out.below b46
    have cE := Hub.eqStringS_same (.slice o6 L.length c6) (.slice o1 L.length c1) L.length (Hub.gt L) w6 O6.strAt O16.strAt
    clear O6 O16
    go_wp2_with (go_at_call 6; go_fit cE; rintro e w7 ⟨rfl, b7⟩)
    have bw7 := bw6.trans (b7.mono bw6.size)
    have b47 : Below w4.heap.size w4 w7 := b46.trans (b7.mono b46.size)
    refine (HH.out w7 b47).mono ?_
    rintro e w8 ⟨rfl, b8⟩
    go_wp2_with fail
    go_ret
    exact ⟨rfl, bw7.trans (b8.mono bw7.size)⟩

theorem own : ownKnob Tryd.prog.godebug = none := by kernel_rfl
theorem tabs_of {W : World} (h : laidMetH Tryd.prog Rows.fnExactWordsOfRow.laid W) : Hub.Tabs W := by
  rw [MakeChecks.laidMetH_plain _ _ _ (by kernel_rfl)] at h
  have e1 : Rows.laid_unicode_utf8_acceptRanges = Lib.acceptData := by kernel_rfl
  have e2 : Rows.laid_unicode_utf8_first = Lib.firstData := Pinned.utf8First_eq
  have r1 := Lib.laidMet.reads h (.head _)
  have r2 := Lib.laidMet.reads h (.tail _ (.head _))
  rw [e1] at r1
  rw [e2] at r2
  exact utf8Tabs_of_readsT Hub.u8T ⟨by kernel_rfl, by kernel_rfl, by kernel_rfl, by kernel_rfl, by kernel_rfl, by kernel_rfl, by kernel_rfl⟩ r2 r1

theorem laidOut : laidOutB Tryd.prog = true := by kernel_rfl
set_option maxRecDepth 100000 in
theorem lifted (os : Os) (started : os.Started) (H : Type) (enc : TypeId × Value → H) :
    ReturnsInHanded {} Tryd.checked os 3 .any (fun w args => (Rows.fnExactWordsOfSpec.pre enc Tryd.prog Tryd.f3 Rows.fnExactWordsOfRow.domain false w args ∧ laidMetH Tryd.prog Rows.fnExactWordsOfRow.laid w) ∧ sizedMet enc Tryd.prog Tryd.f3 (OpenSpec.ofChange Rows.fnExactWordsOfSpec) false w args)
      (Rows.fnExactWordsOfSpec.post enc Tryd.prog Tryd.f3 false true false false) := by
  refine returnsInHanded_of_change_and (C := Tryd.checked) (X := fun w _ => laidMetH Tryd.prog Rows.fnExactWordsOfRow.laid w) (fun _ _ _ hh h => h.of_heap hh) own started (by kernel_rfl) Tryd.func3
    (ChangeSpec.witness_shaped (enc := enc) (C := Tryd.checked) (os := os) (X := fun w _ => laidMetH Tryd.prog Rows.fnExactWordsOfRow.laid w) false (World.laidAll Tryd.prog os Rows.fnExactWordsOfRow.laid) #[.string ByteArray.empty] 8 (World.laidAll_os _ _ _)
      (World.shaped_of_ZipB (by kernel_rfl) (by kernel_rfl)) (by kernel_rfl) (by kernel_rfl) (by kernel_rfl)
      (by rw [MakeChecks.laidMetH_plain _ _ _ (by kernel_rfl)]; exact laidMet_laidAll _ (by kernel_rfl) (by kernel_rfl))) ?_
  intro W base args ds gs before hval0 hW hc _ hL _
  have hval : ∀ (j : Nat) t v, Tryd.f3.params[j]? = some t → args[j]? = some v → Value.okWide Tryd.prog W .any base t v := hval0
  have hW' := hW
  obtain ⟨p, q, hA0, hV, rfl, _, _⟩ := hW
  have hA : DataW.TrodAll enc Tryd.prog W 0 (fun _ => true) true Tryd.f3.params.toList args.toList ds p := hA0
  rw [Tryd.params3] at hA hval
  obtain ⟨v0, d0, rfl, rfl, h0⟩ := trodAll_one hA
  obtain ⟨rfl, rfl⟩ := trodVars_none hV
  obtain ⟨a0, e0, _, _, w0⟩ := open_string Tryd.underlying9 (hval 0 9 v0 rfl rfl) h0
  subst e0
  simp only [List.append_nil] at hW'
  have hlt0 : ∀ x ∈ p, x.block < W.heap.size := fun x hx => by simpa using hW'.lt x hx
  refine (walk a0 w0 W (tabs_of hL)).mono fun e W' ⟨he, bel⟩ => ?_
  subst he
  exact ⟨_, rfl, _, _, _, [], _, [], hW', trodAll_mk1 (shut_bool Tryd.underlying4 _), trodAll_mk1 (Below.trod laidOut (by kernel_rfl) (of_decide_eq_true (by kernel_rfl)) h0 bel hlt0), rfl, bel.frame _, fun h => by cases h⟩

theorem holds : Rows.FnExactWordsOfSaid :=
  OpenClaim.holds_of_wide 3 Tryd.f3 rfl rfl rfl rfl rfl rfl rfl ⟨rfl, rfl, rfl, rfl, rfl⟩ rfl rfl rfl rfl rfl (by kernel_rfl) Tryd.func3 (by kernel_rfl)
    (of_decide_eq_true (by kernel_rfl)) (by unfold Func.isWrapper; first | (rw [if_pos (by decide +kernel)]; kernel_rfl) | (rw [if_neg (by decide +kernel)]; exact ⟨rfl, rfl⟩))
    (fun os started H enc _ => lifted os started H enc)
theorem card_holds : Rows.FnExactWordsOfCardSaid :=
  Claim7.holds_tied_plain_at .later [] [.data, .pinned] true (true, "458c6f3f4a86f29feee0507fbb7d5ba948bed6de78a7d56be82ea1a86e32f3a7") false holds (fun _ h => by cases h) (by kernel_rfl) (fun _ h => by cases h) fnExactWordsOf_row_tie rfl ⟨rfl, rfl⟩ (by kernel_rfl) rfl
    (fun f fn hf hfn => by
      obtain rfl : f = 3 := Option.some.inj ((show Tryd.prog.funcNamed Rows.fnExactWordsOfRow.func = some 3 by kernel_rfl).symm.trans hf) |>.symm
      obtain rfl : fn = Tryd.f3 := (Option.some.inj (Tryd.func3.symm.trans hfn)).symm
      exact ⟨by kernel_rfl, fun j t ht => by
        rw [Tryd.params3] at ht
        have hm : t ∈ [9] := by simpa using Array.mem_of_getElem? ht
        have hall : ([9].all fun u => !Tryd.prog.wantsStandIn u) = true := by kernel_rfl
        exact (show Tryd.prog.wantsStandIn t = false by simpa using List.all_eq_true.1 hall t hm)⟩)
    (by kernel_rfl)
#print axioms card_holds
end Go.Proofs.YtkhfigcmpigmnaaDoor.fnExactWordsOf

namespace Go.Proofs.YtkhfigcmpigmnaaDoor
/-- The statement. -/
theorem fnExactWordsOf_card : Rows.FnExactWordsOfCardSaid := fnExactWordsOf.card_holds
end Go.Proofs.YtkhfigcmpigmnaaDoor
