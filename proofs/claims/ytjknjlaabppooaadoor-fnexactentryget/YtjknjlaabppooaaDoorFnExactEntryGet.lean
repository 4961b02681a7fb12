/-
  For every text the law FnExactEntryGet returns true: impl.EntryGet answers as spec.EntryGet, every field. Its condition: the tables of unicode/utf8, the table of powers of ten and the two errors of strconv are as the library's text lays them (the card ties them to the program's text); the law itself passes texts of more than 1048576 bytes by.
-/
import Derived.Test.YtjknjlaabppooaaDoorRows
import Derived.Test.YtjknjlaabppooaaDoorTie
import Derived.Test.YtjknjlaabppooaaDoorCards
import Derived.Test.YtjknjlaabppooaaDoorGetBoth
import Derived.Lib.LaidU8T
import Derived.Lib.SmallJoins
import Derived.PinnedBridge
import Derived.ProofKit
import Derived.OpenShut
import Derived.ShutString
import Derived.LaidMore
import Derived.Lay
import Derived.SevenTiedAt
import Derived.Stop.Joined
namespace Go.Proofs.YtjknjlaabppooaaDoor.fnExactEntryGet
open Go.ChangeShapes Go.WideShapes Go.ChangeAt Go.RowKit Go.Shelf
open Go.ChangeMaps (open_string shut_string)
set_option linter.unusedVariables false

set_option maxRecDepth 100000 in
set_option maxHeartbeats 4000000 in
theorem walk (a : ByteArray) (wa : a.size ≤ maxLen) (w : World) (hE : Hub.Tabs w ∧ Hub.Tens w ∧ Hub.Errs w) :
    Calls Tryd.prog 3 #[.string a] w fun e w' => e = .returned (.bool true) ∧ Below w.heap.size w w' := by
  unfold maxLen at wa
  by_cases hz : a.size ≤ 1048576
  · obtain ⟨r, q, k, u, n, t, i, f, m, B, hS, hI, -⟩ := Hub.get_both a hz
    have hz1 : ¬ (1048576 : Int) < (a.size : Int) := by omega
    go_enter Tryd.func3, Tryd.ntmps3
    go_wp2_with first
      | (go_at_call 6; rw [HV2.out]; go_fit (Hub.eqEntry_same r q k u n t i f m V2); rintro e w3 ⟨rfl, b3⟩)
      | (go_at_call 5; rw [HV1.out]; go_fit (hI V1 (Utf8Tabs_below hE.1 B1) (hE.2.1.below B1) (hE.2.2.below B1)); rintro e w2 ⟨rfl, b2⟩; have hlt : w1.heap.size < w2.heap.size := (Nat.lt_of_lt_of_le l1 b2.size); obtain ⟨x0, x1, x2, x3, x4, x5, x6, x7, x8⟩ := N1.out w2 b2; obtain ⟨V2, hV2⟩ : ∃ V, w2.alloc (.cells #[.string r, .int .i64 q, .int .i64 k, .string u, .string n, .string t, .string i, .string f, .int .i64 m] 23) = V := ⟨_, rfl⟩; have d2 : Below w2.heap.size w2 V2 := (by rw [← hV2]; exact (Below.refl _ w2).alloc (Nat.le_refl _) _); have l2 : w2.heap.size < V2.heap.size := (by rw [← hV2]; simp); have N2 := Hub.nine_new w2 23 r q k u n t i f m; rw [hV2] at N2; have HV2 : Hid (w2.alloc (.cells #[.string r, .int .i64 q, .int .i64 k, .string u, .string n, .string t, .string i, .string f, .int .i64 m] 23) = V2) := hV2; clear hV2; have B2 : Below w.heap.size w V2 := B1.trans ((b2.trans (d2.mono b2.size)).mono B1.size))
      | (go_at_call 4; go_fit (hS w); rintro e w1 ⟨rfl, b1⟩; obtain ⟨V1, hV1⟩ : ∃ V, w1.alloc (.cells #[.string r, .int .i64 q, .int .i64 k, .string u, .string n, .string t, .string i, .string f, .int .i64 m] 23) = V := ⟨_, rfl⟩; have d1 : Below w1.heap.size w1 V1 := (by rw [← hV1]; exact (Below.refl _ w1).alloc (Nat.le_refl _) _); have l1 : w1.heap.size < V1.heap.size := (by rw [← hV1]; simp); have N1 := Hub.nine_new w1 23 r q k u n t i f m; rw [hV1] at N1; have HV1 : Hid (w1.alloc (.cells #[.string r, .int .i64 q, .int .i64 k, .string u, .string n, .string t, .string i, .string f, .int .i64 m] 23) = V1) := hV1; clear hV1; have B1 : Below w.heap.size w V1 := b1.trans (d1.mono b1.size))
    go_ret
    exact ⟨rfl, B2.trans (b3.mono B2.size)⟩
  · have hz1 : (1048576 : Int) < (a.size : Int) := by omega
    go_enter Tryd.func3, Tryd.ntmps3
    go_wp2_with fail
    go_ret
    exact ⟨rfl, Below.refl _ _⟩

theorem own : ownKnob Tryd.prog.godebug = none := by kernel_rfl
theorem tabs_of {W : World} (h : laidMetH Tryd.prog Rows.fnExactEntryGetRow.laid W) : Hub.Tabs W ∧ Hub.Tens W ∧ Hub.Errs W := by
  rw [MakeChecks.laidMetH_plain _ _ _ (by kernel_rfl)] at h
  have e1 : Rows.laid_unicode_utf8_acceptRanges = Lib.acceptData := by kernel_rfl
  have e2 : Rows.laid_unicode_utf8_first = Lib.firstData := Pinned.utf8First_eq
  have r1 := Lib.laidMet.reads h (.tail _ (.tail _ (.tail _ (.head _))))
  have r2 := Lib.laidMet.reads h (.tail _ (.tail _ (.tail _ (.tail _ (.tail _ (.tail _ (.head _)))))))
  have r3 := Lib.laidMet.reads h (.tail _ (.tail _ (.head _)))
  have e3 : (Rows.laid_internal_strconv_uint64pow10 : DataW Unit) = Lib.tabData .u64 Lib.pow10Tab := by kernel_rfl
  rw [e1] at r1
  rw [e2] at r2
  rw [e3] at r3
  refine ⟨utf8Tabs_of_readsT (U8Types.of196 Tryd.lays196) ⟨by kernel_rfl, by kernel_rfl, by kernel_rfl, by kernel_rfl, by kernel_rfl, by kernel_rfl, by kernel_rfl⟩ r2 r1, ?_⟩
  obtain ⟨g, t, cs, fuel, p, hg, ht, hv, hr⟩ := r3
  have hg2 : Tryd.prog.globalNamed "internal/strconv.uint64pow10" = some 4 := by kernel_rfl
  obtain rfl : 4 = g := Option.some.inj (hg2.symm.trans hg)
  have ht2 : (Tryd.prog.globals[4]?).map (·.type) = some 95 := by kernel_rfl
  obtain rfl : 95 = t := Option.some.inj (ht2.symm.trans ht)
  have X : Hub.Tens W := by
    unfold Hub.Tens Lib.TabIs
    rw [hv, ← Lib.cells_of_tab Tryd.underlying95 Tryd.underlying65 (by kernel_rfl) (by kernel_rfl) hr]
  refine ⟨X, ?_, ?_⟩
  · obtain ⟨g, t, cs, fuel, p, hg, ht, hv, hr⟩ := Lib.laidMet.reads h (.tail _ (.tail _ (.tail _ (.tail _ (.tail _ (.head _))))))
    have hg2 : Tryd.prog.globalNamed "strconv.ErrSyntax" = some 0 := by kernel_rfl
    obtain rfl : 0 = g := Option.some.inj (hg2.symm.trans hg)
    have ht2 : (Tryd.prog.globals[0]?).map (·.type) = some 39 := by kernel_rfl
    obtain rfl : 39 = t := Option.some.inj (ht2.symm.trans ht)
    obtain ⟨_, u, v, hcs, _, _⟩ := iface_of_trod Tryd.underlying39 hr
    refine ⟨u, v, ?_⟩
    have h0 := World.var?_cell hg2 hv 0
    have h1 : cs[0]? = some (.iface u v) := by rw [← Array.getElem?_toList, hcs]; rfl
    exact h0.trans h1
  · obtain ⟨g, t, cs, fuel, p, hg, ht, hv, hr⟩ := Lib.laidMet.reads h (.tail _ (.tail _ (.tail _ (.tail _ (.head _)))))
    have hg2 : Tryd.prog.globalNamed "strconv.ErrRange" = some 1 := by kernel_rfl
    obtain rfl : 1 = g := Option.some.inj (hg2.symm.trans hg)
    have ht2 : (Tryd.prog.globals[1]?).map (·.type) = some 39 := by kernel_rfl
    obtain rfl : 39 = t := Option.some.inj (ht2.symm.trans ht)
    obtain ⟨_, u, v, hcs, _, _⟩ := iface_of_trod Tryd.underlying39 hr
    refine ⟨u, v, ?_⟩
    have h0 := World.var?_cell hg2 hv 0
    have h1 : cs[0]? = some (.iface u v) := by rw [← Array.getElem?_toList, hcs]; rfl
    exact h0.trans h1

theorem laidOut : laidOutB Tryd.prog = true := by kernel_rfl
set_option maxRecDepth 100000 in
theorem lifted (os : Os) (started : os.Started) (H : Type) (enc : TypeId × Value → H) :
    ReturnsInHanded {} Tryd.checked os 3 .any (fun w args => (Rows.fnExactEntryGetSpec.pre enc Tryd.prog Tryd.f3 Rows.fnExactEntryGetRow.domain false w args ∧ laidMetH Tryd.prog Rows.fnExactEntryGetRow.laid w) ∧ sizedMet enc Tryd.prog Tryd.f3 (OpenSpec.ofChange Rows.fnExactEntryGetSpec) false w args)
      (Rows.fnExactEntryGetSpec.post enc Tryd.prog Tryd.f3 false true false false) := by
  refine returnsInHanded_of_change_and (C := Tryd.checked) (X := fun w _ => laidMetH Tryd.prog Rows.fnExactEntryGetRow.laid w) (fun _ _ _ hh h => h.of_heap hh) own started (by kernel_rfl) Tryd.func3
    (ChangeSpec.witness_shaped (enc := enc) (C := Tryd.checked) (os := os) (X := fun w _ => laidMetH Tryd.prog Rows.fnExactEntryGetRow.laid w) false (World.laidAll Tryd.prog os Rows.fnExactEntryGetRow.laid) #[.string ByteArray.empty] 8 (World.laidAll_os _ _ _)
      (World.shaped_of_ZipB (by kernel_rfl) (by kernel_rfl)) (by kernel_rfl) (by kernel_rfl) (by kernel_rfl)
      (by rw [MakeChecks.laidMetH_plain _ _ _ (by kernel_rfl)]; exact laidMet_laidAll _ (by kernel_rfl) (by kernel_rfl))) ?_
  intro W base args ds gs before hval0 hW hc _ hL _
  have hval : ∀ (j : Nat) t v, Tryd.f3.params[j]? = some t → args[j]? = some v → Value.okWide Tryd.prog W .any base t v := hval0
  have hW' := hW
  obtain ⟨p, q, hA0, hV, rfl, _, _⟩ := hW
  have hA : DataW.TrodAll enc Tryd.prog W 0 (fun _ => true) true Tryd.f3.params.toList args.toList ds p := hA0
  rw [Tryd.params3] at hA hval
  obtain ⟨v0, d0, rfl, rfl, h0⟩ := trodAll_one hA
  obtain ⟨rfl, rfl⟩ := trodVars_none hV
  obtain ⟨a0, e0, _, _, w0⟩ := open_string Tryd.underlying9 (hval 0 9 v0 rfl rfl) h0
  subst e0
  simp only [List.append_nil] at hW'
  have hlt0 : ∀ x ∈ p, x.block < W.heap.size := fun x hx => by simpa using hW'.lt x hx
  refine (walk a0 w0 W (tabs_of hL)).mono fun e W' ⟨he, bel⟩ => ?_
  subst he
  exact ⟨_, rfl, _, _, _, [], _, [], hW', trodAll_mk1 (shut_bool Tryd.underlying4 _), trodAll_mk1 (Below.trod laidOut (by kernel_rfl) (of_decide_eq_true (by kernel_rfl)) h0 bel hlt0), rfl, bel.frame _, fun h => by cases h⟩

theorem holds : Rows.FnExactEntryGetSaid :=
  OpenClaim.holds_of_wide 3 Tryd.f3 rfl rfl rfl rfl rfl rfl rfl ⟨rfl, rfl, rfl, rfl, rfl⟩ rfl rfl rfl rfl rfl (by kernel_rfl) Tryd.func3 (by kernel_rfl)
    (of_decide_eq_true (by kernel_rfl)) (by unfold Func.isWrapper; first | (rw [if_pos (by decide +kernel)]; kernel_rfl) | (rw [if_neg (by decide +kernel)]; exact ⟨rfl, rfl⟩))
    (fun os started H enc _ => lifted os started H enc)
theorem card_holds : Rows.FnExactEntryGetCardSaid :=
  Claim7.holds_tied_plain_at .later [] [.data, .data, .data, .data, .sentinel, .sentinel, .pinned] true (true, "e9340ecddbab4efd169c631c15c46cefc513f028de4157cbe52a1e3bacb63740") true holds (fun _ h => by cases h) (by kernel_rfl) (fun _ h => by cases h) fnExactEntryGet_row_tie rfl ⟨rfl, rfl⟩ (by kernel_rfl) rfl
    (fun f fn hf hfn => by
      obtain rfl : f = 3 := Option.some.inj ((show Tryd.prog.funcNamed Rows.fnExactEntryGetRow.func = some 3 by kernel_rfl).symm.trans hf) |>.symm
      obtain rfl : fn = Tryd.f3 := (Option.some.inj (Tryd.func3.symm.trans hfn)).symm
      exact ⟨by kernel_rfl, fun j t ht => by
        rw [Tryd.params3] at ht
        have hm : t ∈ [9] := by simpa using Array.mem_of_getElem? ht
        have hall : ([9].all fun u => !Tryd.prog.wantsStandIn u) = true := by kernel_rfl
        exact (show Tryd.prog.wantsStandIn t = false by simpa using List.all_eq_true.1 hall t hm)⟩)
    (by kernel_rfl)
#print axioms card_holds
end Go.Proofs.YtjknjlaabppooaaDoor.fnExactEntryGet

namespace Go.Proofs.YtjknjlaabppooaaDoor
/-- The statement. -/
theorem fnExactEntryGet_card : Rows.FnExactEntryGetCardSaid := fnExactEntryGet.card_holds
end Go.Proofs.YtjknjlaabppooaaDoor
