/-
  For every room the law FnExactRoomPut returns true: impl.RoomPut answers as spec.RoomPut, and leaves the room as it was. Its condition: the two tables of unicode/utf8 and the table of powers of ten of strconv are as the library's text lays them (the card ties them to the program's text); the law itself passes rooms whose texts and lists have more than 1048576 bytes and places together by.
-/
import Derived.Test.YtglbjibilllopaaDoorRows
import Derived.Test.YtglbjibilllopaaDoorTie
import Derived.Test.YtglbjibilllopaaDoorCards
import Derived.Test.YtglbjibilllopaaDoorArgRoom
import Derived.Test.YtglbjibilllopaaDoorRoomImplD
import Derived.Test.YtglbjibilllopaaDoorRoomPutS
import Derived.Test.YtglbjibilllopaaDoorRoomPutI
import Derived.Lib.LaidU8T
import Derived.Lib.SmallJoins
import Derived.PinnedBridge
import Derived.ProofKit
import Derived.OpenShut
import Derived.ShutString
import Derived.LaidMore
import Derived.Lay
import Derived.SevenTiedAt
import Derived.Stop.Joined
namespace Go.Proofs.YtglbjibilllopaaDoor.fnExactRoomPut
open Go.ChangeShapes Go.WideShapes Go.ChangeAt Go.RowKit Go.Shelf
open Go.ChangeMaps (open_string shut_string)
set_option linter.unusedVariables false

set_option maxRecDepth 100000 in
set_option maxHeartbeats 4000000 in
theorem walk (nm sb : ByteArray) (nx : Int) (vm vk : Value) (n : Nat) (U N : Nat → ByteArray) (R : Nat → Int) (z : Nat) (KU : Nat → ByteArray) (KR : Nat → Int) (w : World) (hE : Hub.Tabs w ∧ Hub.Tens w) (hnm : nm.size ≤ maxLen) (hsb : sb.size ≤ maxLen) (hm : Hub.MemAt w vm n U N R) (hs : ∀ j, j < n → (U j).size ≤ maxLen ∧ (N j).size ≤ maxLen) (hk : Hub.RankAt w vk z KU KR) (hz : ∀ j, j < z → (KU j).size ≤ maxLen) :
    Calls Tryd.prog 3 #[Hub.roomV nm nx vm vk sb] w fun e w' => e = .returned (.bool true) ∧ Below w.heap.size w w' := by
  unfold maxLen at hnm hsb hs hz
  obtain ⟨hT, hX⟩ := hE
  obtain ⟨W1, hW1⟩ : ∃ W1, W1 = w.alloc (.cells #[.string nm, .int .i64 nx, vm, vk, .string sb] 25) := ⟨_, rfl⟩
  obtain ⟨B, hB0⟩ : ∃ B, B = w.heap.size := ⟨_, rfl⟩
  have c0 : Below w.heap.size w W1 := by rw [hW1]; exact Hub.below_alloc w _
  have hw0 : B < W1.heap.size := by rw [hW1, hB0]; simp
  have NEW : Hid (∀ W : World, Below W1.heap.size W1 W → W.cell? ⟨B, 0, none⟩ = some (.string nm) ∧ W.cell? ⟨B, 1, none⟩ = some (.int .i64 nx) ∧ W.cell? ⟨B, 2, none⟩ = some vm ∧ W.cell? ⟨B, 3, none⟩ = some vk ∧ W.cell? ⟨B, 4, none⟩ = some (.string sb)) := fun W b => by
    have q : ∀ i, W.cell? ⟨B, i, none⟩ = (#[.string nm, .int .i64 nx, vm, vk, .string sb] : Array Value)[i]? := fun i => (b.cell (p := ⟨B, i, none⟩) hw0).trans (by rw [hW1, hB0]; exact Hub.room_cell w _ _ i)
    exact ⟨q 0, q 1, q 2, q 3, q 4⟩
  have hm1 := hm.below c0
  have hk1 := hk.below c0
  have hT1 : Hub.Tabs W1 := Utf8Tabs_below hT c0
  have HX : Hid (Hub.Tens W1) := hX.below c0
  have cS := Hub.szRoom_any nm sb nx vm vk n U N R z KU KR W1 hm1 hk1 (by omega) (by omega) (fun j hj => by have := hs j hj; omega) (fun j hj => by have := hz j hj; omega)
  have HM : Hid (Hub.MemAt W1 vm n U N R) := hm1
  have HK : Hid (Hub.RankAt W1 vk z KU KR) := hk1
  have HT : Hid (Hub.Tabs W1) := hT1
  have vms : ∃ o l c, vm = .slice o l c := by obtain ⟨o, c, h, _⟩ := hm; exact ⟨o, n, c, h⟩
  have vks : ∃ o l c, vk = .slice o l c := by obtain ⟨o, c, h, _⟩ := hk; exact ⟨o, z, c, h⟩
  obtain ⟨o, l, c, rfl⟩ := vms
  obtain ⟨o2, l2, c2, rfl⟩ := vks
  clear hm hk hm1 hk1 hT hT1 hs hz hX
  go_enter Tryd.func3, Tryd.ntmps3
  go_wp2_with fail
  rw [← hW1, ← hB0]
  clear hW1 hB0
  go_fit cS
  clear cS
  rintro e w2 ⟨⟨y, rfl, hy⟩, b2⟩
  obtain ⟨x0, x1, x2, x3, x4⟩ := NEW.out w2 b2
  rcases hy with hy | ⟨hy, s0, s1, s2, s3, s4, s5⟩
  · go_wp2_with fail
    go_ret
    exact ⟨rfl, c0.trans (b2.mono c0.size)⟩
  have hy' : ¬ y < 0 := by omega
  have HS4 : Hid (∀ j, j < n → (U j).size ≤ 9223372036854775800 ∧ (N j).size ≤ 9223372036854775800) := fun j hj => by have := s4 j hj; omega
  have HS5 : Hid (∀ j, j < z → (KU j).size ≤ 9223372036854775800) := fun j hj => by have := s5 j hj; omega
  have TO := fun W (b : Below W1.heap.size W1 W) => Hub.toRoom_any nm sb nx (.slice o l c) (.slice o2 l2 c2) n U N R z KU KR W (HM.out.below b) (HK.out.below b) s2 s3
  clear s4 s5
  go_wp2_with fail
  go_fit (TO w2 b2)
  rintro e w3 ⟨⟨vm3, vk3, rfl, hm3, hk3⟩, b3⟩
  have d3 := b2.trans (b3.mono b2.size)
  have cP := Hub.specRoomPut_any nm sb nx vm3 vk3 n U N R z KU KR w3 hm3 hk3 (by omega) (by omega) HS4.out HS5.out
  clear hm3 hk3
  obtain ⟨F, hF⟩ : ∃ F, Hub.rputT nm nx sb n U N R z KU KR = F := ⟨_, rfl⟩
  have HF : Hid (Hub.rputT nm nx sb n U N R z KU KR = F) := hF
  rw [hF] at cP
  clear hF x0 x1 x2 x3 x4
  go_wp2_with fail
  go_fit cP
  rintro e w4 ⟨rfl, b4⟩
  have d4 := d3.trans (b4.mono d3.size)
  clear cP
  obtain ⟨x0, x1, x2, x3, x4⟩ := NEW.out w4 d4
  go_wp2_with fail
  go_fit (TO w4 d4)
  rintro e w5 ⟨⟨vm5, vk5, rfl, hm5, hk5⟩, b5⟩
  have d5 := d4.trans (b5.mono d4.size)
  have HM5 : Hid (Hub.MemAt w5 vm5 n U N R) := hm5
  have HK5 : Hid (Hub.RankAt w5 vk5 z KU KR) := hk5
  have vms5 : ∃ o l c, vm5 = .slice o l c := by obtain ⟨o, c, h, _⟩ := hm5; exact ⟨o, n, c, h⟩
  have vks5 : ∃ o l c, vk5 = .slice o l c := by obtain ⟨o, c, h, _⟩ := hk5; exact ⟨o, z, c, h⟩
  obtain ⟨o5, l5, c5, rfl⟩ := vms5
  obtain ⟨o6, l6, c6, rfl⟩ := vks5
  clear hm5 hk5
  obtain ⟨W6, hW6⟩ : ∃ W6, W6 = w5.alloc (.cells #[.string nm, .int .i64 nx, .slice o5 l5 c5, .slice o6 l6 c6, .string sb] 31) := ⟨_, rfl⟩
  obtain ⟨M, hM0⟩ : ∃ M, M = w5.heap.size := ⟨_, rfl⟩
  have b6 : Below w5.heap.size w5 W6 := by rw [hW6]; exact Hub.below_alloc w5 _
  have hM6 : M < W6.heap.size := by rw [hW6, hM0]; simp
  have d6 := d5.trans (b6.mono d5.size)
  have NEW6 : Hid (∀ W : World, Below W6.heap.size W6 W → W.cell? ⟨M, 0, none⟩ = some (.string nm) ∧ W.cell? ⟨M, 1, none⟩ = some (.int .i64 nx) ∧ W.cell? ⟨M, 2, none⟩ = some (.slice o5 l5 c5) ∧ W.cell? ⟨M, 3, none⟩ = some (.slice o6 l6 c6) ∧ W.cell? ⟨M, 4, none⟩ = some (.string sb)) := fun W b => by
    have q : ∀ i, W.cell? ⟨M, i, none⟩ = (#[.string nm, .int .i64 nx, .slice o5 l5 c5, .slice o6 l6 c6, .string sb] : Array Value)[i]? := fun i => (b.cell (p := ⟨M, i, none⟩) hM6).trans (by rw [hW6, hM0]; exact Hub.room_cell w5 _ _ i)
    exact ⟨q 0, q 1, q 2, q 3, q 4⟩
  have BOTH : Hid (∀ W : World, Below W6.heap.size W6 W → (W.cell? ⟨M, 0, none⟩ = some (.string nm) ∧ W.cell? ⟨M, 1, none⟩ = some (.int .i64 nx) ∧ W.cell? ⟨M, 2, none⟩ = some (.slice o5 l5 c5) ∧ W.cell? ⟨M, 3, none⟩ = some (.slice o6 l6 c6) ∧ W.cell? ⟨M, 4, none⟩ = some (.string sb)) ∧ W.cell? ⟨B, 0, none⟩ = some (.string nm) ∧ W.cell? ⟨B, 1, none⟩ = some (.int .i64 nx) ∧ W.cell? ⟨B, 2, none⟩ = some (.slice o l c) ∧ W.cell? ⟨B, 3, none⟩ = some (.slice o2 l2 c2) ∧ W.cell? ⟨B, 4, none⟩ = some (.string sb)) := fun W b => ⟨NEW6.out W b, NEW.out W (d6.trans (b.mono d6.size))⟩
  have cI := Hub.implRoomPut_any nm sb nx (.slice o5 l5 c5) (.slice o6 l6 c6) n U N R z KU KR W6 (Utf8Tabs_below HT.out d6) (HX.out.below d6) (HM5.out.below b6) (HK5.out.below b6) (by omega) (by omega) HS4.out HS5.out
  rw [HF.out] at cI
  have HM6 : Hid (Hub.MemAt W6 (.slice o5 l5 c5) n U N R) := HM5.out.below b6
  have HK6 : Hid (Hub.RankAt W6 (.slice o6 l6 c6) z KU KR) := HK5.out.below b6
  clear HM5 HK5 x0 x1 x2 x3 x4
  obtain ⟨x0, x1, x2, x3, x4⟩ := NEW.out w4 d4
  go_wp2_with fail
  rw [← hW6, ← hM0]
  clear hW6 hM0 b6 x0 x1 x2 x3 x4
  go_fit cI
  rintro e w7 ⟨rfl, b7⟩
  have d7 := d6.trans (b7.mono d6.size)
  clear cI HF
  have hFF : (F.toList == F.toList) = true := beq_self_eq_true _
  go_wp2_with fail
  refine wp_region_held_drew (S := fun W => (W.cell? ⟨M, 0, none⟩ = some (.string nm) ∧ W.cell? ⟨M, 1, none⟩ = some (.int .i64 nx) ∧ W.cell? ⟨M, 2, none⟩ = some (.slice o5 l5 c5) ∧ W.cell? ⟨M, 3, none⟩ = some (.slice o6 l6 c6) ∧ W.cell? ⟨M, 4, none⟩ = some (.string sb)) ∧ W.cell? ⟨B, 0, none⟩ = some (.string nm) ∧ W.cell? ⟨B, 1, none⟩ = some (.int .i64 nx) ∧ W.cell? ⟨B, 2, none⟩ = some (.slice o l c) ∧ W.cell? ⟨B, 3, none⟩ = some (.slice o2 l2 c2) ∧ W.cell? ⟨B, 4, none⟩ = some (.string sb)) (by kernel_rfl) ?_ (fun hHeld => ?_)
  · exact BOTH.out _ b7.drew
  refine wpAnyH_take (i := 0) (v := ?_) rfl (by kernel_rfl) (by kernel_rfl) (by kernel_rfl) (fun _ _ _ h => h) (Or.inl ⟨by rfl, ?takeYx0⟩) (by assumption) ?takeRx0
  case takeYx0 => (intro w hSw; (try dsimp only at hSw); go_simp; try (with_reducible rfl))
  simp only [Act.put, List.setIfInBounds_toArray, List.set_cons_zero, List.set_cons_succ, List.getElem_toArray, List.getElem_cons_zero]
  refine wpAnyH_take (i := 1) (v := ?_) rfl (by kernel_rfl) (by kernel_rfl) (by kernel_rfl) (fun _ _ _ h => h) (Or.inl ⟨by rfl, ?takeYx1⟩) (by assumption) ?takeRx1
  case takeYx1 => (intro w hSw; (try dsimp only at hSw); go_simp; try (with_reducible rfl))
  simp only [Act.put, List.setIfInBounds_toArray, List.set_cons_zero, List.set_cons_succ, List.getElem_toArray, List.getElem_cons_zero, List.getElem_cons_succ]
  refine wpAnyH_ready (rs := [2]) (by kernel_rfl) (by simp) ?_
  refine AllReadyH.cons rfl (fun K hK => ?_) AllReadyH.nil
  go_simp
  refine (TO _ d7.drew).mono ?_
  rintro e w8 ⟨⟨vm8, vk8, rfl, hm8, hk8⟩, p8⟩
  have b8 : Below W6.heap.size W6 w8 := b7.drew.trans (p8.mono b7.drew.size)
  have cE := Hub.eqRoom_same nm sb nx (.slice o5 l5 c5) (.slice o6 l6 c6) vm8 vk8 n U N R z KU KR w8 (HM6.out.below b8) (HK6.out.below b8) hm8 hk8
  clear hm8 hk8
  go_wp2_with fail
  refine hK.out _ _ (BOTH.out w8 b8) (fun hHeldx2 => ?_)
  clear hK K
  try simp only [Act.put, List.setIfInBounds_toArray, List.set_cons_zero, List.set_cons_succ, List.getElem_toArray, List.getElem_cons_zero, List.getElem_cons_succ]
  refine wpAnyH_ready (rs := [3]) (by kernel_rfl) (by simp) ?_
  refine AllReadyH.cons rfl (fun K hK => ?_) AllReadyH.nil
  go_simp
  refine (cE).mono ?_
  rintro e w9 ⟨rfl, p9⟩
  have b9 : Below W6.heap.size W6 w9 := b8.trans (p9.mono b8.size)
  go_wp2_with fail
  refine hK.out _ _ (BOTH.out w9 b9) (fun hHeldx3 => ?_)
  clear hK K
  try simp only [Act.put, List.setIfInBounds_toArray, List.set_cons_zero, List.set_cons_succ, List.getElem_toArray, List.getElem_cons_zero, List.getElem_cons_succ]
  refine wpAnyH_take (i := 4) (v := ?_) rfl (by kernel_rfl) (by kernel_rfl) (by kernel_rfl) (fun _ _ _ h => h) (Or.inl ⟨by rfl, ?takeYx4⟩) (by assumption) ?takeRx4
  case takeYx4 => (intro w hSw; (try dsimp only at hSw); go_simp; try (with_reducible rfl))
  simp only [Act.put, List.setIfInBounds_toArray, List.set_cons_zero, List.set_cons_succ, List.getElem_toArray, List.getElem_cons_zero, List.getElem_cons_succ]
  refine wpAnyH_done (by kernel_rfl) ?_ _
  go_wp2_with fail
  go_ret
  exact ⟨rfl, c0.trans ((d6.trans (b9.mono d6.size)).mono c0.size)⟩

theorem own : ownKnob Tryd.prog.godebug = none := by kernel_rfl
theorem tabs_of {W : World} (h : laidMetH Tryd.prog Rows.fnExactRoomPutRow.laid W) : Hub.Tabs W ∧ Hub.Tens W := by
  rw [MakeChecks.laidMetH_plain _ _ _ (by kernel_rfl)] at h
  have e1 : Rows.laid_unicode_utf8_acceptRanges = Lib.acceptData := by kernel_rfl
  have e2 : Rows.laid_unicode_utf8_first = Lib.firstData := Pinned.utf8First_eq
  have r1 := Lib.laidMet.reads h (.tail _ (.tail _ (.tail _ (.head _))))
  have r2 := Lib.laidMet.reads h (.tail _ (.tail _ (.tail _ (.tail _ (.head _)))))
  have r3 := Lib.laidMet.reads h (.tail _ (.tail _ (.head _)))
  have e3 : (Rows.laid_internal_strconv_uint64pow10 : DataW Unit) = Lib.tabData .u64 Lib.pow10Tab := by kernel_rfl
  rw [e1] at r1
  rw [e2] at r2
  rw [e3] at r3
  refine ⟨utf8Tabs_of_readsT (U8Types.of196 Tryd.lays196) ⟨by kernel_rfl, by kernel_rfl, by kernel_rfl, by kernel_rfl, by kernel_rfl, by kernel_rfl, by kernel_rfl⟩ r2 r1, ?_⟩
  obtain ⟨g, t, cs, fuel, p, hg, ht, hv, hr⟩ := r3
  have hg2 : Tryd.prog.globalNamed "internal/strconv.uint64pow10" = some 3 := by kernel_rfl
  obtain rfl : 3 = g := Option.some.inj (hg2.symm.trans hg)
  have ht2 : (Tryd.prog.globals[3]?).map (·.type) = some 126 := by kernel_rfl
  obtain rfl : 126 = t := Option.some.inj (ht2.symm.trans ht)
  show Hub.Tens W
  unfold Hub.Tens Lib.TabIs
  rw [hv, ← Lib.cells_of_tab Tryd.underlying126 Tryd.underlying119 (by kernel_rfl) (by kernel_rfl) hr]

theorem laidOut : laidOutB Tryd.prog = true := by kernel_rfl
set_option maxRecDepth 100000 in
theorem lifted (os : Os) (started : os.Started) (H : Type) (enc : TypeId × Value → H) :
    ReturnsInHanded {} Tryd.checked os 3 .any (fun w args => (Rows.fnExactRoomPutSpec.pre enc Tryd.prog Tryd.f3 Rows.fnExactRoomPutRow.domain false w args ∧ laidMetH Tryd.prog Rows.fnExactRoomPutRow.laid w) ∧ sizedMet enc Tryd.prog Tryd.f3 (OpenSpec.ofChange Rows.fnExactRoomPutSpec) false w args)
      (Rows.fnExactRoomPutSpec.post enc Tryd.prog Tryd.f3 false true false false) := by
  refine returnsInHanded_of_change_and (C := Tryd.checked) (X := fun w _ => laidMetH Tryd.prog Rows.fnExactRoomPutRow.laid w) (fun _ _ _ hh h => h.of_heap hh) own started (by kernel_rfl) Tryd.func3
    (ChangeSpec.witness_shaped (enc := enc) (C := Tryd.checked) (os := os) (X := fun w _ => laidMetH Tryd.prog Rows.fnExactRoomPutRow.laid w) false (World.laidAll Tryd.prog os Rows.fnExactRoomPutRow.laid) #[.agg #[.string ByteArray.empty, .int .i64 0, .slice none 0 0, .slice none 0 0, .string ByteArray.empty]] 8 (World.laidAll_os _ _ _)
      (World.shaped_of_ZipB (by kernel_rfl) (by kernel_rfl)) (by kernel_rfl) (by kernel_rfl) (by kernel_rfl)
      (by rw [MakeChecks.laidMetH_plain _ _ _ (by kernel_rfl)]; exact laidMet_laidAll _ (by kernel_rfl) (by kernel_rfl))) ?_
  intro W base args ds gs before hval0 hW hc _ hL _
  have hval : ∀ (j : Nat) t v, Tryd.f3.params[j]? = some t → args[j]? = some v → Value.okWide Tryd.prog W .any base t v := hval0
  have hW' := hW
  obtain ⟨p, q, hA0, hV, rfl, _, _⟩ := hW
  have hA : DataW.TrodAll enc Tryd.prog W 0 (fun _ => true) true Tryd.f3.params.toList args.toList ds p := hA0
  rw [Tryd.params3] at hA hval
  obtain ⟨v0, d0, rfl, rfl, h0⟩ := trodAll_one hA
  obtain ⟨rfl, rfl⟩ := trodVars_none hV
  obtain ⟨nm, nx, vm, vk, sb, n, U, N, R, z, KU, KR, e0, wn, ws, hm, hs, hk, hz⟩ := Hub.open_room (hval 0 25 v0 rfl rfl) h0
  subst e0
  simp only [List.append_nil] at hW'
  have hlt0 : ∀ x ∈ p, x.block < W.heap.size := fun x hx => by simpa using hW'.lt x hx
  refine (walk nm sb nx vm vk n U N R z KU KR W (tabs_of hL) wn ws hm hs hk hz).mono fun e W' ⟨he, bel⟩ => ?_
  subst he
  exact ⟨_, rfl, _, _, _, [], _, [], hW', trodAll_mk1 (shut_bool Tryd.underlying4 _), trodAll_mk1 (Below.trod laidOut (by kernel_rfl) (of_decide_eq_true (by kernel_rfl)) h0 bel hlt0), rfl, bel.frame _, fun h => by cases h⟩

theorem holds : Rows.FnExactRoomPutSaid :=
  OpenClaim.holds_of_wide 3 Tryd.f3 rfl rfl rfl rfl rfl rfl rfl ⟨rfl, rfl, rfl, rfl, rfl⟩ rfl rfl rfl rfl rfl (by kernel_rfl) Tryd.func3 (by kernel_rfl)
    (of_decide_eq_true (by kernel_rfl)) (by unfold Func.isWrapper; first | (rw [if_pos (by decide +kernel)]; kernel_rfl) | (rw [if_neg (by decide +kernel)]; exact ⟨rfl, rfl⟩))
    (fun os started H enc _ => lifted os started H enc)
theorem card_holds : Rows.FnExactRoomPutCardSaid :=
  Claim7.holds_tied_plain_at .later [] [.data, .data, .data, .data, .pinned] true (true, "db25f6d6a9601d450dd9dc0136fd683b2191e8e9689de5e6c6496407f3501817") false holds (fun _ h => by cases h) (by kernel_rfl) (fun _ h => by cases h) fnExactRoomPut_row_tie rfl ⟨rfl, rfl⟩ (by kernel_rfl) rfl
    (fun f fn hf hfn => by
      obtain rfl : f = 3 := Option.some.inj ((show Tryd.prog.funcNamed Rows.fnExactRoomPutRow.func = some 3 by kernel_rfl).symm.trans hf) |>.symm
      obtain rfl : fn = Tryd.f3 := (Option.some.inj (Tryd.func3.symm.trans hfn)).symm
      exact ⟨by kernel_rfl, fun j t ht => by
        rw [Tryd.params3] at ht
        have hm : t ∈ [25] := by simpa using Array.mem_of_getElem? ht
        have hall : ([25].all fun u => !Tryd.prog.wantsStandIn u) = true := by kernel_rfl
        exact (show Tryd.prog.wantsStandIn t = false by simpa using List.all_eq_true.1 hall t hm)⟩)
    (by kernel_rfl)
#print axioms card_holds
end Go.Proofs.YtglbjibilllopaaDoor.fnExactRoomPut

namespace Go.Proofs.YtglbjibilllopaaDoor
/-- The statement. -/
theorem fnExactRoomPut_card : Rows.FnExactRoomPutCardSaid := fnExactRoomPut.card_holds
end Go.Proofs.YtglbjibilllopaaDoor
