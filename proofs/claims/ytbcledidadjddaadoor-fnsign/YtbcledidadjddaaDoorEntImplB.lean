/-
  The program's entitySign, entityWhole and entityPart: what an entity stands for, and where it ends.
-/
import Derived.Test.YtbcledidadjddaaDoorEntImpl
import Derived.Test.YtbcledidadjddaaDoorUnSpecB
import Derived.Laws.ResultCell
namespace Go.Proofs.YtbcledidadjddaaDoor.Hub
open Go.RowKit Go.Maps Go.Proofs
set_option linter.unusedVariables false

theorem prefix_two {l : List UInt8} (h : Lib.hasPrefix l [35, 120] = true) : ∃ r, l = 35 :: 120 :: r := by
  unfold Lib.hasPrefix at h
  rw [List.isPrefixOf_iff_prefix] at h
  obtain ⟨r, rfl⟩ := h
  exact ⟨r, rfl⟩
theorem prefix_one {l : List UInt8} (h : Lib.hasPrefix l [35] = true) : ∃ r, l = 35 :: r := by
  unfold Lib.hasPrefix at h
  rw [List.isPrefixOf_iff_prefix] at h
  obtain ⟨r, rfl⟩ := h
  exact ⟨r, rfl⟩
theorem entNum_two {l : List UInt8} (h : Lib.hasPrefix l [35, 120] = true) : entNum l = numI 16 (l.drop 2) := by
  obtain ⟨r, e⟩ := prefix_two h
  unfold entNum
  rw [if_neg (by rw [e]; simp), if_neg (by rw [e]; simp), if_neg (by rw [e]; simp), if_neg (by rw [e]; simp), if_neg (by rw [e]; simp), if_pos h]
theorem entNum_one {l : List UInt8} (h2 : Lib.hasPrefix l [35, 120] = false) (h : Lib.hasPrefix l [35] = true) : entNum l = numI 10 (l.drop 1) := by
  obtain ⟨r, e⟩ := prefix_one h
  unfold entNum
  rw [if_neg (by rw [e]; simp), if_neg (by rw [e]; simp), if_neg (by rw [e]; simp), if_neg (by rw [e]; simp), if_neg (by rw [e]; simp), if_neg (by rw [h2]; simp), if_pos h]
theorem trim_yes {l p : List UInt8} (h : Lib.hasPrefix l p = true) : Lib.trimPrefix l p = l.drop p.length := by unfold Lib.trimPrefix; rw [if_pos h]

theorem zeroInt (w : World) : (zeroValue 3).run Tryd.prog w = .ok (.int .i64 0) w := by kernel_rfl

set_option maxRecDepth 100000 in
set_option maxHeartbeats 2000000 in
theorem entitySign_any (s : ByteArray) (hs : s.size ≤ 8) (w : World) (hv : ErrVar w) :
    Calls Tryd.prog 103 #[.string s] w fun e w' => e = .returned (.int .i64 (entNum s.data.toList)) ∧ Below w.heap.size w w' := by
  have q1 : ∀ w, Calls Tryd.prog 104 #[.string s, .string ⟨#[35, 120]⟩] w _ := fun w => Tryd.strings_CutPrefix s ⟨#[35, 120]⟩ w
  have q2 : ∀ w, Calls Tryd.prog 104 #[.string s, .string ⟨#[35]⟩] w _ := fun w => Tryd.strings_CutPrefix s ⟨#[35]⟩ w
  simp only at q1 q2
  have hl : s.data.toList.length = s.size := rfl
  cases p1 : Lib.hasPrefix s.data.toList [35, 120]
  · cases p2 : Lib.hasPrefix s.data.toList [35]
    · rw [p1] at q1
      rw [p2] at q2
      have hkey := keyS s (by unfold maxLen; omega)
      obtain ⟨T1, hT1⟩ : ∃ T, (⟨(Lib.trimPrefix s.data.toList [35, 120]).toArray⟩ : ByteArray) = T := ⟨_, rfl⟩
      obtain ⟨T2, hT2⟩ : ∃ T, (⟨(Lib.trimPrefix s.data.toList [35]).toArray⟩ : ByteArray) = T := ⟨_, rfl⟩
      rw [hT1] at q1
      rw [hT2] at q2
      have fin : ∀ c : Int, entD.atKey (.string s.data.toList) (.lit (.int .i64 0)) = .lit (.int .i64 c) → (Maps.has entD (.string s.data.toList) = true ∧ entNum s.data.toList = c) ∨ (Maps.has entD (.string s.data.toList) = false ∧ entNum s.data.toList = -1) := fun c hat => by
        by_cases c1 : s.data.toList = [97, 109, 112]
        · rw [c1] at hat ⊢; rw [entV_0] at hat; cases hat; exact .inl ⟨entD_0, by decide +kernel⟩
        by_cases c2 : s.data.toList = [108, 116]
        · rw [c2] at hat ⊢; rw [entV_1] at hat; cases hat; exact .inl ⟨entD_1, by decide +kernel⟩
        by_cases c3 : s.data.toList = [103, 116]
        · rw [c3] at hat ⊢; rw [entV_2] at hat; cases hat; exact .inl ⟨entD_2, by decide +kernel⟩
        by_cases c4 : s.data.toList = [113, 117, 111, 116]
        · rw [c4] at hat ⊢; rw [entV_3] at hat; cases hat; exact .inl ⟨entD_3, by decide +kernel⟩
        by_cases c5 : s.data.toList = [97, 112, 111, 115]
        · rw [c5] at hat ⊢; rw [entV_4] at hat; cases hat; exact .inl ⟨entD_4, by decide +kernel⟩
        right
        refine ⟨entD_none _ c1 c2 c3 c4 c5, ?_⟩
        unfold entNum
        rw [if_neg c1, if_neg c2, if_neg c3, if_neg c4, if_neg c5, if_neg (by rw [p1]; simp), if_neg (by rw [p2]; simp)]
      have FIN : Hid (∀ c : Int, entD.atKey (.string s.data.toList) (.lit (.int .i64 0)) = .lit (.int .i64 c) → (Maps.has entD (.string s.data.toList) = true ∧ entNum s.data.toList = c) ∨ (Maps.has entD (.string s.data.toList) = false ∧ entNum s.data.toList = -1)) := fin
      obtain ⟨v, hv2⟩ : ∃ v, entNum s.data.toList = v := ⟨_, rfl⟩
      rw [hv2]
      have HV : Hid (entNum s.data.toList = v) := hv2
      clear fin hT1 hT2 p1 p2 hv2
      go_enter Tryd.func103, Tryd.ntmps103
      go_wp2_with fail
      refine (q1 _).mono ?_
      rintro e w1 ⟨rfl, rfl⟩
      go_wp2_with fail
      refine (q2 _).mono ?_
      rintro e w1 ⟨rfl, rfl⟩
      clear q1 q2
      go_wp2_with (first | (go_at_call 106; refine (entities_any _).mono ?_; rintro e w2 ⟨rfl, hown, hg⟩) | (at_lookup; refine wpList_lookup_own_ok_int _ rfl _ _ 111 rfl 9 3 .i64 keyed Tryd.underlying111 Tryd.underlying3 (zeroInt _) _ 5 entD rfl hown _ _ rfl hkey ?_; intro c hat hwc))
      · go_ret
        rcases FIN.out c hat with ⟨h1, h2⟩ | ⟨h1, h2⟩
        · exact ⟨ret_int (by rw [← HV.out, h2]), hg⟩
        · exfalso; simp_all
      · go_ret
        rcases FIN.out c hat with ⟨h1, h2⟩ | ⟨h1, h2⟩
        · exfalso; simp_all
        · exact ⟨ret_int (by rw [← HV.out, h2]), hg⟩
    · have hn := entNum_one p1 p2
      have htr : (⟨(Lib.trimPrefix s.data.toList [35]).toArray⟩ : ByteArray) = ⟨(s.data.toList.drop 1).toArray⟩ := by rw [trim_yes p2]; rfl
      have hsz : (⟨(s.data.toList.drop 1).toArray⟩ : ByteArray).size ≤ 7 := by
        have h1 : (⟨(s.data.toList.drop 1).toArray⟩ : ByteArray).size = (s.data.toList.drop 1).length := ofL_size _
        rw [h1, List.length_drop]
        omega
      have hf := fun w hv => figuresSign_any 10 (.inl rfl) ⟨(s.data.toList.drop 1).toArray⟩ hsz w hv
      simp only at hf
      rw [← hn] at hf
      obtain ⟨v, hv2⟩ : ∃ v, entNum s.data.toList = v := ⟨_, rfl⟩
      rw [hv2] at hf ⊢
      rw [p1] at q1
      rw [p2, htr] at q2
      obtain ⟨T1, hT1⟩ : ∃ T, (⟨(Lib.trimPrefix s.data.toList [35, 120]).toArray⟩ : ByteArray) = T := ⟨_, rfl⟩
      rw [hT1] at q1
      obtain ⟨T2, hT2⟩ : ∃ T, (⟨(s.data.toList.drop 1).toArray⟩ : ByteArray) = T := ⟨_, rfl⟩
      rw [hT2] at q2 hf hsz
      clear hn hv2 hT1 hT2 htr p1 p2
      go_enter Tryd.func103, Tryd.ntmps103
      go_wp2_with fail
      refine (q1 _).mono ?_
      rintro e w1 ⟨rfl, rfl⟩
      go_wp2_with fail
      refine (q2 _).mono ?_
      rintro e w1 ⟨rfl, rfl⟩
      go_wp2_with fail
      refine (hf _ hv).mono ?_
      rintro e w2 ⟨rfl, hg⟩
      go_wp2_with fail
      go_ret
      exact ⟨rfl, hg⟩
  · have hn := entNum_two p1
    have htr : (⟨(Lib.trimPrefix s.data.toList [35, 120]).toArray⟩ : ByteArray) = ⟨(s.data.toList.drop 2).toArray⟩ := by rw [trim_yes p1]; rfl
    have hsz : (⟨(s.data.toList.drop 2).toArray⟩ : ByteArray).size ≤ 7 := by
      have h1 : (⟨(s.data.toList.drop 2).toArray⟩ : ByteArray).size = (s.data.toList.drop 2).length := ofL_size _
      rw [h1, List.length_drop]
      omega
    have hf := fun w hv => figuresSign_any 16 (.inr rfl) ⟨(s.data.toList.drop 2).toArray⟩ hsz w hv
    simp only at hf
    rw [← hn] at hf
    obtain ⟨v, hv2⟩ : ∃ v, entNum s.data.toList = v := ⟨_, rfl⟩
    rw [hv2] at hf ⊢
    rw [p1, htr] at q1
    obtain ⟨T2, hT2⟩ : ∃ T, (⟨(s.data.toList.drop 2).toArray⟩ : ByteArray) = T := ⟨_, rfl⟩
    rw [hT2] at q1 hf hsz
    clear hn hv2 hT2 htr p1 q2
    go_enter Tryd.func103, Tryd.ntmps103
    go_wp2_with fail
    refine (q1 _).mono ?_
    rintro e w1 ⟨rfl, rfl⟩
    go_wp2_with fail
    refine (hf _ hv).mono ?_
    rintro e w2 ⟨rfl, hg⟩
    go_wp2_with fail
    go_ret
    exact ⟨rfl, hg⟩

theorem bcell {W w1 : World} (hb : Below W.heap.size W w1) : (∀ b o, b < W.heap.size → w1.cell? ⟨b, o, none⟩ = W.cell? ⟨b, o, none⟩) ∧ (∀ b o, b < W.heap.size → w1.frozen? ⟨b, o, none⟩ = W.frozen? ⟨b, o, none⟩) :=
  ⟨fun b o h => hb.cell (p := ⟨b, o, none⟩) h, fun b o h => hb.frozen (p := ⟨b, o, none⟩) h⟩
theorem three_below {w w1 : World} {t : TypeId} {c : Array Value} {v0 v1 v2 : Value} (hg : Below (w.alloc (.cells c t)).heap.size (w.alloc (.cells c t)) w1) :
    Below w.heap.size w (((w1.setCell ⟨w.heap.size, 0, none⟩ v0).setCell ⟨w.heap.size, 1, none⟩ v1).setCell ⟨w.heap.size, 2, none⟩ v2) :=
  (((((Below.refl _ w).alloc (Nat.le_refl _) _).trans (hg.mono (by simp))).setCell (p := ⟨w.heap.size, 0, none⟩) (Nat.le_refl _) _).setCell (p := ⟨w.heap.size, 1, none⟩) (Nat.le_refl _) _).setCell (p := ⟨w.heap.size, 2, none⟩) (Nat.le_refl _) _
/-- What a textPart is in memory. -/
def agg3 (x : Int × Int × Int) : Value := .agg #[.int .i64 x.1, .int .i64 x.2.1, .int .i64 x.2.2]

set_option maxRecDepth 100000 in
set_option maxHeartbeats 2000000 in
theorem entityWhole_any (s : ByteArray) (h2 : 2 ≤ s.size) (hs : s.size ≤ 10) (w : World) (hv : ErrVar w) :
    Calls Tryd.prog 98 #[.string s] w fun e w' => e = .returned (agg3 (if signB (entNum (sub s 1 (s.size - 1))) = true then (entNum (sub s 1 (s.size - 1)), (s.size : Int), 0) else (0, 0, 2))) ∧ Below w.heap.size w w' := by
  have hx : (s.extract 1 (s.size - 1)).data.toList = sub s 1 (s.size - 1) := by rw [extract_list]; rfl
  have hxs : (s.extract 1 (s.size - 1)).size ≤ 8 := by
    have h1 : (s.extract 1 (s.size - 1)).size = (s.extract 1 (s.size - 1)).data.toList.length := rfl
    rw [h1, extract_list, List.length_take]
    omega
  have he := fun w hv => entitySign_any (s.extract 1 (s.size - 1)) hxs w hv
  rw [hx] at he
  obtain ⟨v, hv2⟩ : ∃ v, entNum (sub s 1 (s.size - 1)) = v := ⟨_, rfl⟩
  rw [hv2] at he ⊢
  clear hv2 hx hxs
  have hs1 : (2 : Int) ≤ (s.size : Int) := by omega
  have hv1 : ErrVar (w.alloc (.cells #[.int .i64 0, .int .i64 0, .int .i64 0] 64)) := hv.below ((Below.refl _ w).alloc (Nat.le_refl _) _)
  cases hsg : signB v
  · rw [if_neg (by decide)]
    go_enter Tryd.func98, Tryd.ntmps98
    go_wp2_with fail
    refine (he _ hv1).mono ?_
    rintro e w1 ⟨rfl, hg⟩
    obtain ⟨hc, hf⟩ := bcell hg
    have hz : w.heap.size < w1.heap.size := by have := hg.size; simp at this; omega
    go_wp2_with (go_at_call 40; refine (isSign_any _ _).mono ?_; rintro e w' ⟨rfl, rfl⟩)
    exact bodyPost_ret (v := agg3 (0, 0, 2)) (by simp [results, Tryd.results98, go_sem, agg3, hc]) rfl ⟨rfl, three_below hg⟩
  · rw [if_pos rfl]
    go_enter Tryd.func98, Tryd.ntmps98
    go_wp2_with fail
    refine (he _ hv1).mono ?_
    rintro e w1 ⟨rfl, hg⟩
    obtain ⟨hc, hf⟩ := bcell hg
    have hz : w.heap.size < w1.heap.size := by have := hg.size; simp at this; omega
    go_wp2_with (go_at_call 40; refine (isSign_any _ _).mono ?_; rintro e w' ⟨rfl, rfl⟩)
    exact bodyPost_ret (v := agg3 (v, (s.size : Int), 0)) (by simp [results, Tryd.results98, go_sem, agg3, hc]) rfl ⟨rfl, three_below hg⟩

theorem entPart_ent (s : ByteArray) (i j : Nat) (hj : 1 ≤ j) (h : entScan s i 9 1 = (j : Int)) :
    entPart s i = if signB (entNum (sub s (i + 1) (i + j))) = true then (entNum (sub s (i + 1) (i + j)), (j : Int) + 1, 0) else (0, 0, 2) := by
  unfold entPart
  rw [h, if_neg (by omega), if_neg (by omega), Int.toNat_natCast]

set_option maxRecDepth 100000 in
set_option maxHeartbeats 4000000 in
theorem entityPart_any (s : ByteArray) (hs : s.size ≤ 1099511627776) (h0 : 0 < s.size) (w : World) (hv : ErrVar w) :
    Calls Tryd.prog 84 #[.string s] w fun e w' => e = .returned (agg3 (entPart s 0)) ∧ Below w.heap.size w w' := by
  have hent := fun j => entPart_ent s 0 j
  have hbad : entScan s 0 9 1 = 0 → entPart s 0 = (0, 0, 2) := fun h => by unfold entPart; rw [h]; rfl
  have hcut : entScan s 0 9 1 = -1 → entPart s 0 = (0, 0, 1) := fun h => by unfold entPart; rw [h]; rfl
  obtain ⟨T, hT⟩ : ∃ T, entPart s 0 = T := ⟨_, rfl⟩
  rw [hT] at hent hbad hcut ⊢
  have HE : Hid (∀ j : Nat, 1 ≤ j → entScan s 0 9 1 = (j : Int) → T = if signB (entNum (sub s (0 + 1) (0 + j))) = true then (entNum (sub s (0 + 1) (0 + j)), (j : Int) + 1, 0) else (0, 0, 2)) := hent
  have HB : Hid (entScan s 0 9 1 = 0 → T = (0, 0, 2)) := hbad
  have HC : Hid (entScan s 0 9 1 = -1 → T = (0, 0, 1)) := hcut
  clear hT hent hbad hcut
  have hv1 : ErrVar (w.alloc (.cells #[.int .i64 0, .int .i64 0, .int .i64 0] 64)) := hv.below ((Below.refl _ w).alloc (Nat.le_refl _) _)
  have hg0 : Below (w.alloc (.cells #[.int .i64 0, .int .i64 0, .int .i64 0] 64)).heap.size (w.alloc (.cells #[.int .i64 0, .int .i64 0, .int .i64 0] 64)) (w.alloc (.cells #[.int .i64 0, .int .i64 0, .int .i64 0] 64)) := Below.refl _ _
  go_enter Tryd.func84, Tryd.ntmps84
  go_wp2_with fail
  go_loop [3] (fun a => ∃ k : Nat, a = .int .i64 k ∧ 1 ≤ k ∧ k ≤ 9 ∧ k ≤ s.size ∧ Hid (entScan s 0 (10 - k) k = entScan s 0 9 1)) (fun a => 20 - (intOf a).toNat)
  case atStart => exact ⟨1, by go_num, by omega, by omega, by omega, rfl⟩
  case round =>
    obtain ⟨k, rfl, hk1, hk2, hk3, hsc⟩ := hrel
    obtain ⟨f, hf⟩ : ∃ f, 10 - k = f + 1 := ⟨9 - k, by omega⟩
    have hsc2 := hsc.out
    rw [hf] at hsc2
    unfold entScan at hsc2
    rw [Nat.zero_add] at hsc2
    by_cases hlt : k < s.size
    · rw [if_neg (by omega), get_lt s _ hlt] at hsc2
      have hc256 : (s[k]'hlt).toNat < 256 := UInt8.toNat_lt _
      obtain ⟨c, hcc⟩ : ∃ c, (s[k]'hlt).toNat = c := ⟨_, rfl⟩
      rw [hcc] at hsc2 hc256
      by_cases h59 : c = 59
      · rw [if_pos h59] at hsc2
        have hTj := HE.out k hk1 hsc2.symm
        simp only [Nat.zero_add] at hTj
        have hx : (s.extract 0 (k + 1)).data.toList = s.data.toList.take (k + 1) := by rw [extract_list]; simp
        have hxs : (s.extract 0 (k + 1)).size = k + 1 := by
          have h1 : (s.extract 0 (k + 1)).size = (s.extract 0 (k + 1)).data.toList.length := rfl
          have h9 : s.data.toList.length = s.size := rfl
          rw [h1, hx, List.length_take]
          omega
        have hw := fun w hv => entityWhole_any (s.extract 0 (k + 1)) (by omega) (by omega) w hv
        have hsub : sub (s.extract 0 (k + 1)) 1 (k + 1 - 1) = sub s 1 k := by
          unfold sub
          rw [hx, Nat.add_sub_cancel, List.drop_take, List.take_take]
          congr 1
          omega
        rw [hxs, hsub] at hw
        have hcast : ((k + 1 : Nat) : Int) = (k : Int) + 1 := by omega
        rw [hcast, ← hTj] at hw
        subst h59
        clear hsc hsc2 HE HB HC hx hxs hsub hTj hf hcast
        go_wp2_with fail
        refine (hw _ hv1).mono ?_
        rintro e w1 ⟨rfl, hg⟩
        obtain ⟨hc, hf⟩ := bcell hg
        have hz : w.heap.size < w1.heap.size := by have := hg.size; simp at this; omega
        unfold agg3
        go_wp2_with fail
        obtain ⟨t1, t2, t3⟩ := T
        exact bodyPost_ret (v := agg3 (t1, t2, t3)) (by simp [results, Tryd.results84, go_sem, agg3, hc]) rfl ⟨rfl, three_below hg⟩
      · rw [if_neg h59] at hsc2
        have h59i : ((c : Int) == 59) = false := beq_eq_false_iff_ne.2 (by omega)
        have H1 := entityByte_any c
        cases he : entB c
        · rw [if_pos he] at hsc2
          have hTj := HB.out hsc2.symm
          subst hTj
          clear hsc hsc2 HE HB HC hf
          rcases (by omega : k = 9 ∨ k < 9) with h9 | h9
          · subst h9
            go_wp2_with (go_at_call 99; refine (H1 _).mono ?_; rintro e w' ⟨rfl, rfl⟩)
            exact bodyPost_ret (v := agg3 (0, 0, 2)) (by simp [results, Tryd.results84, go_sem, agg3]) rfl ⟨rfl, by go_grown⟩
          · have hk9 : ((k : Int) + 1 == 10) = false := beq_eq_false_iff_ne.2 (by omega)
            go_wp2_with (go_at_call 99; refine (H1 _).mono ?_; rintro e w' ⟨rfl, rfl⟩)
            exact bodyPost_ret (v := agg3 (0, 0, 2)) (by simp [results, Tryd.results84, go_sem, agg3]) rfl ⟨rfl, by go_grown⟩
        · rw [if_neg (by rw [he]; decide)] at hsc2
          rcases (by omega : k = 9 ∨ k < 9) with h9 | h9
          · rw [if_pos (by omega)] at hsc2
            have hTj := HB.out hsc2.symm
            subst hTj
            clear hsc hsc2 HE HB HC hf
            subst h9
            go_wp2_with (go_at_call 99; refine (H1 _).mono ?_; rintro e w' ⟨rfl, rfl⟩)
            exact bodyPost_ret (v := agg3 (0, 0, 2)) (by simp [results, Tryd.results84, go_sem, agg3]) rfl ⟨rfl, by go_grown⟩
          · rw [if_neg (by omega)] at hsc2
            have hnew : Hid (entScan s 0 (10 - (k + 1)) (k + 1) = entScan s 0 9 1) := by
              have h8 : 10 - (k + 1) = f := by omega
              rw [h8]; exact hsc2
            clear hsc hsc2 HE HB HC hf
            have hk9 : ((k : Int) + 1 == 10) = false := beq_eq_false_iff_ne.2 (by omega)
            go_wp2_with (go_at_call 99; refine (H1 _).mono ?_; rintro e w' ⟨rfl, rfl⟩)
            go_round
            case rel => exact ⟨k + 1, by go_num, by omega, by omega, by omega, hnew⟩
            case measure => simp [intOf]; omega
    · rw [if_pos (by omega)] at hsc2
      have hTj := HC.out hsc2.symm
      subst hTj
      clear hsc hsc2 HE HB HC hf
      go_wp2_with fail
      exact bodyPost_ret (v := agg3 (0, 0, 1)) (by simp [results, Tryd.results84, go_sem, agg3]) rfl ⟨rfl, by go_grown⟩
end Go.Proofs.YtbcledidadjddaaDoor.Hub
