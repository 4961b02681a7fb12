/-
  The model's JidGet and the program's JidGet: at every text they answer jgetV; and the law's own eqJid.
-/
import Derived.Test.YthcjimigmeijfacDoorJidGet
namespace Go.Proofs.YthcjimigmeijfacDoor.Hub
open Go.RowKit Go.Shelf Go.Proofs
set_option linter.unusedVariables false

def noneV : Value := .tuple #[.agg #[.string ⟨#[]⟩, .string ⟨#[]⟩, .string ⟨#[]⟩], .bool false]
def jgetV (s : ByteArray) : Value := if s.size ≤ 60 then gVal s else noneV
/-- The three texts and the bool of what is read. -/
theorem gVal_shape (s : ByteArray) : ∃ (x y z : ByteArray) (b : Bool), gVal s = .tuple #[.agg #[.string x, .string y, .string z], .bool b] := by
  unfold gVal
  cases gOk s
  · exact ⟨_, _, _, _, rfl⟩
  · exact ⟨_, _, _, _, rfl⟩
theorem jgetV_shape (s : ByteArray) : ∃ (x y z : ByteArray) (b : Bool), jgetV s = .tuple #[.agg #[.string x, .string y, .string z], .bool b] := by
  unfold jgetV noneV
  split
  · exact gVal_shape s
  · exact ⟨_, _, _, _, rfl⟩

set_option maxRecDepth 100000 in
set_option maxHeartbeats 1000000 in
theorem specJidGet_any (s : ByteArray) (w : World) (hs : s.size ≤ 1099511627776) :
    Calls Tryd.prog 12 #[.string s] w fun e w' => e = .returned (jgetV s) ∧ Below w.heap.size w w' := by
  have t0 := three_new w ⟨#[]⟩ ⟨#[]⟩ ⟨#[]⟩
  have b0 : Below w.heap.size w (w.alloc (.cells #[.string ⟨#[]⟩, .string ⟨#[]⟩, .string ⟨#[]⟩] 24)) := (Below.refl _ w).alloc (Nat.le_refl _) _
  by_cases h60 : s.size ≤ 60
  · have hb : ¬ (60 : Int) < (s.size : Int) := by omega
    have hv : jgetV s = gVal s := by unfold jgetV; rw [if_pos h60]
    obtain ⟨x, y, z, t, hg⟩ := gVal_shape s
    have hG := l4Get_any s (w.alloc (.cells #[.string ⟨#[]⟩, .string ⟨#[]⟩, .string ⟨#[]⟩] 24)) hs
    rw [hg] at hG hv
    have HV : Hid (jgetV s = .tuple #[.agg #[.string x, .string y, .string z], .bool t]) := hv
    clear hv hg
    go_enter Tryd.func12, Tryd.ntmps12
    go_wp2_with fail
    go_fit hG
    rintro e W1 ⟨rfl, b1⟩
    have t1 := t0.below b1
    have c1 := b0.trans (b1.mono b0.size)
    have y0 := ((t1.set0 x).set1 y).set2 z
    have yB := ((c1.setCell (p := ⟨w.heap.size, 0, none⟩) (Nat.le_refl _) (.string x)).setCell (p := ⟨w.heap.size, 1, none⟩) (Nat.le_refl _) (.string y)).setCell (p := ⟨w.heap.size, 2, none⟩) (Nat.le_refl _) (.string z)
    have a0 := t1.c0
    have a1 := t1.c1
    have a2 := t1.c2
    have f0 := t1.fz 0
    have f1 := t1.fz 1
    have f3 := t1.fz 2
    have d0 := y0.c0
    have d1 := y0.c1
    have d2 := y0.c2
    clear y0 hG t0 b0
    go_wp2_with fail
    exact bodyPost_ret (v := .tuple #[.agg #[.string x, .string y, .string z], .bool t]) (by simp [results, Tryd.results12, go_sem, d0, d1, d2]) rfl ⟨by rw [HV.out], yB⟩
  · have hb : (60 : Int) < (s.size : Int) := by omega
    have hv : jgetV s = noneV := by unfold jgetV; rw [if_neg h60]
    rw [hv]
    clear hv
    have d0 := t0.c0
    have d1 := t0.c1
    have d2 := t0.c2
    go_enter Tryd.func12, Tryd.ntmps12
    go_wp2_with fail
    exact bodyPost_ret (v := noneV) (by simp [results, Tryd.results12, go_sem, noneV]) rfl ⟨rfl, b0⟩

theorem is_empty (s : ByteArray) (h : s.size = 0) : s.toList.isEmpty = true := by rw [size_zero s h, ByteArray.toList_eq]; rfl
theorem gVal_none (s : ByteArray) (h : gOk s = false) : gVal s = noneV := by unfold gVal noneV; rw [h]; rfl
theorem gVal_some (s : ByteArray) (h : gOk s = true) : gVal s = .tuple #[.agg #[.string (foldT (gUser s)), .string (foldT (gHost s)), .string (gNick s)], .bool true] := by unfold gVal; rw [if_pos h]
def hasN (s : ByteArray) : Bool := (cutB 47 s).2.2
def hasU (s : ByteArray) : Bool := (cutB 64 (gHead s)).2.2
theorem cutN_any (s : ByteArray) (w : World) (hs : s.size ≤ 1099511627776) :
    Calls Tryd.prog 25 #[.string s, .string ⟨#[47]⟩] w fun e w' => e = .returned (.tuple #[.string (gHead s), .string (gNick s), .bool (hasN s)]) ∧ Below w.heap.size w w' := cut_any 47 s w hs
theorem cutU_yes (s : ByteArray) (w : World) (hs : s.size ≤ 1099511627776) (h : hasU s = true) :
    Calls Tryd.prog 25 #[.string (gHead s), .string ⟨#[64]⟩] w fun e w' => e = .returned (.tuple #[.string (gUser s), .string (gHost s), .bool true]) ∧ Below w.heap.size w w' := by
  have h1 := gHead_size s
  have := cut_any 64 (gHead s) w (by omega)
  unfold hasU at h
  unfold gUser gHost
  rw [if_pos h, if_pos h]
  rw [h] at this
  exact this
theorem cutU_no (s : ByteArray) (w : World) (hs : s.size ≤ 1099511627776) (h : hasU s = false) :
    gUser s = ⟨#[]⟩ ∧ gHost s = gHead s ∧ ∃ a b : ByteArray, Calls Tryd.prog 25 #[.string (gHead s), .string ⟨#[64]⟩] w fun e w' => e = .returned (.tuple #[.string a, .string b, .bool false]) ∧ Below w.heap.size w w' := by
  have h1 := gHead_size s
  have := cut_any 64 (gHead s) w (by omega)
  unfold hasU at h
  rw [h] at this
  refine ⟨by unfold gUser; rw [h]; rfl, by unfold gHost; rw [h]; rfl, _, _, this⟩

set_option maxRecDepth 100000 in
set_option maxHeartbeats 2000000 in
theorem jidGet_any (s : ByteArray) (w : World) (hT : Tabs w) (hs : s.size ≤ 1099511627776) :
    Calls Tryd.prog 10 #[.string s] w fun e w' => e = .returned (jgetV s) ∧ Below w.heap.size w w' := by
  have t0 := three_new w ⟨#[]⟩ ⟨#[]⟩ ⟨#[]⟩
  have b0 : Below w.heap.size w (w.alloc (.cells #[.string ⟨#[]⟩, .string ⟨#[]⟩, .string ⟨#[]⟩] 24)) := (Below.refl _ w).alloc (Nat.le_refl _) _
  by_cases h60 : s.size ≤ 60
  · have hb : ¬ (60 : Int) < (s.size : Int) := by omega
    have hv : jgetV s = gVal s := by unfold jgetV; rw [if_pos h60]
    rw [hv]
    clear hv
    have hHs := gHead_size s
    have hNs := gNick_size s
    have hUs := gUser_size s
    have hOs := gHost_size s
    have fu := foldT_size (gUser s)
    have fh := foldT_size (gHost s)
    go_enter Tryd.func10, Tryd.ntmps10
    go_wp2_with fail
    go_fit (cutN_any s _ hs)
    rintro e W1 ⟨rfl, b1⟩
    have t1 := t0.below b1
    have c1 := b0.trans (b1.mono b0.size)
    clear t0 b0 b1
    cases hu : hasU s
    · obtain ⟨eu, eh, a, b, hC⟩ := cutU_no s W1 hs hu
      go_wp2_with fail
      go_fit hC
      rintro e W2 ⟨rfl, b2⟩
      have t2 := t1.below b2
      have c2 := c1.trans (b2.mono c1.size)
      go_wp2_with fail
      have hS1 : Calls Tryd.prog 26 #[.string ⟨#[]⟩] W2 fun e w' => e = .returned (.string (foldT (gUser s))) ∧ Below W2.heap.size W2 w' := by rw [eu]; exact smallLetters_any ⟨#[]⟩ W2 (by show 0 ≤ _; omega)
      have hS2 : ∀ W : World, Calls Tryd.prog 26 #[.string (gHead s)] W fun e w' => e = .returned (.string (foldT (gHost s))) ∧ Below W.heap.size W w' := fun W => by rw [eh]; exact smallLetters_any (gHead s) W (by omega)
      clear eu eh
      go_fit hS1
      rintro e W3 ⟨rfl, b3⟩
      have t3 := t2.below b3
      have c3 := c2.trans (b3.mono c2.size)
      go_wp2_with fail
      go_fit (hS2 W3)
      rintro e W4 ⟨rfl, b4⟩
      have t4 := t3.below b4
      have c4 := c3.trans (b4.mono c3.size)
      go_wp2_with fail
      go_fit (clone_any (gNick s) W4 (by omega))
      rintro e W5 ⟨rfl, b5⟩
      have t5 := t4.below b5
      have c5 := c4.trans (b5.mono c4.size)
      clear t1 t2 t3 t4 c1 c2 c3 c4 b2 b3 b4 b5 hS1 hS2
      cases hn : hasN s
      · skip
        have hgo : gOk s = jidT (foldT (gUser s)) (foldT (gHost s)) (gNick s) := by unfold gOk; rw [show noNick s = false by unfold noNick; rw [show (cutB 47 s).2.2 = false from hn]; rfl, show noUser s = false by unfold noUser; rw [show (cutB 64 (gHead s)).2.2 = false from hu]; rfl]; rfl
        have b6 : Below W5.heap.size W5 (W5.alloc (.cells #[.string (foldT (gUser s)), .string (foldT (gHost s)), .string (gNick s)] 24)) := (Below.refl _ W5).alloc (Nat.le_refl _) _
        have c6 := c5.trans (b6.mono c5.size)
        have t6 := t5.below b6
        have j6 := three_new W5 (foldT (gUser s)) (foldT (gHost s)) (gNick s)
        have hJ := jidOk_any (foldT (gUser s)) (foldT (gHost s)) (gNick s) _ (Utf8Tabs_below hT c6) (by omega) (by omega) (by omega)
        rw [← hgo] at hJ
        clear hgo b6 t5
        cases hj : gOk s
        · have hno : gVal s = noneV := gVal_none s hj
          have HV : Hid (gVal s = noneV) := hno
          rw [hj] at hJ
          clear hno hj
          go_wp2_with (go_at_call 9; go_fit hJ)
          rintro e W7 ⟨rfl, b7⟩
          have t7 := t6.below b7
          have c7 := c6.trans (b7.mono c6.size)
          clear t6 c6 j6
          have y0 := ((t7.set0 (⟨#[]⟩)).set1 (⟨#[]⟩)).set2 (⟨#[]⟩)
          have yB := ((c7.setCell (p := ⟨w.heap.size, 0, none⟩) (Nat.le_refl _) (.string (⟨#[]⟩))).setCell (p := ⟨w.heap.size, 1, none⟩) (Nat.le_refl _) (.string (⟨#[]⟩))).setCell (p := ⟨w.heap.size, 2, none⟩) (Nat.le_refl _) (.string (⟨#[]⟩))
          have a0 := t7.c0
          have a1 := t7.c1
          have a2 := t7.c2
          have f0 := t7.fz 0
          have f1 := t7.fz 1
          have f3 := t7.fz 2
          have d0 := y0.c0
          have d1 := y0.c1
          have d2 := y0.c2
          clear y0
          go_wp2_with fail
          refine bodyPost_ret (v := noneV) ?_ rfl ⟨by rw [HV.out], yB⟩
          simp [results, Tryd.results10, go_sem, noneV, d0, d1, d2]
        · have hyes := gVal_some s hj
          have HV : Hid (gVal s = .tuple #[.agg #[.string (foldT (gUser s)), .string (foldT (gHost s)), .string (gNick s)], .bool true]) := hyes
          rw [hj] at hJ
          clear hyes hj
          go_wp2_with (go_at_call 9; go_fit hJ)
          rintro e W7 ⟨rfl, b7⟩
          have t7 := t6.below b7
          have j7 := j6.below b7
          have c7 := c6.trans (b7.mono c6.size)
          have m0 := j7.c0
          have m1 := j7.c1
          have m2 := j7.c2
          clear t6 c6 j6
          have y0 := ((t7.set0 (foldT (gUser s))).set1 (foldT (gHost s))).set2 (gNick s)
          have yB := ((c7.setCell (p := ⟨w.heap.size, 0, none⟩) (Nat.le_refl _) (.string (foldT (gUser s)))).setCell (p := ⟨w.heap.size, 1, none⟩) (Nat.le_refl _) (.string (foldT (gHost s)))).setCell (p := ⟨w.heap.size, 2, none⟩) (Nat.le_refl _) (.string (gNick s))
          have a0 := t7.c0
          have a1 := t7.c1
          have a2 := t7.c2
          have f0 := t7.fz 0
          have f1 := t7.fz 1
          have f3 := t7.fz 2
          have d0 := y0.c0
          have d1 := y0.c1
          have d2 := y0.c2
          clear y0
          go_wp2_with fail
          refine bodyPost_ret (v := .tuple #[.agg #[.string (foldT (gUser s)), .string (foldT (gHost s)), .string (gNick s)], .bool true]) ?_ rfl ⟨by rw [HV.out], yB⟩
          simp [results, Tryd.results10, go_sem, d0, d1, d2]
      · by_cases hz : (gNick s).size = 0
        · have hem := is_empty (gNick s) hz
          have hno : gVal s = noneV := gVal_none s (by unfold gOk noNick; rw [show (cutB 47 s).2.2 = true from hn, decide_eq_true hz]; rfl)
          have HV : Hid (gVal s = noneV) := hno
          clear hno
          have y0 := ((t5.set0 (⟨#[]⟩)).set1 (⟨#[]⟩)).set2 (⟨#[]⟩)
          have yB := ((c5.setCell (p := ⟨w.heap.size, 0, none⟩) (Nat.le_refl _) (.string (⟨#[]⟩))).setCell (p := ⟨w.heap.size, 1, none⟩) (Nat.le_refl _) (.string (⟨#[]⟩))).setCell (p := ⟨w.heap.size, 2, none⟩) (Nat.le_refl _) (.string (⟨#[]⟩))
          have a0 := t5.c0
          have a1 := t5.c1
          have a2 := t5.c2
          have f0 := t5.fz 0
          have f1 := t5.fz 1
          have f3 := t5.fz 2
          have d0 := y0.c0
          have d1 := y0.c1
          have d2 := y0.c2
          have hlt5 := t5.lt
          clear t5
          go_wp2_with fail
          refine bodyPost_ret (v := noneV) ?_ rfl ⟨by rw [HV.out], yB.alloc (by have := c5.size; simp; omega) _⟩
          simp [results, Tryd.results10, go_sem, noneV, d0, d1, d2, hlt5]
        · have hem := not_empty (gNick s) (by omega)
          have hgo : gOk s = jidT (foldT (gUser s)) (foldT (gHost s)) (gNick s) := by unfold gOk; rw [show noNick s = false by unfold noNick; rw [decide_eq_false hz, Bool.and_false], show noUser s = false by unfold noUser; rw [show (cutB 64 (gHead s)).2.2 = false from hu]; rfl]; rfl
          have b6 : Below W5.heap.size W5 (W5.alloc (.cells #[.string (foldT (gUser s)), .string (foldT (gHost s)), .string (gNick s)] 24)) := (Below.refl _ W5).alloc (Nat.le_refl _) _
          have c6 := c5.trans (b6.mono c5.size)
          have t6 := t5.below b6
          have j6 := three_new W5 (foldT (gUser s)) (foldT (gHost s)) (gNick s)
          have hJ := jidOk_any (foldT (gUser s)) (foldT (gHost s)) (gNick s) _ (Utf8Tabs_below hT c6) (by omega) (by omega) (by omega)
          rw [← hgo] at hJ
          clear hgo b6 t5
          cases hj : gOk s
          · have hno : gVal s = noneV := gVal_none s hj
            have HV : Hid (gVal s = noneV) := hno
            rw [hj] at hJ
            clear hno hj
            go_wp2_with (go_at_call 9; go_fit hJ)
            rintro e W7 ⟨rfl, b7⟩
            have t7 := t6.below b7
            have c7 := c6.trans (b7.mono c6.size)
            clear t6 c6 j6
            have y0 := ((t7.set0 (⟨#[]⟩)).set1 (⟨#[]⟩)).set2 (⟨#[]⟩)
            have yB := ((c7.setCell (p := ⟨w.heap.size, 0, none⟩) (Nat.le_refl _) (.string (⟨#[]⟩))).setCell (p := ⟨w.heap.size, 1, none⟩) (Nat.le_refl _) (.string (⟨#[]⟩))).setCell (p := ⟨w.heap.size, 2, none⟩) (Nat.le_refl _) (.string (⟨#[]⟩))
            have a0 := t7.c0
            have a1 := t7.c1
            have a2 := t7.c2
            have f0 := t7.fz 0
            have f1 := t7.fz 1
            have f3 := t7.fz 2
            have d0 := y0.c0
            have d1 := y0.c1
            have d2 := y0.c2
            clear y0
            go_wp2_with fail
            refine bodyPost_ret (v := noneV) ?_ rfl ⟨by rw [HV.out], yB⟩
            simp [results, Tryd.results10, go_sem, noneV, d0, d1, d2]
          · have hyes := gVal_some s hj
            have HV : Hid (gVal s = .tuple #[.agg #[.string (foldT (gUser s)), .string (foldT (gHost s)), .string (gNick s)], .bool true]) := hyes
            rw [hj] at hJ
            clear hyes hj
            go_wp2_with (go_at_call 9; go_fit hJ)
            rintro e W7 ⟨rfl, b7⟩
            have t7 := t6.below b7
            have j7 := j6.below b7
            have c7 := c6.trans (b7.mono c6.size)
            have m0 := j7.c0
            have m1 := j7.c1
            have m2 := j7.c2
            clear t6 c6 j6
            have y0 := ((t7.set0 (foldT (gUser s))).set1 (foldT (gHost s))).set2 (gNick s)
            have yB := ((c7.setCell (p := ⟨w.heap.size, 0, none⟩) (Nat.le_refl _) (.string (foldT (gUser s)))).setCell (p := ⟨w.heap.size, 1, none⟩) (Nat.le_refl _) (.string (foldT (gHost s)))).setCell (p := ⟨w.heap.size, 2, none⟩) (Nat.le_refl _) (.string (gNick s))
            have a0 := t7.c0
            have a1 := t7.c1
            have a2 := t7.c2
            have f0 := t7.fz 0
            have f1 := t7.fz 1
            have f3 := t7.fz 2
            have d0 := y0.c0
            have d1 := y0.c1
            have d2 := y0.c2
            clear y0
            go_wp2_with fail
            refine bodyPost_ret (v := .tuple #[.agg #[.string (foldT (gUser s)), .string (foldT (gHost s)), .string (gNick s)], .bool true]) ?_ rfl ⟨by rw [HV.out], yB⟩
            simp [results, Tryd.results10, go_sem, d0, d1, d2]
    · have hC := cutU_yes s W1 hs hu
      go_wp2_with fail
      go_fit hC
      rintro e W2 ⟨rfl, b2⟩
      have t2 := t1.below b2
      have c2 := c1.trans (b2.mono c1.size)
      go_wp2_with fail
      have hS1 := smallLetters_any (gUser s) W2 (by omega)
      have hS2 := fun W => smallLetters_any (gHost s) W (by omega)
      go_fit hS1
      rintro e W3 ⟨rfl, b3⟩
      have t3 := t2.below b3
      have c3 := c2.trans (b3.mono c2.size)
      go_wp2_with fail
      go_fit (hS2 W3)
      rintro e W4 ⟨rfl, b4⟩
      have t4 := t3.below b4
      have c4 := c3.trans (b4.mono c3.size)
      go_wp2_with fail
      go_fit (clone_any (gNick s) W4 (by omega))
      rintro e W5 ⟨rfl, b5⟩
      have t5 := t4.below b5
      have c5 := c4.trans (b5.mono c4.size)
      clear t1 t2 t3 t4 c1 c2 c3 c4 b2 b3 b4 b5 hS1 hS2
      cases hn : hasN s
      · skip
        by_cases hz2 : (gUser s).size = 0
        · have hem2 := is_empty (gUser s) hz2
          have hno : gVal s = noneV := gVal_none s (by unfold gOk noUser; rw [show (cutB 64 (gHead s)).2.2 = true from hu, decide_eq_true hz2]; cases noNick s <;> rfl)
          have HV : Hid (gVal s = noneV) := hno
          clear hno
          have y0 := ((t5.set0 (⟨#[]⟩)).set1 (⟨#[]⟩)).set2 (⟨#[]⟩)
          have yB := ((c5.setCell (p := ⟨w.heap.size, 0, none⟩) (Nat.le_refl _) (.string (⟨#[]⟩))).setCell (p := ⟨w.heap.size, 1, none⟩) (Nat.le_refl _) (.string (⟨#[]⟩))).setCell (p := ⟨w.heap.size, 2, none⟩) (Nat.le_refl _) (.string (⟨#[]⟩))
          have a0 := t5.c0
          have a1 := t5.c1
          have a2 := t5.c2
          have f0 := t5.fz 0
          have f1 := t5.fz 1
          have f3 := t5.fz 2
          have d0 := y0.c0
          have d1 := y0.c1
          have d2 := y0.c2
          have hlt5 := t5.lt
          clear t5
          go_wp2_with fail
          refine bodyPost_ret (v := noneV) ?_ rfl ⟨by rw [HV.out], yB.alloc (by have := c5.size; simp; omega) _⟩
          simp [results, Tryd.results10, go_sem, noneV, d0, d1, d2, hlt5]
        · have hem2 := not_empty (gUser s) (by omega)
          have hgo : gOk s = jidT (foldT (gUser s)) (foldT (gHost s)) (gNick s) := by unfold gOk; rw [show noNick s = false by unfold noNick; rw [show (cutB 47 s).2.2 = false from hn]; rfl, show noUser s = false by unfold noUser; rw [decide_eq_false hz2, Bool.and_false]]; rfl
          have b6 : Below W5.heap.size W5 (W5.alloc (.cells #[.string (foldT (gUser s)), .string (foldT (gHost s)), .string (gNick s)] 24)) := (Below.refl _ W5).alloc (Nat.le_refl _) _
          have c6 := c5.trans (b6.mono c5.size)
          have t6 := t5.below b6
          have j6 := three_new W5 (foldT (gUser s)) (foldT (gHost s)) (gNick s)
          have hJ := jidOk_any (foldT (gUser s)) (foldT (gHost s)) (gNick s) _ (Utf8Tabs_below hT c6) (by omega) (by omega) (by omega)
          rw [← hgo] at hJ
          clear hgo b6 t5
          cases hj : gOk s
          · have hno : gVal s = noneV := gVal_none s hj
            have HV : Hid (gVal s = noneV) := hno
            rw [hj] at hJ
            clear hno hj
            go_wp2_with (go_at_call 9; go_fit hJ)
            rintro e W7 ⟨rfl, b7⟩
            have t7 := t6.below b7
            have c7 := c6.trans (b7.mono c6.size)
            clear t6 c6 j6
            have y0 := ((t7.set0 (⟨#[]⟩)).set1 (⟨#[]⟩)).set2 (⟨#[]⟩)
            have yB := ((c7.setCell (p := ⟨w.heap.size, 0, none⟩) (Nat.le_refl _) (.string (⟨#[]⟩))).setCell (p := ⟨w.heap.size, 1, none⟩) (Nat.le_refl _) (.string (⟨#[]⟩))).setCell (p := ⟨w.heap.size, 2, none⟩) (Nat.le_refl _) (.string (⟨#[]⟩))
            have a0 := t7.c0
            have a1 := t7.c1
            have a2 := t7.c2
            have f0 := t7.fz 0
            have f1 := t7.fz 1
            have f3 := t7.fz 2
            have d0 := y0.c0
            have d1 := y0.c1
            have d2 := y0.c2
            clear y0
            go_wp2_with fail
            refine bodyPost_ret (v := noneV) ?_ rfl ⟨by rw [HV.out], yB⟩
            simp [results, Tryd.results10, go_sem, noneV, d0, d1, d2]
          · have hyes := gVal_some s hj
            have HV : Hid (gVal s = .tuple #[.agg #[.string (foldT (gUser s)), .string (foldT (gHost s)), .string (gNick s)], .bool true]) := hyes
            rw [hj] at hJ
            clear hyes hj
            go_wp2_with (go_at_call 9; go_fit hJ)
            rintro e W7 ⟨rfl, b7⟩
            have t7 := t6.below b7
            have j7 := j6.below b7
            have c7 := c6.trans (b7.mono c6.size)
            have m0 := j7.c0
            have m1 := j7.c1
            have m2 := j7.c2
            clear t6 c6 j6
            have y0 := ((t7.set0 (foldT (gUser s))).set1 (foldT (gHost s))).set2 (gNick s)
            have yB := ((c7.setCell (p := ⟨w.heap.size, 0, none⟩) (Nat.le_refl _) (.string (foldT (gUser s)))).setCell (p := ⟨w.heap.size, 1, none⟩) (Nat.le_refl _) (.string (foldT (gHost s)))).setCell (p := ⟨w.heap.size, 2, none⟩) (Nat.le_refl _) (.string (gNick s))
            have a0 := t7.c0
            have a1 := t7.c1
            have a2 := t7.c2
            have f0 := t7.fz 0
            have f1 := t7.fz 1
            have f3 := t7.fz 2
            have d0 := y0.c0
            have d1 := y0.c1
            have d2 := y0.c2
            clear y0
            go_wp2_with fail
            refine bodyPost_ret (v := .tuple #[.agg #[.string (foldT (gUser s)), .string (foldT (gHost s)), .string (gNick s)], .bool true]) ?_ rfl ⟨by rw [HV.out], yB⟩
            simp [results, Tryd.results10, go_sem, d0, d1, d2]
      · by_cases hz : (gNick s).size = 0
        · have hem := is_empty (gNick s) hz
          have hno : gVal s = noneV := gVal_none s (by unfold gOk noNick; rw [show (cutB 47 s).2.2 = true from hn, decide_eq_true hz]; rfl)
          have HV : Hid (gVal s = noneV) := hno
          clear hno
          have y0 := ((t5.set0 (⟨#[]⟩)).set1 (⟨#[]⟩)).set2 (⟨#[]⟩)
          have yB := ((c5.setCell (p := ⟨w.heap.size, 0, none⟩) (Nat.le_refl _) (.string (⟨#[]⟩))).setCell (p := ⟨w.heap.size, 1, none⟩) (Nat.le_refl _) (.string (⟨#[]⟩))).setCell (p := ⟨w.heap.size, 2, none⟩) (Nat.le_refl _) (.string (⟨#[]⟩))
          have a0 := t5.c0
          have a1 := t5.c1
          have a2 := t5.c2
          have f0 := t5.fz 0
          have f1 := t5.fz 1
          have f3 := t5.fz 2
          have d0 := y0.c0
          have d1 := y0.c1
          have d2 := y0.c2
          have hlt5 := t5.lt
          clear t5
          go_wp2_with fail
          refine bodyPost_ret (v := noneV) ?_ rfl ⟨by rw [HV.out], yB.alloc (by have := c5.size; simp; omega) _⟩
          simp [results, Tryd.results10, go_sem, noneV, d0, d1, d2, hlt5]
        · have hem := not_empty (gNick s) (by omega)
          by_cases hz2 : (gUser s).size = 0
          · have hem2 := is_empty (gUser s) hz2
            have hno : gVal s = noneV := gVal_none s (by unfold gOk noUser; rw [show (cutB 64 (gHead s)).2.2 = true from hu, decide_eq_true hz2]; cases noNick s <;> rfl)
            have HV : Hid (gVal s = noneV) := hno
            clear hno
            have y0 := ((t5.set0 (⟨#[]⟩)).set1 (⟨#[]⟩)).set2 (⟨#[]⟩)
            have yB := ((c5.setCell (p := ⟨w.heap.size, 0, none⟩) (Nat.le_refl _) (.string (⟨#[]⟩))).setCell (p := ⟨w.heap.size, 1, none⟩) (Nat.le_refl _) (.string (⟨#[]⟩))).setCell (p := ⟨w.heap.size, 2, none⟩) (Nat.le_refl _) (.string (⟨#[]⟩))
            have a0 := t5.c0
            have a1 := t5.c1
            have a2 := t5.c2
            have f0 := t5.fz 0
            have f1 := t5.fz 1
            have f3 := t5.fz 2
            have d0 := y0.c0
            have d1 := y0.c1
            have d2 := y0.c2
            have hlt5 := t5.lt
            clear t5
            go_wp2_with fail
            refine bodyPost_ret (v := noneV) ?_ rfl ⟨by rw [HV.out], yB.alloc (by have := c5.size; simp; omega) _⟩
            simp [results, Tryd.results10, go_sem, noneV, d0, d1, d2, hlt5]
          · have hem2 := not_empty (gUser s) (by omega)
            have hgo : gOk s = jidT (foldT (gUser s)) (foldT (gHost s)) (gNick s) := by unfold gOk; rw [show noNick s = false by unfold noNick; rw [decide_eq_false hz, Bool.and_false], show noUser s = false by unfold noUser; rw [decide_eq_false hz2, Bool.and_false]]; rfl
            have b6 : Below W5.heap.size W5 (W5.alloc (.cells #[.string (foldT (gUser s)), .string (foldT (gHost s)), .string (gNick s)] 24)) := (Below.refl _ W5).alloc (Nat.le_refl _) _
            have c6 := c5.trans (b6.mono c5.size)
            have t6 := t5.below b6
            have j6 := three_new W5 (foldT (gUser s)) (foldT (gHost s)) (gNick s)
            have hJ := jidOk_any (foldT (gUser s)) (foldT (gHost s)) (gNick s) _ (Utf8Tabs_below hT c6) (by omega) (by omega) (by omega)
            rw [← hgo] at hJ
            clear hgo b6 t5
            cases hj : gOk s
            · have hno : gVal s = noneV := gVal_none s hj
              have HV : Hid (gVal s = noneV) := hno
              rw [hj] at hJ
              clear hno hj
              go_wp2_with (go_at_call 9; go_fit hJ)
              rintro e W7 ⟨rfl, b7⟩
              have t7 := t6.below b7
              have c7 := c6.trans (b7.mono c6.size)
              clear t6 c6 j6
              have y0 := ((t7.set0 (⟨#[]⟩)).set1 (⟨#[]⟩)).set2 (⟨#[]⟩)
              have yB := ((c7.setCell (p := ⟨w.heap.size, 0, none⟩) (Nat.le_refl _) (.string (⟨#[]⟩))).setCell (p := ⟨w.heap.size, 1, none⟩) (Nat.le_refl _) (.string (⟨#[]⟩))).setCell (p := ⟨w.heap.size, 2, none⟩) (Nat.le_refl _) (.string (⟨#[]⟩))
              have a0 := t7.c0
              have a1 := t7.c1
              have a2 := t7.c2
              have f0 := t7.fz 0
              have f1 := t7.fz 1
              have f3 := t7.fz 2
              have d0 := y0.c0
              have d1 := y0.c1
              have d2 := y0.c2
              clear y0
              go_wp2_with fail
              refine bodyPost_ret (v := noneV) ?_ rfl ⟨by rw [HV.out], yB⟩
              simp [results, Tryd.results10, go_sem, noneV, d0, d1, d2]
            · have hyes := gVal_some s hj
              have HV : Hid (gVal s = .tuple #[.agg #[.string (foldT (gUser s)), .string (foldT (gHost s)), .string (gNick s)], .bool true]) := hyes
              rw [hj] at hJ
              clear hyes hj
              go_wp2_with (go_at_call 9; go_fit hJ)
              rintro e W7 ⟨rfl, b7⟩
              have t7 := t6.below b7
              have j7 := j6.below b7
              have c7 := c6.trans (b7.mono c6.size)
              have m0 := j7.c0
              have m1 := j7.c1
              have m2 := j7.c2
              clear t6 c6 j6
              have y0 := ((t7.set0 (foldT (gUser s))).set1 (foldT (gHost s))).set2 (gNick s)
              have yB := ((c7.setCell (p := ⟨w.heap.size, 0, none⟩) (Nat.le_refl _) (.string (foldT (gUser s)))).setCell (p := ⟨w.heap.size, 1, none⟩) (Nat.le_refl _) (.string (foldT (gHost s)))).setCell (p := ⟨w.heap.size, 2, none⟩) (Nat.le_refl _) (.string (gNick s))
              have a0 := t7.c0
              have a1 := t7.c1
              have a2 := t7.c2
              have f0 := t7.fz 0
              have f1 := t7.fz 1
              have f3 := t7.fz 2
              have d0 := y0.c0
              have d1 := y0.c1
              have d2 := y0.c2
              clear y0
              go_wp2_with fail
              refine bodyPost_ret (v := .tuple #[.agg #[.string (foldT (gUser s)), .string (foldT (gHost s)), .string (gNick s)], .bool true]) ?_ rfl ⟨by rw [HV.out], yB⟩
              simp [results, Tryd.results10, go_sem, d0, d1, d2]
  · have hb : (60 : Int) < (s.size : Int) := by omega
    have hv : jgetV s = noneV := by unfold jgetV; rw [if_neg h60]
    rw [hv]
    clear hv
    go_enter Tryd.func10, Tryd.ntmps10
    go_wp2_with fail
    exact bodyPost_ret (v := noneV) (by simp [results, Tryd.results10, go_sem, noneV]) rfl ⟨rfl, b0⟩
end Go.Proofs.YthcjimigmeijfacDoor.Hub
