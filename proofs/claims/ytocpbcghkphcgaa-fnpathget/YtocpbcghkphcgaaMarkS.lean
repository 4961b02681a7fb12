/-
  The law's own markStepS, heldStepS: what is marked is held, and nothing else is written.
-/
import Derived.Test.YtocpbcghkphcgaaStepRow
import Derived.Test.YtocpbcghkphcgaaMarks
namespace Go.Proofs.Ytocpbcghkphcgaa.Hub
open Go.RowKit
set_option linter.unusedVariables false
set_option linter.unusedSimpArgs false

theorem own_steps {W : World} {base g n cap : Nat} {C : Array Value} {D : Nat → Bool} {N A T : Nat → ByteArray} (hb : base ≤ g) (hg : W.heap[g]? = some (.cells C 37 (0, 0))) (hc : n ≤ cap) (hM : cap ≤ maxLen) (hC : C.size = cap * 4) (hA : ∀ j, j < n → C[j * 4]? = some (.bool (D j)) ∧ C[j * 4 + 1]? = some (.string (N j)) ∧ C[j * 4 + 2]? = some (.string (A j)) ∧ C[j * 4 + 3]? = some (.string (T j))) : OwnS W base (.slice (some ⟨g, 0, none⟩) n cap) n D N A T :=
  own_rowL (stepC_len _ _ _ _) (by decide) hb hg hc hM hC (fun j hj i hi => by
    match i, hi with
    | 0, _ => exact (hA j hj).1
    | 1, _ => exact (hA j hj).2.1
    | 2, _ => exact (hA j hj).2.2.1
    | 3, _ => exact (hA j hj).2.2.2)
theorem grown_set {w W1 W : World} {g : Nat} (gw : w.grownBy W (some g)) (b : Below W.heap.size W W1) (i : Nat) (v : Value) : w.grownBy (W1.setCell ⟨g, i, none⟩ v) (some g) := by
  have bs := (Below.refl g W1).setCell (p := ⟨g, i, none⟩) (Nat.le_refl _) v
  refine ⟨(bs.os.trans b.os).trans gw.os, (bs.tape.trans b.tape).trans gw.tape, (bs.output.trans b.output).trans gw.output, Nat.le_trans gw.size (Nat.le_trans b.size bs.size), fun j hj hne => ?_⟩
  rw [Below.heap_setCell _ _ _ _ (fun e => hne (by rw [e])), b.block j (Nat.lt_of_lt_of_le hj gw.size)]
  exact gw.block j hj hne

theorem eq_self (a : ByteArray) : (a.toList == a.toList) = true := by simp

set_option maxRecDepth 100000 in
set_option maxHeartbeats 4000000 in
theorem markStepS_any (base : Nat) (v : Value) (n k : Nat) (D : Nat → Bool) (N A T : Nat → ByteArray) (w : World) (hm : OwnS w base v n D N A T) (hn : n ≤ 100000) (hk : k ≤ 10) :
    Calls Try.prog 9 #[v, .int .i64 k] w fun e w' => e = .returned (.int .i64 ((k + 4 * n : Nat) : Int)) ∧ OwnS w' base v n (fun j => decide ((k + 4 * j) % 3 = 0)) (fun j => markT (k + 4 * j + 1)) (fun j => markT (k + 4 * j + 2)) (fun j => markT (k + 4 * j + 3)) ∧ w.grownBy w' v.ownBlock := by
  rcases hm.2 with ⟨rfl, rfl⟩ | ⟨g, cap, cur, rfl, hb, hg, hc, hM, hs, htk⟩
  · go_enter Try.func9, Try.ntmps9
    go_wp2_with fail
    go_loop [1, 5] (fun l i => l = .int .i64 k ∧ i = .int .i64 0) (fun _ _ => 0)
    case atStart => exact ⟨rfl, rfl⟩
    case round =>
      obtain ⟨rfl, rfl⟩ := hrel
      go_wp2_with fail
      go_ret
      exact ⟨rfl, OwnL.nil _ _ _ _ _, World.grownBy.refl _ _⟩
  · have hM' : cap ≤ 9223372036854775807 := hM
    have lg : g < w.heap.size := (Array.getElem?_eq_some_iff.1 hg).1
    clear hm htk hM
    go_enter Try.func9, Try.ntmps9
    go_wp2_with fail
    go_loopw [1, 5] (fun l i wr => ∃ (m : Nat) (C : Array Value), m ≤ n ∧ l = .int .i64 ((k + 4 * m : Nat) : Int) ∧ i = .int .i64 m ∧ wr.heap[g]? = some (.cells C 37 (0, 0)) ∧ C.size = cap * 4 ∧ Hid (∀ j, j < m → C[j * 4]? = some (.bool (decide ((k + 4 * j) % 3 = 0))) ∧ C[j * 4 + 1]? = some (.string (markT (k + 4 * j + 1))) ∧ C[j * 4 + 2]? = some (.string (markT (k + 4 * j + 2))) ∧ C[j * 4 + 3]? = some (.string (markT (k + 4 * j + 3)))) ∧ w.grownBy wr (some g)) (fun _ i _ => n - (intOf i).toNat)
    case atStart => exact ⟨0, cur, Nat.zero_le _, rfl, rfl, hg, hs, fun j hj => absurd hj (by omega), World.grownBy.refl _ _⟩
    case round =>
      obtain ⟨m, C, hm, rfl, rfl, hgr, hC, HA, gw⟩ := hrel
      by_cases hlt : m < n
      · have i1 : (0 : Int) ≤ (m : Int) := by omega
        have i2 : (m : Int) < (n : Int) := by omega
        have lgr : g < wr.heap.size := (Array.getElem?_eq_some_iff.1 hgr).1
        obtain ⟨kk, hkk⟩ : ∃ kk, kk = k + 4 * m := ⟨_, rfl⟩
        obtain ⟨B, hB⟩ : ∃ B, decide (kk % 3 = 0) = B := ⟨_, rfl⟩
        have hrem : ((kk : Int) % 3 == 0) = B := by
          rw [← hB]
          by_cases h : kk % 3 = 0
          · rw [decide_eq_true h]
            exact beq_iff_eq.2 (by omega)
          · rw [decide_eq_false h]
            exact beq_eq_false_iff_ne.2 (by omega)
        have c1 : ∀ W, Calls Try.prog 22 #[.int .i64 ((kk : Int) + 1)] W fun e w' => e = .returned (.string (markT (kk + 1))) ∧ Below W.heap.size W w' := fun W => by
          rw [show ((kk : Int) + 1) = ((kk + 1 : Nat) : Int) by omega]
          exact markText_any (kk + 1) (by omega) W
        have c2 : ∀ W, Calls Try.prog 22 #[.int .i64 ((kk : Int) + 1 + 1)] W fun e w' => e = .returned (.string (markT (kk + 2))) ∧ Below W.heap.size W w' := fun W => by
          rw [show ((kk : Int) + 1 + 1) = ((kk + 2 : Nat) : Int) by omega]
          exact markText_any (kk + 2) (by omega) W
        have c3 : ∀ W, Calls Try.prog 22 #[.int .i64 ((kk : Int) + 1 + 1 + 1)] W fun e w' => e = .returned (.string (markT (kk + 3))) ∧ Below W.heap.size W w' := fun W => by
          rw [show ((kk : Int) + 1 + 1 + 1) = ((kk + 3 : Nat) : Int) by omega]
          exact markText_any (kk + 3) (by omega) W
        obtain ⟨T1, hT1⟩ : ∃ T1, markT (kk + 1) = T1 := ⟨_, rfl⟩
        obtain ⟨T2, hT2⟩ : ∃ T2, markT (kk + 2) = T2 := ⟨_, rfl⟩
        obtain ⟨T3, hT3⟩ : ∃ T3, markT (kk + 3) = T3 := ⟨_, rfl⟩
        rw [hT1] at c1
        rw [hT2] at c2
        rw [hT3] at c3
        have HT : Hid (decide (kk % 3 = 0) = B ∧ markT (kk + 1) = T1 ∧ markT (kk + 2) = T2 ∧ markT (kk + 3) = T3) := ⟨hB, hT1, hT2, hT3⟩
        have z1 : IntKind.i64.wrap ((kk : Int) + 1) = (kk : Int) + 1 := by rw [IntKind.wrap_i64]; omega
        have z2 : IntKind.i64.wrap ((kk : Int) + 1 + 1) = (kk : Int) + 1 + 1 := by rw [IntKind.wrap_i64]; omega
        have z3 : IntKind.i64.wrap ((kk : Int) + 1 + 1 + 1) = (kk : Int) + 1 + 1 + 1 := by rw [IntKind.wrap_i64]; omega
        have z4 : IntKind.i64.wrap ((kk : Int) + 1 + 1 + 1 + 1) = ((k + 4 * (m + 1) : Nat) : Int) := by rw [IntKind.wrap_i64, hkk]; omega
        rw [← hkk]
        have HK : Hid (kk = k + 4 * m) := hkk
        clear hkk hB hT1 hT2 hT3
        obtain ⟨cv, hcv⟩ : ∃ cv, wr.cell? ⟨g, m * 4, none⟩ = some cv := ⟨_, (cell_of wr _ _ C _ hgr).trans (Array.getElem?_eq_getElem (by omega))⟩
        have f0 : wr.frozen? ⟨g, m * 4, none⟩ = false := by simp [World.frozen?, hgr]
        have k1 := set_heap wr g (m * 4) C _ _ (.bool B) hgr
        obtain ⟨V1, hV1⟩ : ∃ V1, wr.setCell ⟨g, m * 4, none⟩ (.bool B) = V1 := ⟨_, rfl⟩
        have gw1 : w.grownBy V1 (some g) := by rw [← hV1]; exact grown_set gw (Below.refl _ _) _ _
        rw [hV1] at k1
        have HV1 : Hid (wr.setCell ⟨g, m * 4, none⟩ (.bool B) = V1) := hV1
        have K1 : Hid (V1.heap[g]? = some (.cells (C.setIfInBounds (m * 4) (.bool B)) 37 (0, 0))) := k1
        clear hV1 k1 hgr
        go_wp2_with fail
        try rw [HV1.out]
        refine (c1 _).mono ?_
        rintro e w1 ⟨rfl, b1⟩
        have lg1 : g < V1.heap.size := (Array.getElem?_eq_some_iff.1 K1.out).1
        have hg1 := (b1.block g lg1).trans K1.out
        have hsz1 : (C.setIfInBounds (m * 4) (.bool B)).size = cap * 4 := by simp [hC]
        obtain ⟨cv1, hcv1⟩ : ∃ cv, w1.cell? ⟨g, m * 4 + 1, none⟩ = some cv := ⟨_, (cell_of w1 _ _ _ _ hg1).trans (Array.getElem?_eq_getElem (by omega))⟩
        have f1 : w1.frozen? ⟨g, m * 4 + 1, none⟩ = false := by simp [World.frozen?, hg1]
        have k2 := set_heap w1 g (m * 4 + 1) _ _ _ (.string T1) hg1
        have gw2 : w.grownBy (w1.setCell ⟨g, m * 4 + 1, none⟩ (.string T1)) (some g) := grown_set gw1 b1 _ _
        obtain ⟨V2, hV2⟩ : ∃ V, w1.setCell ⟨g, m * 4 + 1, none⟩ (.string T1) = V := ⟨_, rfl⟩
        rw [hV2] at k2 gw2
        have HV2 : Hid (w1.setCell ⟨g, m * 4 + 1, none⟩ (.string T1) = V2) := hV2
        have K2 : Hid (V2.heap[g]? = some (.cells ((C.setIfInBounds (m * 4) (.bool B)).setIfInBounds (m * 4 + 1) (.string T1)) 37 (0, 0))) := k2
        clear hV2 k2 hg1 b1 c1
        go_wp2_with fail
        try rw [HV2.out]
        refine (c2 _).mono ?_
        rintro e w2 ⟨rfl, b2⟩
        have lg2 : g < V2.heap.size := (Array.getElem?_eq_some_iff.1 K2.out).1
        have hg2 := (b2.block g lg2).trans K2.out
        have hsz2 : ((C.setIfInBounds (m * 4) (.bool B)).setIfInBounds (m * 4 + 1) (.string T1)).size = cap * 4 := by simp [hC]
        obtain ⟨cv2, hcv2⟩ : ∃ cv, w2.cell? ⟨g, m * 4 + 2, none⟩ = some cv := ⟨_, (cell_of w2 _ _ _ _ hg2).trans (Array.getElem?_eq_getElem (by omega))⟩
        have f2 : w2.frozen? ⟨g, m * 4 + 2, none⟩ = false := by simp [World.frozen?, hg2]
        have k3 := set_heap w2 g (m * 4 + 2) _ _ _ (.string T2) hg2
        have gw3 : w.grownBy (w2.setCell ⟨g, m * 4 + 2, none⟩ (.string T2)) (some g) := grown_set gw2 b2 _ _
        obtain ⟨V3, hV3⟩ : ∃ V, w2.setCell ⟨g, m * 4 + 2, none⟩ (.string T2) = V := ⟨_, rfl⟩
        rw [hV3] at k3 gw3
        have HV3 : Hid (w2.setCell ⟨g, m * 4 + 2, none⟩ (.string T2) = V3) := hV3
        have K3 : Hid (V3.heap[g]? = some (.cells (((C.setIfInBounds (m * 4) (.bool B)).setIfInBounds (m * 4 + 1) (.string T1)).setIfInBounds (m * 4 + 2) (.string T2)) 37 (0, 0))) := k3
        clear hV3 k3 hg2 b2 c2
        go_wp2_with fail
        try rw [HV3.out]
        refine (c3 _).mono ?_
        rintro e w3 ⟨rfl, b3⟩
        have lg3 : g < V3.heap.size := (Array.getElem?_eq_some_iff.1 K3.out).1
        have hg3 := (b3.block g lg3).trans K3.out
        have hsz3 : (((C.setIfInBounds (m * 4) (.bool B)).setIfInBounds (m * 4 + 1) (.string T1)).setIfInBounds (m * 4 + 2) (.string T2)).size = cap * 4 := by simp [hC]
        obtain ⟨cv3, hcv3⟩ : ∃ cv, w3.cell? ⟨g, m * 4 + 3, none⟩ = some cv := ⟨_, (cell_of w3 _ _ _ _ hg3).trans (Array.getElem?_eq_getElem (by omega))⟩
        have f3 : w3.frozen? ⟨g, m * 4 + 3, none⟩ = false := by simp [World.frozen?, hg3]
        have k4 := set_heap w3 g (m * 4 + 3) _ _ _ (.string T3) hg3
        have gw4 : w.grownBy (w3.setCell ⟨g, m * 4 + 3, none⟩ (.string T3)) (some g) := grown_set gw3 b3 _ _
        obtain ⟨V4, hV4⟩ : ∃ V, w3.setCell ⟨g, m * 4 + 3, none⟩ (.string T3) = V := ⟨_, rfl⟩
        rw [hV4] at k4 gw4
        have HV4 : Hid (w3.setCell ⟨g, m * 4 + 3, none⟩ (.string T3) = V4) := hV4
        have K4 : Hid (V4.heap[g]? = some (.cells ((((C.setIfInBounds (m * 4) (.bool B)).setIfInBounds (m * 4 + 1) (.string T1)).setIfInBounds (m * 4 + 2) (.string T2)).setIfInBounds (m * 4 + 3) (.string T3)) 37 (0, 0))) := k4
        clear hV4 k4 hg3 b3 c3
        go_wp2_with fail
        try rw [HV4.out]
        refine ⟨⟨m + 1, _, by omega, ?_, by go_num, K4.out, by simp [hC], fun j hj => ?_, gw4⟩, by simp [intOf]; omega⟩
        · first | rfl | exact congrArg (Value.int .i64) (by have := HK.out; first | omega | (unfold wrap64; omega))
        · rw [put4 C (m * 4) _ _ _ _ (by omega), put4 C (m * 4) _ _ _ _ (by omega), put4 C (m * 4) _ _ _ _ (by omega), put4 C (m * 4) _ _ _ _ (by omega)]
          by_cases hjm : j = m
          · subst hjm
            have ht := HT.out
            rw [HK.out] at ht
            simp only [if_true, ht.1, ht.2.1, ht.2.2.1, ht.2.2.2]
            simp
          · rw [if_neg (by omega), if_neg (by omega), if_neg (by omega), if_neg (by omega), if_neg (by omega), if_neg (by omega), if_neg (by omega), if_neg (by omega), if_neg (by omega), if_neg (by omega), if_neg (by omega), if_neg (by omega), if_neg (by omega), if_neg (by omega), if_neg (by omega), if_neg (by omega)]
            exact HA.out j (by omega)
      · obtain rfl : m = n := by omega
        go_wp2_with fail
        go_ret
        exact ⟨rfl, own_steps hb hgr hc hM' hC HA.out, gw⟩

set_option maxRecDepth 100000 in
set_option maxHeartbeats 4000000 in
theorem heldStepS_any (v : Value) (n k : Nat) (w : World) (hm : StepAt w v n (fun j => decide ((k + 4 * j) % 3 = 0)) (fun j => markT (k + 4 * j + 1)) (fun j => markT (k + 4 * j + 2)) (fun j => markT (k + 4 * j + 3))) (hn : n ≤ 100000) (hk : k ≤ 10) :
    Calls Try.prog 10 #[v, .int .i64 k] w fun e w' => e = .returned (.int .i64 ((k + 4 * n : Nat) : Int)) ∧ Below w.heap.size w w' := by
  obtain ⟨o, cap, rfl, g1, g2', hc⟩ := hm
  have g2 : cap ≤ 9223372036854775807 := g2'
  have HC : Hid (∀ j, j < n → ∃ b f : Nat, o = some ⟨b, f, none⟩ ∧ b < w.heap.size ∧ w.cell? ⟨b, f + j * 4, none⟩ = some (.bool (decide ((k + 4 * j) % 3 = 0))) ∧ w.cell? ⟨b, f + j * 4 + 1, none⟩ = some (.string (markT (k + 4 * j + 1))) ∧ w.cell? ⟨b, f + j * 4 + 2, none⟩ = some (.string (markT (k + 4 * j + 2))) ∧ w.cell? ⟨b, f + j * 4 + 3, none⟩ = some (.string (markT (k + 4 * j + 3)))) := hc
  clear hc g2'
  go_enter Try.func10, Try.ntmps10
  go_wp2_with fail
  go_loopw [1, 5] (fun l i wr => ∃ m : Nat, m ≤ n ∧ l = .int .i64 ((k + 4 * m : Nat) : Int) ∧ i = .int .i64 m ∧ Below w.heap.size w wr) (fun _ i _ => n - (intOf i).toNat)
  case atStart => exact ⟨0, Nat.zero_le _, rfl, rfl, Below.refl _ _⟩
  case round =>
    obtain ⟨m, hm, rfl, rfl, bw⟩ := hrel
    by_cases hlt : m < n
    · have i1 : (0 : Int) ≤ (m : Int) := by omega
      have i2 : (m : Int) < (n : Int) := by omega
      obtain ⟨b, f, rfl, hb, e0, e1, e2, e3⟩ := HC.out m hlt
      obtain ⟨kk, hkk⟩ : ∃ kk, kk = k + 4 * m := ⟨_, rfl⟩
      rw [← hkk] at e0 e1 e2 e3
      obtain ⟨B, hB⟩ : ∃ B, decide (kk % 3 = 0) = B := ⟨_, rfl⟩
      have hrem : ((kk : Int) % 3 == 0) = B := by
        rw [← hB]
        by_cases h : kk % 3 = 0
        · rw [decide_eq_true h]
          exact beq_iff_eq.2 (by omega)
        · rw [decide_eq_false h]
          exact beq_eq_false_iff_ne.2 (by omega)
      have c1 : ∀ W, Calls Try.prog 22 #[.int .i64 ((kk : Int) + 1)] W fun e w' => e = .returned (.string (markT (kk + 1))) ∧ Below W.heap.size W w' := fun W => by
        rw [show ((kk : Int) + 1) = ((kk + 1 : Nat) : Int) by omega]
        exact markText_any (kk + 1) (by omega) W
      have c2 : ∀ W, Calls Try.prog 22 #[.int .i64 ((kk : Int) + 1 + 1)] W fun e w' => e = .returned (.string (markT (kk + 2))) ∧ Below W.heap.size W w' := fun W => by
        rw [show ((kk : Int) + 1 + 1) = ((kk + 2 : Nat) : Int) by omega]
        exact markText_any (kk + 2) (by omega) W
      have c3 : ∀ W, Calls Try.prog 22 #[.int .i64 ((kk : Int) + 1 + 1 + 1)] W fun e w' => e = .returned (.string (markT (kk + 3))) ∧ Below W.heap.size W w' := fun W => by
        rw [show ((kk : Int) + 1 + 1 + 1) = ((kk + 3 : Nat) : Int) by omega]
        exact markText_any (kk + 3) (by omega) W
      obtain ⟨T1, hT1⟩ : ∃ T1, markT (kk + 1) = T1 := ⟨_, rfl⟩
      obtain ⟨T2, hT2⟩ : ∃ T2, markT (kk + 2) = T2 := ⟨_, rfl⟩
      obtain ⟨T3, hT3⟩ : ∃ T3, markT (kk + 3) = T3 := ⟨_, rfl⟩
      rw [hT1] at c1 e1
      rw [hT2] at c2 e2
      rw [hT3] at c3 e3
      rw [hB] at e0
      have NEW : Hid (∀ W : World, Below w.heap.size w W → W.cell? ⟨b, f + m * 4, none⟩ = some (.bool B) ∧ W.cell? ⟨b, f + m * 4 + 1, none⟩ = some (.string T1) ∧ W.cell? ⟨b, f + m * 4 + 2, none⟩ = some (.string T2) ∧ W.cell? ⟨b, f + m * 4 + 3, none⟩ = some (.string T3)) := fun W bb => ⟨(bb.cell (p := ⟨b, f + m * 4, none⟩) hb).trans e0, (bb.cell (p := ⟨b, f + m * 4 + 1, none⟩) hb).trans e1, (bb.cell (p := ⟨b, f + m * 4 + 2, none⟩) hb).trans e2, (bb.cell (p := ⟨b, f + m * 4 + 3, none⟩) hb).trans e3⟩
      have z1 : IntKind.i64.wrap ((kk : Int) + 1) = (kk : Int) + 1 := by rw [IntKind.wrap_i64]; omega
      have z2 : IntKind.i64.wrap ((kk : Int) + 1 + 1) = (kk : Int) + 1 + 1 := by rw [IntKind.wrap_i64]; omega
      have z3 : IntKind.i64.wrap ((kk : Int) + 1 + 1 + 1) = (kk : Int) + 1 + 1 + 1 := by rw [IntKind.wrap_i64]; omega
      have z4 : IntKind.i64.wrap ((kk : Int) + 1 + 1 + 1 + 1) = ((k + 4 * (m + 1) : Nat) : Int) := by rw [IntKind.wrap_i64, hkk]; omega
      rw [← hkk]
      have HK : Hid (kk = k + 4 * m) := hkk
      have q1 := eq_self T1
      have q2 := eq_self T2
      have q3 := eq_self T3
      have qb : (B != B) = false := bne_self_eq_false B
      clear hkk hB hT1 hT2 hT3 e0 e1 e2 e3
      obtain ⟨e0, e1, e2, e3⟩ := NEW.out wr bw
      have bwd : Below w.heap.size w wr.drew := bw.drew
      have hT1 : (T1.toList != T1.toList) = false := bne_self_eq_false _
      have hT2 : (T2.toList != T2.toList) = false := bne_self_eq_false _
      have hT3 : (T3.toList != T3.toList) = false := bne_self_eq_false _
      go_wp2_with fail
      go_region_held3 (fun W => W.cell? ⟨b, f + m * 4, none⟩ = some (.bool B) ∧ W.cell? ⟨b, f + m * 4 + 1, none⟩ = some (.string T1) ∧ W.cell? ⟨b, f + m * 4 + 2, none⟩ = some (.string T2) ∧ W.cell? ⟨b, f + m * 4 + 3, none⟩ = some (.string T3))
        (first | exact NEW.out _ b1w | exact NEW.out _ bwd | go_keep)
        (first
          | (go_at_call 22; refine (c1 _).mono ?_; rintro e w1 ⟨rfl, b1⟩; have b1w : Below w.heap.size w w1 := bwd.trans (b1.mono bwd.size)))
      have b1d : Below w.heap.size w w1.drew := b1w.drew
      go_wp2_with fail
      go_region_held3 (fun W => W.cell? ⟨b, f + m * 4, none⟩ = some (.bool B) ∧ W.cell? ⟨b, f + m * 4 + 1, none⟩ = some (.string T1) ∧ W.cell? ⟨b, f + m * 4 + 2, none⟩ = some (.string T2) ∧ W.cell? ⟨b, f + m * 4 + 3, none⟩ = some (.string T3))
        (first | exact NEW.out _ b2w | exact NEW.out _ b1d | go_keep)
        (first
          | (go_at_call 22; refine (c2 _).mono ?_; rintro e w2 ⟨rfl, b2⟩; have b2w : Below w.heap.size w w2 := b1d.trans (b2.mono b1d.size)))
      have b2d : Below w.heap.size w w2.drew := b2w.drew
      go_wp2_with fail
      go_region_held3 (fun W => W.cell? ⟨b, f + m * 4, none⟩ = some (.bool B) ∧ W.cell? ⟨b, f + m * 4 + 1, none⟩ = some (.string T1) ∧ W.cell? ⟨b, f + m * 4 + 2, none⟩ = some (.string T2) ∧ W.cell? ⟨b, f + m * 4 + 3, none⟩ = some (.string T3))
        (first | exact NEW.out _ b3w | exact NEW.out _ b2d | go_keep)
        (first
          | (go_at_call 22; refine (c3 _).mono ?_; rintro e w3 ⟨rfl, b3⟩; have b3w : Below w.heap.size w w3 := b2d.trans (b3.mono b2d.size)))
      go_wp2_with fail
      refine ⟨⟨m + 1, by omega, ?_, by go_num, b3w⟩, by simp [intOf]; omega⟩
      first | rfl | exact congrArg (Value.int .i64) (by have := HK.out; first | omega | (unfold wrap64; omega))
    · obtain rfl : m = n := by omega
      go_wp2_with fail
      go_ret
      exact ⟨rfl, bw⟩
end Go.Proofs.Ytocpbcghkphcgaa.Hub
