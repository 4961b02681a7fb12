/-
  The law's own markEntryS, heldEntryS: what is marked is held, and nothing else is written.
-/
import Derived.Test.YtkmagkpieihcgaaEntBase
import Derived.Test.YtkmagkpieihcgaaRowG
import Derived.Test.YtkmagkpieihcgaaMarks
namespace Go.Proofs.Ytkmagkpieihcgaa.Hub
open Go.RowKit
set_option linter.unusedVariables false
set_option linter.unusedSimpArgs false

/-- One of the list, as its cells. -/
abbrev EntC (E : Nat → EntX) : Nat → List Value := fun j => [.string (E j).room, .int .i64 (E j).seq, .int .i64 (E j).kind, .string (E j).user, .string (E j).nick, .string (E j).text, .string (E j).id, .string (E j).ref, .int .i64 (E j).num]
theorem EntC_len (E : Nat → EntX) : ∀ j, (EntC E j).length = 9 := fun _ => rfl
abbrev OwnEnt (W : World) (base : Nat) (v : Value) (n : Nat) (E : Nat → EntX) : Prop := OwnL W base 33 9 v n (EntC E)
theorem Entlist {W : World} {v : Value} {n : Nat} {E : Nat → EntX} : EntsAt W v n E ↔ ListAt W 9 v n (EntC E) := by
  constructor
  · rintro ⟨o, cap, hv, h1, h2, hc⟩
    refine ⟨o, cap, hv, h1, h2, fun j hj => ?_⟩
    obtain ⟨b, f, ho, hb, c0, c1, c2, c3, c4, c5, c6, c7, c8⟩ := hc j hj
    refine ⟨b, f, ho, hb, fun i hi => ?_⟩
    match i, hi with
    | 0, _ => exact c0
    | 1, _ => exact c1
    | 2, _ => exact c2
    | 3, _ => exact c3
    | 4, _ => exact c4
    | 5, _ => exact c5
    | 6, _ => exact c6
    | 7, _ => exact c7
    | 8, _ => exact c8
  · rintro ⟨o, cap, hv, h1, h2, hc⟩
    refine ⟨o, cap, hv, h1, h2, fun j hj => ?_⟩
    obtain ⟨b, f, ho, hb, hi⟩ := hc j hj
    exact ⟨b, f, ho, hb, hi 0 (by decide), hi 1 (by decide), hi 2 (by decide), hi 3 (by decide), hi 4 (by decide), hi 5 (by decide), hi 6 (by decide), hi 7 (by decide), hi 8 (by decide)⟩
theorem OwnEnt.at {W : World} {base : Nat} {v : Value} {n : Nat} {E : Nat → EntX} (h : OwnEnt W base v n E) : EntsAt W v n E := Entlist.2 (OwnL.at h (EntC_len E))
theorem ownEnt_of {W : World} {base g n cap : Nat} {C : Array Value} {E : Nat → EntX} (hb : base ≤ g) (hg : W.heap[g]? = some (.cells C 33 (0, 0))) (hc : n ≤ cap) (hM : cap ≤ maxLen) (hC : C.size = cap * 9)
    (hA : ∀ j, j < n → C[j * 9]? = some (.string (E j).room) ∧ C[j * 9 + 1]? = some (.int .i64 (E j).seq) ∧ C[j * 9 + 2]? = some (.int .i64 (E j).kind) ∧ C[j * 9 + 3]? = some (.string (E j).user) ∧ C[j * 9 + 4]? = some (.string (E j).nick) ∧ C[j * 9 + 5]? = some (.string (E j).text) ∧ C[j * 9 + 6]? = some (.string (E j).id) ∧ C[j * 9 + 7]? = some (.string (E j).ref) ∧ C[j * 9 + 8]? = some (.int .i64 (E j).num)) : OwnEnt W base (.slice (some ⟨g, 0, none⟩) n cap) n E :=
  own_rowL (EntC_len E) (by decide) hb hg hc hM hC (fun j hj i hi => by
    match i, hi with
    | 0, _ => exact (hA j hj).1
    | 1, _ => exact (hA j hj).2.1
    | 2, _ => exact (hA j hj).2.2.1
    | 3, _ => exact (hA j hj).2.2.2.1
    | 4, _ => exact (hA j hj).2.2.2.2.1
    | 5, _ => exact (hA j hj).2.2.2.2.2.1
    | 6, _ => exact (hA j hj).2.2.2.2.2.2.1
    | 7, _ => exact (hA j hj).2.2.2.2.2.2.2.1
    | 8, _ => exact (hA j hj).2.2.2.2.2.2.2.2)
theorem grown_setEnt {w W1 W : World} {g : Nat} (gw : w.grownBy W (some g)) (b : Below W.heap.size W W1) (i : Nat) (v : Value) : w.grownBy (W1.setCell ⟨g, i, none⟩ v) (some g) := by
  have bs := (Below.refl g W1).setCell (p := ⟨g, i, none⟩) (Nat.le_refl _) v
  refine ⟨(bs.os.trans b.os).trans gw.os, (bs.tape.trans b.tape).trans gw.tape, (bs.output.trans b.output).trans gw.output, Nat.le_trans gw.size (Nat.le_trans b.size bs.size), fun j hj hne => ?_⟩
  rw [Below.heap_setCell _ _ _ _ (fun e => hne (by rw [e])), b.block j (Nat.lt_of_lt_of_le hj gw.size)]
  exact gw.block j hj hne
theorem grown_againEnt {w W : World} {g : Nat} (gw : w.grownBy W (some g)) (i : Nat) (v : Value) : w.grownBy (W.setCell ⟨g, i, none⟩ v) (some g) := grown_setEnt gw (Below.refl _ _) i v
/-- What is marked from a number on. -/
def markEntX (kk : Nat) : EntX := ⟨markT (kk), ((kk + 1 : Nat) : Int), ((kk + 2 : Nat) : Int), markT (kk + 3), markT (kk + 4), markT (kk + 5), markT (kk + 6), markT (kk + 7), ((kk + 8 : Nat) : Int)⟩

set_option maxRecDepth 100000 in
set_option maxHeartbeats 4000000 in
theorem markEntryS_any (base : Nat) (v : Value) (n k : Nat) (E : Nat → EntX) (w : World) (hm : OwnEnt w base v n E) (hn : n ≤ 1048600) (hk : k ≤ 10) (hR : 9 * n ≤ 30000000) :
    Calls Try.prog 9 #[v, .int .i64 k] w fun e w' => e = .returned (.int .i64 ((k + 9 * n : Nat) : Int)) ∧ OwnEnt w' base v n (fun j => markEntX (k + 9 * j)) ∧ w.grownBy w' v.ownBlock := by
  rcases hm.2 with ⟨rfl, rfl⟩ | ⟨g, cap, cur, rfl, hb, hg, hc, hM, hs, htk⟩
  · go_enter Try.func9, Try.ntmps9
    go_wp2_with fail
    go_loop [1, 5] (fun l i => l = .int .i64 k ∧ i = .int .i64 0) (fun _ _ => 0)
    case atStart => exact ⟨rfl, rfl⟩
    case round =>
      obtain ⟨rfl, rfl⟩ := hrel
      go_wp2_with fail
      go_ret
      exact ⟨rfl, OwnL.nil _ _ _ _ _, World.grownBy.refl _ _⟩
  · have hM' : cap ≤ 9223372036854775807 := hM
    have lg : g < w.heap.size := (Array.getElem?_eq_some_iff.1 hg).1
    clear hm htk hM
    go_enter Try.func9, Try.ntmps9
    go_wp2_with fail
    go_loopw [1, 5] (fun l i wr => ∃ (m : Nat) (C : Array Value), m ≤ n ∧ l = .int .i64 ((k + 9 * m : Nat) : Int) ∧ i = .int .i64 m ∧ wr.heap[g]? = some (.cells C 33 (0, 0)) ∧ C.size = cap * 9 ∧ Hid (∀ j, j < m → C[j * 9]? = some (.string (markEntX (k + 9 * j)).room) ∧ C[j * 9 + 1]? = some (.int .i64 (markEntX (k + 9 * j)).seq) ∧ C[j * 9 + 2]? = some (.int .i64 (markEntX (k + 9 * j)).kind) ∧ C[j * 9 + 3]? = some (.string (markEntX (k + 9 * j)).user) ∧ C[j * 9 + 4]? = some (.string (markEntX (k + 9 * j)).nick) ∧ C[j * 9 + 5]? = some (.string (markEntX (k + 9 * j)).text) ∧ C[j * 9 + 6]? = some (.string (markEntX (k + 9 * j)).id) ∧ C[j * 9 + 7]? = some (.string (markEntX (k + 9 * j)).ref) ∧ C[j * 9 + 8]? = some (.int .i64 (markEntX (k + 9 * j)).num)) ∧ w.grownBy wr (some g)) (fun _ i _ => n - (intOf i).toNat)
    case atStart => exact ⟨0, cur, Nat.zero_le _, rfl, rfl, hg, hs, fun j hj => absurd hj (by omega), World.grownBy.refl _ _⟩
    case round =>
      obtain ⟨m, C, hm, rfl, rfl, hgr, hC, HA, gw⟩ := hrel
      by_cases hlt : m < n
      · have i1 : (0 : Int) ≤ (m : Int) := by omega
        have i2 : (m : Int) < (n : Int) := by omega
        have lg0 : g < wr.heap.size := (Array.getElem?_eq_some_iff.1 hgr).1
        obtain ⟨kk, hkk⟩ : ∃ kk, kk = k + 9 * m := ⟨_, rfl⟩
        have c0 : ∀ W, Calls Try.prog 17 #[.int .i64 ((kk : Int))] W fun e w' => e = .returned (.string (markT (kk))) ∧ Below W.heap.size W w' := fun W => by
          skip
          exact markText_any (kk) (by omega) W
        obtain ⟨T0, hT0⟩ : ∃ T, markT (kk) = T := ⟨_, rfl⟩
        rw [hT0] at c0
        have c3 : ∀ W, Calls Try.prog 17 #[.int .i64 ((kk : Int) + 1 + 1 + 1)] W fun e w' => e = .returned (.string (markT (kk + 3))) ∧ Below W.heap.size W w' := fun W => by
          rw [show ((kk : Int) + 1 + 1 + 1) = ((kk + 3 : Nat) : Int) by omega]
          exact markText_any (kk + 3) (by omega) W
        obtain ⟨T3, hT3⟩ : ∃ T, markT (kk + 3) = T := ⟨_, rfl⟩
        rw [hT3] at c3
        have c4 : ∀ W, Calls Try.prog 17 #[.int .i64 ((kk : Int) + 1 + 1 + 1 + 1)] W fun e w' => e = .returned (.string (markT (kk + 4))) ∧ Below W.heap.size W w' := fun W => by
          rw [show ((kk : Int) + 1 + 1 + 1 + 1) = ((kk + 4 : Nat) : Int) by omega]
          exact markText_any (kk + 4) (by omega) W
        obtain ⟨T4, hT4⟩ : ∃ T, markT (kk + 4) = T := ⟨_, rfl⟩
        rw [hT4] at c4
        have c5 : ∀ W, Calls Try.prog 17 #[.int .i64 ((kk : Int) + 1 + 1 + 1 + 1 + 1)] W fun e w' => e = .returned (.string (markT (kk + 5))) ∧ Below W.heap.size W w' := fun W => by
          rw [show ((kk : Int) + 1 + 1 + 1 + 1 + 1) = ((kk + 5 : Nat) : Int) by omega]
          exact markText_any (kk + 5) (by omega) W
        obtain ⟨T5, hT5⟩ : ∃ T, markT (kk + 5) = T := ⟨_, rfl⟩
        rw [hT5] at c5
        have c6 : ∀ W, Calls Try.prog 17 #[.int .i64 ((kk : Int) + 1 + 1 + 1 + 1 + 1 + 1)] W fun e w' => e = .returned (.string (markT (kk + 6))) ∧ Below W.heap.size W w' := fun W => by
          rw [show ((kk : Int) + 1 + 1 + 1 + 1 + 1 + 1) = ((kk + 6 : Nat) : Int) by omega]
          exact markText_any (kk + 6) (by omega) W
        obtain ⟨T6, hT6⟩ : ∃ T, markT (kk + 6) = T := ⟨_, rfl⟩
        rw [hT6] at c6
        have c7 : ∀ W, Calls Try.prog 17 #[.int .i64 ((kk : Int) + 1 + 1 + 1 + 1 + 1 + 1 + 1)] W fun e w' => e = .returned (.string (markT (kk + 7))) ∧ Below W.heap.size W w' := fun W => by
          rw [show ((kk : Int) + 1 + 1 + 1 + 1 + 1 + 1 + 1) = ((kk + 7 : Nat) : Int) by omega]
          exact markText_any (kk + 7) (by omega) W
        obtain ⟨T7, hT7⟩ : ∃ T, markT (kk + 7) = T := ⟨_, rfl⟩
        rw [hT7] at c7
        have HT : Hid (markT (kk) = T0 ∧ markT (kk + 3) = T3 ∧ markT (kk + 4) = T4 ∧ markT (kk + 5) = T5 ∧ markT (kk + 6) = T6 ∧ markT (kk + 7) = T7) := ⟨hT0, hT3, hT4, hT5, hT6, hT7⟩
        have z1 : IntKind.i64.wrap ((kk : Int) + 1) = (kk : Int) + 1 := by rw [IntKind.wrap_i64]; omega
        have z2 : IntKind.i64.wrap ((kk : Int) + 1 + 1) = (kk : Int) + 1 + 1 := by rw [IntKind.wrap_i64]; omega
        have z3 : IntKind.i64.wrap ((kk : Int) + 1 + 1 + 1) = (kk : Int) + 1 + 1 + 1 := by rw [IntKind.wrap_i64]; omega
        have z4 : IntKind.i64.wrap ((kk : Int) + 1 + 1 + 1 + 1) = (kk : Int) + 1 + 1 + 1 + 1 := by rw [IntKind.wrap_i64]; omega
        have z5 : IntKind.i64.wrap ((kk : Int) + 1 + 1 + 1 + 1 + 1) = (kk : Int) + 1 + 1 + 1 + 1 + 1 := by rw [IntKind.wrap_i64]; omega
        have z6 : IntKind.i64.wrap ((kk : Int) + 1 + 1 + 1 + 1 + 1 + 1) = (kk : Int) + 1 + 1 + 1 + 1 + 1 + 1 := by rw [IntKind.wrap_i64]; omega
        have z7 : IntKind.i64.wrap ((kk : Int) + 1 + 1 + 1 + 1 + 1 + 1 + 1) = (kk : Int) + 1 + 1 + 1 + 1 + 1 + 1 + 1 := by rw [IntKind.wrap_i64]; omega
        have z8 : IntKind.i64.wrap ((kk : Int) + 1 + 1 + 1 + 1 + 1 + 1 + 1 + 1) = (kk : Int) + 1 + 1 + 1 + 1 + 1 + 1 + 1 + 1 := by rw [IntKind.wrap_i64]; omega
        have z9 : IntKind.i64.wrap ((kk : Int) + 1 + 1 + 1 + 1 + 1 + 1 + 1 + 1 + 1) = ((k + 9 * (m + 1) : Nat) : Int) := by rw [IntKind.wrap_i64, hkk]; omega
        rw [← hkk]
        have HK : Hid (kk = k + 9 * m) := hkk
        clear hkk hT0 hT3 hT4 hT5 hT6 hT7 
        have HG0 : Hid (wr.heap[g]? = some (.cells C 33 (0, 0))) := hgr
        clear hgr
        go_wp2_with fail
        skip
        refine (c0 _).mono ?_
        rintro e w0 ⟨rfl, b0⟩
        have hg0 := (b0.block g lg0).trans HG0.out
        have hsz0 : (C).size = cap * 9 := by simp [hC]
        obtain ⟨cv0, hcv0⟩ : ∃ cv, w0.cell? ⟨g, m * 9, none⟩ = some cv := ⟨_, (cell_of w0 _ _ _ _ hg0).trans (Array.getElem?_eq_getElem (by omega))⟩
        have f0 : w0.frozen? ⟨g, m * 9, none⟩ = false := by simp [World.frozen?, hg0]
        obtain ⟨cv1, hcv1⟩ : ∃ cv, w0.cell? ⟨g, m * 9 + 1, none⟩ = some cv := ⟨_, (cell_of w0 _ _ _ _ hg0).trans (Array.getElem?_eq_getElem (by omega))⟩
        have f1 : w0.frozen? ⟨g, m * 9 + 1, none⟩ = false := by simp [World.frozen?, hg0]
        obtain ⟨cv2, hcv2⟩ : ∃ cv, w0.cell? ⟨g, m * 9 + 2, none⟩ = some cv := ⟨_, (cell_of w0 _ _ _ _ hg0).trans (Array.getElem?_eq_getElem (by omega))⟩
        have f2 : w0.frozen? ⟨g, m * 9 + 2, none⟩ = false := by simp [World.frozen?, hg0]
        have k0 := set_heap _ g (m * 9 + 2) _ _ _ (.int .i64 ((kk : Int) + 1 + 1)) (set_heap _ g (m * 9 + 1) _ _ _ (.int .i64 ((kk : Int) + 1)) (set_heap w0 g (m * 9) _ _ _ (.string T0) hg0))
        have gw0 : w.grownBy (((w0.setCell ⟨g, m * 9, none⟩ (.string T0)).setCell ⟨g, m * 9 + 1, none⟩ (.int .i64 ((kk : Int) + 1))).setCell ⟨g, m * 9 + 2, none⟩ (.int .i64 ((kk : Int) + 1 + 1))) (some g) := grown_againEnt (grown_againEnt (grown_setEnt gw b0 _ _) _ _) _ _
        obtain ⟨V1, hV1⟩ : ∃ V, ((w0.setCell ⟨g, m * 9, none⟩ (.string T0)).setCell ⟨g, m * 9 + 1, none⟩ (.int .i64 ((kk : Int) + 1))).setCell ⟨g, m * 9 + 2, none⟩ (.int .i64 ((kk : Int) + 1 + 1)) = V := ⟨_, rfl⟩
        rw [hV1] at k0 gw0
        have HV1 : Hid (((w0.setCell ⟨g, m * 9, none⟩ (.string T0)).setCell ⟨g, m * 9 + 1, none⟩ (.int .i64 ((kk : Int) + 1))).setCell ⟨g, m * 9 + 2, none⟩ (.int .i64 ((kk : Int) + 1 + 1)) = V1) := hV1
        have lg1 : g < V1.heap.size := (Array.getElem?_eq_some_iff.1 k0).1
        have HG1 : Hid (V1.heap[g]? = some (.cells ((((C.setIfInBounds (m * 9) (.string T0)).setIfInBounds (m * 9 + 1) (.int .i64 ((kk : Int) + 1))).setIfInBounds (m * 9 + 2) (.int .i64 ((kk : Int) + 1 + 1)))) 33 (0, 0))) := k0
        clear hV1 k0 hg0 b0 c0
        go_wp2_with fail
        try rw [HV1.out]
        refine (c3 _).mono ?_
        rintro e w1 ⟨rfl, b1⟩
        have hg1 := (b1.block g lg1).trans HG1.out
        have hsz1 : ((((C.setIfInBounds (m * 9) (.string T0)).setIfInBounds (m * 9 + 1) (.int .i64 ((kk : Int) + 1))).setIfInBounds (m * 9 + 2) (.int .i64 ((kk : Int) + 1 + 1)))).size = cap * 9 := by simp [hC]
        obtain ⟨cv3, hcv3⟩ : ∃ cv, w1.cell? ⟨g, m * 9 + 3, none⟩ = some cv := ⟨_, (cell_of w1 _ _ _ _ hg1).trans (Array.getElem?_eq_getElem (by omega))⟩
        have f3 : w1.frozen? ⟨g, m * 9 + 3, none⟩ = false := by simp [World.frozen?, hg1]
        have k1 := set_heap w1 g (m * 9 + 3) _ _ _ (.string T3) hg1
        have gw1 : w.grownBy (w1.setCell ⟨g, m * 9 + 3, none⟩ (.string T3)) (some g) := grown_setEnt gw0 b1 _ _
        obtain ⟨V2, hV2⟩ : ∃ V, w1.setCell ⟨g, m * 9 + 3, none⟩ (.string T3) = V := ⟨_, rfl⟩
        rw [hV2] at k1 gw1
        have HV2 : Hid (w1.setCell ⟨g, m * 9 + 3, none⟩ (.string T3) = V2) := hV2
        have lg2 : g < V2.heap.size := (Array.getElem?_eq_some_iff.1 k1).1
        have HG2 : Hid (V2.heap[g]? = some (.cells (((((C.setIfInBounds (m * 9) (.string T0)).setIfInBounds (m * 9 + 1) (.int .i64 ((kk : Int) + 1))).setIfInBounds (m * 9 + 2) (.int .i64 ((kk : Int) + 1 + 1))).setIfInBounds (m * 9 + 3) (.string T3))) 33 (0, 0))) := k1
        clear hV2 k1 hg1 b1 c3
        go_wp2_with fail
        try rw [HV2.out]
        refine (c4 _).mono ?_
        rintro e w2 ⟨rfl, b2⟩
        have hg2 := (b2.block g lg2).trans HG2.out
        have hsz2 : (((((C.setIfInBounds (m * 9) (.string T0)).setIfInBounds (m * 9 + 1) (.int .i64 ((kk : Int) + 1))).setIfInBounds (m * 9 + 2) (.int .i64 ((kk : Int) + 1 + 1))).setIfInBounds (m * 9 + 3) (.string T3))).size = cap * 9 := by simp [hC]
        obtain ⟨cv4, hcv4⟩ : ∃ cv, w2.cell? ⟨g, m * 9 + 4, none⟩ = some cv := ⟨_, (cell_of w2 _ _ _ _ hg2).trans (Array.getElem?_eq_getElem (by omega))⟩
        have f4 : w2.frozen? ⟨g, m * 9 + 4, none⟩ = false := by simp [World.frozen?, hg2]
        have k2 := set_heap w2 g (m * 9 + 4) _ _ _ (.string T4) hg2
        have gw2 : w.grownBy (w2.setCell ⟨g, m * 9 + 4, none⟩ (.string T4)) (some g) := grown_setEnt gw1 b2 _ _
        obtain ⟨V3, hV3⟩ : ∃ V, w2.setCell ⟨g, m * 9 + 4, none⟩ (.string T4) = V := ⟨_, rfl⟩
        rw [hV3] at k2 gw2
        have HV3 : Hid (w2.setCell ⟨g, m * 9 + 4, none⟩ (.string T4) = V3) := hV3
        have lg3 : g < V3.heap.size := (Array.getElem?_eq_some_iff.1 k2).1
        have HG3 : Hid (V3.heap[g]? = some (.cells ((((((C.setIfInBounds (m * 9) (.string T0)).setIfInBounds (m * 9 + 1) (.int .i64 ((kk : Int) + 1))).setIfInBounds (m * 9 + 2) (.int .i64 ((kk : Int) + 1 + 1))).setIfInBounds (m * 9 + 3) (.string T3)).setIfInBounds (m * 9 + 4) (.string T4))) 33 (0, 0))) := k2
        clear hV3 k2 hg2 b2 c4
        go_wp2_with fail
        try rw [HV3.out]
        refine (c5 _).mono ?_
        rintro e w3 ⟨rfl, b3⟩
        have hg3 := (b3.block g lg3).trans HG3.out
        have hsz3 : ((((((C.setIfInBounds (m * 9) (.string T0)).setIfInBounds (m * 9 + 1) (.int .i64 ((kk : Int) + 1))).setIfInBounds (m * 9 + 2) (.int .i64 ((kk : Int) + 1 + 1))).setIfInBounds (m * 9 + 3) (.string T3)).setIfInBounds (m * 9 + 4) (.string T4))).size = cap * 9 := by simp [hC]
        obtain ⟨cv5, hcv5⟩ : ∃ cv, w3.cell? ⟨g, m * 9 + 5, none⟩ = some cv := ⟨_, (cell_of w3 _ _ _ _ hg3).trans (Array.getElem?_eq_getElem (by omega))⟩
        have f5 : w3.frozen? ⟨g, m * 9 + 5, none⟩ = false := by simp [World.frozen?, hg3]
        have k3 := set_heap w3 g (m * 9 + 5) _ _ _ (.string T5) hg3
        have gw3 : w.grownBy (w3.setCell ⟨g, m * 9 + 5, none⟩ (.string T5)) (some g) := grown_setEnt gw2 b3 _ _
        obtain ⟨V4, hV4⟩ : ∃ V, w3.setCell ⟨g, m * 9 + 5, none⟩ (.string T5) = V := ⟨_, rfl⟩
        rw [hV4] at k3 gw3
        have HV4 : Hid (w3.setCell ⟨g, m * 9 + 5, none⟩ (.string T5) = V4) := hV4
        have lg4 : g < V4.heap.size := (Array.getElem?_eq_some_iff.1 k3).1
        have HG4 : Hid (V4.heap[g]? = some (.cells (((((((C.setIfInBounds (m * 9) (.string T0)).setIfInBounds (m * 9 + 1) (.int .i64 ((kk : Int) + 1))).setIfInBounds (m * 9 + 2) (.int .i64 ((kk : Int) + 1 + 1))).setIfInBounds (m * 9 + 3) (.string T3)).setIfInBounds (m * 9 + 4) (.string T4)).setIfInBounds (m * 9 + 5) (.string T5))) 33 (0, 0))) := k3
        clear hV4 k3 hg3 b3 c5
        go_wp2_with fail
        try rw [HV4.out]
        refine (c6 _).mono ?_
        rintro e w4 ⟨rfl, b4⟩
        have hg4 := (b4.block g lg4).trans HG4.out
        have hsz4 : (((((((C.setIfInBounds (m * 9) (.string T0)).setIfInBounds (m * 9 + 1) (.int .i64 ((kk : Int) + 1))).setIfInBounds (m * 9 + 2) (.int .i64 ((kk : Int) + 1 + 1))).setIfInBounds (m * 9 + 3) (.string T3)).setIfInBounds (m * 9 + 4) (.string T4)).setIfInBounds (m * 9 + 5) (.string T5))).size = cap * 9 := by simp [hC]
        obtain ⟨cv6, hcv6⟩ : ∃ cv, w4.cell? ⟨g, m * 9 + 6, none⟩ = some cv := ⟨_, (cell_of w4 _ _ _ _ hg4).trans (Array.getElem?_eq_getElem (by omega))⟩
        have f6 : w4.frozen? ⟨g, m * 9 + 6, none⟩ = false := by simp [World.frozen?, hg4]
        have k4 := set_heap w4 g (m * 9 + 6) _ _ _ (.string T6) hg4
        have gw4 : w.grownBy (w4.setCell ⟨g, m * 9 + 6, none⟩ (.string T6)) (some g) := grown_setEnt gw3 b4 _ _
        obtain ⟨V5, hV5⟩ : ∃ V, w4.setCell ⟨g, m * 9 + 6, none⟩ (.string T6) = V := ⟨_, rfl⟩
        rw [hV5] at k4 gw4
        have HV5 : Hid (w4.setCell ⟨g, m * 9 + 6, none⟩ (.string T6) = V5) := hV5
        have lg5 : g < V5.heap.size := (Array.getElem?_eq_some_iff.1 k4).1
        have HG5 : Hid (V5.heap[g]? = some (.cells ((((((((C.setIfInBounds (m * 9) (.string T0)).setIfInBounds (m * 9 + 1) (.int .i64 ((kk : Int) + 1))).setIfInBounds (m * 9 + 2) (.int .i64 ((kk : Int) + 1 + 1))).setIfInBounds (m * 9 + 3) (.string T3)).setIfInBounds (m * 9 + 4) (.string T4)).setIfInBounds (m * 9 + 5) (.string T5)).setIfInBounds (m * 9 + 6) (.string T6))) 33 (0, 0))) := k4
        clear hV5 k4 hg4 b4 c6
        go_wp2_with fail
        try rw [HV5.out]
        refine (c7 _).mono ?_
        rintro e w5 ⟨rfl, b5⟩
        have hg5 := (b5.block g lg5).trans HG5.out
        have hsz5 : ((((((((C.setIfInBounds (m * 9) (.string T0)).setIfInBounds (m * 9 + 1) (.int .i64 ((kk : Int) + 1))).setIfInBounds (m * 9 + 2) (.int .i64 ((kk : Int) + 1 + 1))).setIfInBounds (m * 9 + 3) (.string T3)).setIfInBounds (m * 9 + 4) (.string T4)).setIfInBounds (m * 9 + 5) (.string T5)).setIfInBounds (m * 9 + 6) (.string T6))).size = cap * 9 := by simp [hC]
        obtain ⟨cv7, hcv7⟩ : ∃ cv, w5.cell? ⟨g, m * 9 + 7, none⟩ = some cv := ⟨_, (cell_of w5 _ _ _ _ hg5).trans (Array.getElem?_eq_getElem (by omega))⟩
        have f7 : w5.frozen? ⟨g, m * 9 + 7, none⟩ = false := by simp [World.frozen?, hg5]
        obtain ⟨cv8, hcv8⟩ : ∃ cv, w5.cell? ⟨g, m * 9 + 8, none⟩ = some cv := ⟨_, (cell_of w5 _ _ _ _ hg5).trans (Array.getElem?_eq_getElem (by omega))⟩
        have f8 : w5.frozen? ⟨g, m * 9 + 8, none⟩ = false := by simp [World.frozen?, hg5]
        have k5 := set_heap _ g (m * 9 + 8) _ _ _ (.int .i64 ((kk : Int) + 1 + 1 + 1 + 1 + 1 + 1 + 1 + 1)) (set_heap w5 g (m * 9 + 7) _ _ _ (.string T7) hg5)
        have gw5 : w.grownBy ((w5.setCell ⟨g, m * 9 + 7, none⟩ (.string T7)).setCell ⟨g, m * 9 + 8, none⟩ (.int .i64 ((kk : Int) + 1 + 1 + 1 + 1 + 1 + 1 + 1 + 1))) (some g) := grown_againEnt (grown_setEnt gw4 b5 _ _) _ _
        obtain ⟨V6, hV6⟩ : ∃ V, (w5.setCell ⟨g, m * 9 + 7, none⟩ (.string T7)).setCell ⟨g, m * 9 + 8, none⟩ (.int .i64 ((kk : Int) + 1 + 1 + 1 + 1 + 1 + 1 + 1 + 1)) = V := ⟨_, rfl⟩
        rw [hV6] at k5 gw5
        have HV6 : Hid ((w5.setCell ⟨g, m * 9 + 7, none⟩ (.string T7)).setCell ⟨g, m * 9 + 8, none⟩ (.int .i64 ((kk : Int) + 1 + 1 + 1 + 1 + 1 + 1 + 1 + 1)) = V6) := hV6
        have lg6 : g < V6.heap.size := (Array.getElem?_eq_some_iff.1 k5).1
        have HG6 : Hid (V6.heap[g]? = some (.cells ((((((((((C.setIfInBounds (m * 9) (.string T0)).setIfInBounds (m * 9 + 1) (.int .i64 ((kk : Int) + 1))).setIfInBounds (m * 9 + 2) (.int .i64 ((kk : Int) + 1 + 1))).setIfInBounds (m * 9 + 3) (.string T3)).setIfInBounds (m * 9 + 4) (.string T4)).setIfInBounds (m * 9 + 5) (.string T5)).setIfInBounds (m * 9 + 6) (.string T6)).setIfInBounds (m * 9 + 7) (.string T7)).setIfInBounds (m * 9 + 8) (.int .i64 ((kk : Int) + 1 + 1 + 1 + 1 + 1 + 1 + 1 + 1)))) 33 (0, 0))) := k5
        clear hV6 k5 hg5 b5 c7
        go_wp2_with fail
        try rw [HV6.out]
        refine ⟨⟨m + 1, _, by omega, ?_, by go_num, HG6.out, by simp [hC], fun j hj => ?_, gw5⟩, by simp [intOf]; omega⟩
        · first | rfl | exact congrArg (Value.int .i64) (by have := HK.out; first | omega | (unfold wrap64; omega))
        · rw [putEntX C (m * 9) _ _ _ _ _ _ _ _ _ (by omega), putEntX C (m * 9) _ _ _ _ _ _ _ _ _ (by omega), putEntX C (m * 9) _ _ _ _ _ _ _ _ _ (by omega), putEntX C (m * 9) _ _ _ _ _ _ _ _ _ (by omega), putEntX C (m * 9) _ _ _ _ _ _ _ _ _ (by omega), putEntX C (m * 9) _ _ _ _ _ _ _ _ _ (by omega), putEntX C (m * 9) _ _ _ _ _ _ _ _ _ (by omega), putEntX C (m * 9) _ _ _ _ _ _ _ _ _ (by omega), putEntX C (m * 9) _ _ _ _ _ _ _ _ _ (by omega)]
          by_cases hjm : j = m
          · subst hjm
            have ht := HT.out
            rw [HK.out] at ht
            unfold markEntX
            simp only [if_true, ht.1, ht.2.1, ht.2.2.1, ht.2.2.2.1, ht.2.2.2.2.1, ht.2.2.2.2.2]
            have hkq := HK.out
            refine ⟨?_, ?_, ?_, ?_, ?_, ?_, ?_, ?_, ?_⟩
            all_goals (simp <;> omega)
          · rw [if_neg (by omega), if_neg (by omega), if_neg (by omega), if_neg (by omega), if_neg (by omega), if_neg (by omega), if_neg (by omega), if_neg (by omega), if_neg (by omega), if_neg (by omega), if_neg (by omega), if_neg (by omega), if_neg (by omega), if_neg (by omega), if_neg (by omega), if_neg (by omega), if_neg (by omega), if_neg (by omega), if_neg (by omega), if_neg (by omega), if_neg (by omega), if_neg (by omega), if_neg (by omega), if_neg (by omega), if_neg (by omega), if_neg (by omega), if_neg (by omega), if_neg (by omega), if_neg (by omega), if_neg (by omega), if_neg (by omega), if_neg (by omega), if_neg (by omega), if_neg (by omega), if_neg (by omega), if_neg (by omega), if_neg (by omega), if_neg (by omega), if_neg (by omega), if_neg (by omega), if_neg (by omega), if_neg (by omega), if_neg (by omega), if_neg (by omega), if_neg (by omega), if_neg (by omega), if_neg (by omega), if_neg (by omega), if_neg (by omega), if_neg (by omega), if_neg (by omega), if_neg (by omega), if_neg (by omega), if_neg (by omega), if_neg (by omega), if_neg (by omega), if_neg (by omega), if_neg (by omega), if_neg (by omega), if_neg (by omega), if_neg (by omega), if_neg (by omega), if_neg (by omega), if_neg (by omega), if_neg (by omega), if_neg (by omega), if_neg (by omega), if_neg (by omega), if_neg (by omega), if_neg (by omega), if_neg (by omega), if_neg (by omega), if_neg (by omega), if_neg (by omega), if_neg (by omega), if_neg (by omega), if_neg (by omega), if_neg (by omega), if_neg (by omega), if_neg (by omega), if_neg (by omega)]
            exact HA.out j (by omega)
      · obtain rfl : m = n := by omega
        go_wp2_with fail
        go_ret
        exact ⟨rfl, ownEnt_of hb hgr hc hM' hC HA.out, gw⟩

set_option maxRecDepth 100000 in
set_option maxHeartbeats 4000000 in
theorem heldEntryS_any (v : Value) (n k : Nat) (w : World) (hm : EntsAt w v n (fun j => markEntX (k + 9 * j))) (hn : n ≤ 1048600) (hk : k ≤ 10) (hR : 9 * n ≤ 30000000) :
    Calls Try.prog 10 #[v, .int .i64 k] w fun e w' => e = .returned (.int .i64 ((k + 9 * n : Nat) : Int)) ∧ Below w.heap.size w w' := by
  obtain ⟨o, cap, rfl, g1, g2', hc⟩ := hm
  have g2 : cap ≤ 9223372036854775807 := g2'
  have HC : Hid (∀ j, j < n → ∃ b f : Nat, o = some ⟨b, f, none⟩ ∧ b < w.heap.size ∧ w.cell? ⟨b, f + j * 9, none⟩ = some (.string (markT ((k + 9 * j)))) ∧ w.cell? ⟨b, f + j * 9 + 1, none⟩ = some (.int .i64 (((k + 9 * j) + 1 : Nat) : Int)) ∧ w.cell? ⟨b, f + j * 9 + 2, none⟩ = some (.int .i64 (((k + 9 * j) + 2 : Nat) : Int)) ∧ w.cell? ⟨b, f + j * 9 + 3, none⟩ = some (.string (markT ((k + 9 * j) + 3))) ∧ w.cell? ⟨b, f + j * 9 + 4, none⟩ = some (.string (markT ((k + 9 * j) + 4))) ∧ w.cell? ⟨b, f + j * 9 + 5, none⟩ = some (.string (markT ((k + 9 * j) + 5))) ∧ w.cell? ⟨b, f + j * 9 + 6, none⟩ = some (.string (markT ((k + 9 * j) + 6))) ∧ w.cell? ⟨b, f + j * 9 + 7, none⟩ = some (.string (markT ((k + 9 * j) + 7))) ∧ w.cell? ⟨b, f + j * 9 + 8, none⟩ = some (.int .i64 (((k + 9 * j) + 8 : Nat) : Int))) := hc
  clear hc g2'
  go_enter Try.func10, Try.ntmps10
  go_wp2_with fail
  go_loopw [1, 5] (fun l i wr => ∃ m : Nat, m ≤ n ∧ l = .int .i64 ((k + 9 * m : Nat) : Int) ∧ i = .int .i64 m ∧ Below w.heap.size w wr) (fun _ i _ => n - (intOf i).toNat)
  case atStart => exact ⟨0, Nat.zero_le _, rfl, rfl, Below.refl _ _⟩
  case round =>
    obtain ⟨m, hm, rfl, rfl, bw⟩ := hrel
    by_cases hlt : m < n
    · have i1 : (0 : Int) ≤ (m : Int) := by omega
      have i2 : (m : Int) < (n : Int) := by omega
      obtain ⟨b, f, rfl, hb, e0, e1, e2, e3, e4, e5, e6, e7, e8⟩ := HC.out m hlt
      obtain ⟨kk, hkk⟩ : ∃ kk, kk = k + 9 * m := ⟨_, rfl⟩
      rw [← hkk] at e0 e1 e2 e3 e4 e5 e6 e7 e8
      rw [show (((kk + 1 : Nat) : Int)) = (kk : Int) + 1 by omega] at e1
      have qi1 : (((kk : Int) + 1) != ((kk : Int) + 1)) = false := bne_self_eq_false _
      rw [show (((kk + 2 : Nat) : Int)) = (kk : Int) + 1 + 1 by omega] at e2
      have qi2 : (((kk : Int) + 1 + 1) != ((kk : Int) + 1 + 1)) = false := bne_self_eq_false _
      rw [show (((kk + 8 : Nat) : Int)) = (kk : Int) + 1 + 1 + 1 + 1 + 1 + 1 + 1 + 1 by omega] at e8
      have qi8 : (((kk : Int) + 1 + 1 + 1 + 1 + 1 + 1 + 1 + 1) != ((kk : Int) + 1 + 1 + 1 + 1 + 1 + 1 + 1 + 1)) = false := bne_self_eq_false _
      have c0 : ∀ W, Calls Try.prog 17 #[.int .i64 ((kk : Int))] W fun e w' => e = .returned (.string (markT (kk))) ∧ Below W.heap.size W w' := fun W => by
        skip
        exact markText_any (kk) (by omega) W
      obtain ⟨T0, hT0⟩ : ∃ T, markT (kk) = T := ⟨_, rfl⟩
      rw [hT0] at c0 e0
      have hq0 : (T0.toList != T0.toList) = false := bne_self_eq_false _
      have c3 : ∀ W, Calls Try.prog 17 #[.int .i64 ((kk : Int) + 1 + 1 + 1)] W fun e w' => e = .returned (.string (markT (kk + 3))) ∧ Below W.heap.size W w' := fun W => by
        rw [show ((kk : Int) + 1 + 1 + 1) = ((kk + 3 : Nat) : Int) by omega]
        exact markText_any (kk + 3) (by omega) W
      obtain ⟨T3, hT3⟩ : ∃ T, markT (kk + 3) = T := ⟨_, rfl⟩
      rw [hT3] at c3 e3
      have hq3 : (T3.toList != T3.toList) = false := bne_self_eq_false _
      have c4 : ∀ W, Calls Try.prog 17 #[.int .i64 ((kk : Int) + 1 + 1 + 1 + 1)] W fun e w' => e = .returned (.string (markT (kk + 4))) ∧ Below W.heap.size W w' := fun W => by
        rw [show ((kk : Int) + 1 + 1 + 1 + 1) = ((kk + 4 : Nat) : Int) by omega]
        exact markText_any (kk + 4) (by omega) W
      obtain ⟨T4, hT4⟩ : ∃ T, markT (kk + 4) = T := ⟨_, rfl⟩
      rw [hT4] at c4 e4
      have hq4 : (T4.toList != T4.toList) = false := bne_self_eq_false _
      have c5 : ∀ W, Calls Try.prog 17 #[.int .i64 ((kk : Int) + 1 + 1 + 1 + 1 + 1)] W fun e w' => e = .returned (.string (markT (kk + 5))) ∧ Below W.heap.size W w' := fun W => by
        rw [show ((kk : Int) + 1 + 1 + 1 + 1 + 1) = ((kk + 5 : Nat) : Int) by omega]
        exact markText_any (kk + 5) (by omega) W
      obtain ⟨T5, hT5⟩ : ∃ T, markT (kk + 5) = T := ⟨_, rfl⟩
      rw [hT5] at c5 e5
      have hq5 : (T5.toList != T5.toList) = false := bne_self_eq_false _
      have c6 : ∀ W, Calls Try.prog 17 #[.int .i64 ((kk : Int) + 1 + 1 + 1 + 1 + 1 + 1)] W fun e w' => e = .returned (.string (markT (kk + 6))) ∧ Below W.heap.size W w' := fun W => by
        rw [show ((kk : Int) + 1 + 1 + 1 + 1 + 1 + 1) = ((kk + 6 : Nat) : Int) by omega]
        exact markText_any (kk + 6) (by omega) W
      obtain ⟨T6, hT6⟩ : ∃ T, markT (kk + 6) = T := ⟨_, rfl⟩
      rw [hT6] at c6 e6
      have hq6 : (T6.toList != T6.toList) = false := bne_self_eq_false _
      have c7 : ∀ W, Calls Try.prog 17 #[.int .i64 ((kk : Int) + 1 + 1 + 1 + 1 + 1 + 1 + 1)] W fun e w' => e = .returned (.string (markT (kk + 7))) ∧ Below W.heap.size W w' := fun W => by
        rw [show ((kk : Int) + 1 + 1 + 1 + 1 + 1 + 1 + 1) = ((kk + 7 : Nat) : Int) by omega]
        exact markText_any (kk + 7) (by omega) W
      obtain ⟨T7, hT7⟩ : ∃ T, markT (kk + 7) = T := ⟨_, rfl⟩
      rw [hT7] at c7 e7
      have hq7 : (T7.toList != T7.toList) = false := bne_self_eq_false _
      have z1 : IntKind.i64.wrap ((kk : Int) + 1) = (kk : Int) + 1 := by rw [IntKind.wrap_i64]; omega
      have z2 : IntKind.i64.wrap ((kk : Int) + 1 + 1) = (kk : Int) + 1 + 1 := by rw [IntKind.wrap_i64]; omega
      have z3 : IntKind.i64.wrap ((kk : Int) + 1 + 1 + 1) = (kk : Int) + 1 + 1 + 1 := by rw [IntKind.wrap_i64]; omega
      have z4 : IntKind.i64.wrap ((kk : Int) + 1 + 1 + 1 + 1) = (kk : Int) + 1 + 1 + 1 + 1 := by rw [IntKind.wrap_i64]; omega
      have z5 : IntKind.i64.wrap ((kk : Int) + 1 + 1 + 1 + 1 + 1) = (kk : Int) + 1 + 1 + 1 + 1 + 1 := by rw [IntKind.wrap_i64]; omega
      have z6 : IntKind.i64.wrap ((kk : Int) + 1 + 1 + 1 + 1 + 1 + 1) = (kk : Int) + 1 + 1 + 1 + 1 + 1 + 1 := by rw [IntKind.wrap_i64]; omega
      have z7 : IntKind.i64.wrap ((kk : Int) + 1 + 1 + 1 + 1 + 1 + 1 + 1) = (kk : Int) + 1 + 1 + 1 + 1 + 1 + 1 + 1 := by rw [IntKind.wrap_i64]; omega
      have z8 : IntKind.i64.wrap ((kk : Int) + 1 + 1 + 1 + 1 + 1 + 1 + 1 + 1) = (kk : Int) + 1 + 1 + 1 + 1 + 1 + 1 + 1 + 1 := by rw [IntKind.wrap_i64]; omega
      have z9 : IntKind.i64.wrap ((kk : Int) + 1 + 1 + 1 + 1 + 1 + 1 + 1 + 1 + 1) = ((k + 9 * (m + 1) : Nat) : Int) := by rw [IntKind.wrap_i64, hkk]; omega
      rw [← hkk]
      have HK : Hid (kk = k + 9 * m) := hkk
      have NEW : Hid (∀ W : World, Below w.heap.size w W → W.cell? ⟨b, f + m * 9, none⟩ = some (.string T0) ∧ W.cell? ⟨b, f + m * 9 + 1, none⟩ = some (.int .i64 ((kk : Int) + 1)) ∧ W.cell? ⟨b, f + m * 9 + 2, none⟩ = some (.int .i64 ((kk : Int) + 1 + 1)) ∧ W.cell? ⟨b, f + m * 9 + 3, none⟩ = some (.string T3) ∧ W.cell? ⟨b, f + m * 9 + 4, none⟩ = some (.string T4) ∧ W.cell? ⟨b, f + m * 9 + 5, none⟩ = some (.string T5) ∧ W.cell? ⟨b, f + m * 9 + 6, none⟩ = some (.string T6) ∧ W.cell? ⟨b, f + m * 9 + 7, none⟩ = some (.string T7) ∧ W.cell? ⟨b, f + m * 9 + 8, none⟩ = some (.int .i64 ((kk : Int) + 1 + 1 + 1 + 1 + 1 + 1 + 1 + 1))) := fun W bb => ⟨(bb.cell (p := ⟨b, f + m * 9, none⟩) hb).trans e0, (bb.cell (p := ⟨b, f + m * 9 + 1, none⟩) hb).trans e1, (bb.cell (p := ⟨b, f + m * 9 + 2, none⟩) hb).trans e2, (bb.cell (p := ⟨b, f + m * 9 + 3, none⟩) hb).trans e3, (bb.cell (p := ⟨b, f + m * 9 + 4, none⟩) hb).trans e4, (bb.cell (p := ⟨b, f + m * 9 + 5, none⟩) hb).trans e5, (bb.cell (p := ⟨b, f + m * 9 + 6, none⟩) hb).trans e6, (bb.cell (p := ⟨b, f + m * 9 + 7, none⟩) hb).trans e7, (bb.cell (p := ⟨b, f + m * 9 + 8, none⟩) hb).trans e8⟩
      clear hkk hT0 hT3 hT4 hT5 hT6 hT7  e0 e1 e2 e3 e4 e5 e6 e7 e8
      have bd0 : Below w.heap.size w wr.drew := bw.drew
      obtain ⟨e0, e1, e2, e3, e4, e5, e6, e7, e8⟩ := NEW.out _ bw
      go_wp2_with fail
      go_region_held3 (fun W => W.cell? ⟨b, f + m * 9, none⟩ = some (.string T0) ∧ W.cell? ⟨b, f + m * 9 + 1, none⟩ = some (.int .i64 ((kk : Int) + 1)) ∧ W.cell? ⟨b, f + m * 9 + 2, none⟩ = some (.int .i64 ((kk : Int) + 1 + 1)) ∧ W.cell? ⟨b, f + m * 9 + 3, none⟩ = some (.string T3) ∧ W.cell? ⟨b, f + m * 9 + 4, none⟩ = some (.string T4) ∧ W.cell? ⟨b, f + m * 9 + 5, none⟩ = some (.string T5) ∧ W.cell? ⟨b, f + m * 9 + 6, none⟩ = some (.string T6) ∧ W.cell? ⟨b, f + m * 9 + 7, none⟩ = some (.string T7) ∧ W.cell? ⟨b, f + m * 9 + 8, none⟩ = some (.int .i64 ((kk : Int) + 1 + 1 + 1 + 1 + 1 + 1 + 1 + 1)))
        (first | exact NEW.out _ bz0 | exact NEW.out _ bd0 | go_keep)
        (first
          | (go_at_call 17; refine (c0 _).mono ?_; rintro e w0 ⟨rfl, b0⟩; have bz0 : Below w.heap.size w w0 := bd0.trans (b0.mono bd0.size)))
      clear e0 e1 e2 e3 e4 e5 e6 e7 e8
      have bd1 : Below w.heap.size w w0.drew := bz0.drew
      obtain ⟨e0, e1, e2, e3, e4, e5, e6, e7, e8⟩ := NEW.out _ bz0
      go_wp2_with fail
      go_region_held3 (fun W => W.cell? ⟨b, f + m * 9, none⟩ = some (.string T0) ∧ W.cell? ⟨b, f + m * 9 + 1, none⟩ = some (.int .i64 ((kk : Int) + 1)) ∧ W.cell? ⟨b, f + m * 9 + 2, none⟩ = some (.int .i64 ((kk : Int) + 1 + 1)) ∧ W.cell? ⟨b, f + m * 9 + 3, none⟩ = some (.string T3) ∧ W.cell? ⟨b, f + m * 9 + 4, none⟩ = some (.string T4) ∧ W.cell? ⟨b, f + m * 9 + 5, none⟩ = some (.string T5) ∧ W.cell? ⟨b, f + m * 9 + 6, none⟩ = some (.string T6) ∧ W.cell? ⟨b, f + m * 9 + 7, none⟩ = some (.string T7) ∧ W.cell? ⟨b, f + m * 9 + 8, none⟩ = some (.int .i64 ((kk : Int) + 1 + 1 + 1 + 1 + 1 + 1 + 1 + 1)))
        (first | exact NEW.out _ bz1 | exact NEW.out _ bd1 | go_keep)
        (first
          | (go_at_call 17; refine (c3 _).mono ?_; rintro e w1 ⟨rfl, b1⟩; have bz1 : Below w.heap.size w w1 := bd1.trans (b1.mono bd1.size)))
      clear e0 e1 e2 e3 e4 e5 e6 e7 e8
      have bd2 : Below w.heap.size w w1.drew := bz1.drew
      obtain ⟨e0, e1, e2, e3, e4, e5, e6, e7, e8⟩ := NEW.out _ bz1
      go_wp2_with fail
      go_region_held3 (fun W => W.cell? ⟨b, f + m * 9, none⟩ = some (.string T0) ∧ W.cell? ⟨b, f + m * 9 + 1, none⟩ = some (.int .i64 ((kk : Int) + 1)) ∧ W.cell? ⟨b, f + m * 9 + 2, none⟩ = some (.int .i64 ((kk : Int) + 1 + 1)) ∧ W.cell? ⟨b, f + m * 9 + 3, none⟩ = some (.string T3) ∧ W.cell? ⟨b, f + m * 9 + 4, none⟩ = some (.string T4) ∧ W.cell? ⟨b, f + m * 9 + 5, none⟩ = some (.string T5) ∧ W.cell? ⟨b, f + m * 9 + 6, none⟩ = some (.string T6) ∧ W.cell? ⟨b, f + m * 9 + 7, none⟩ = some (.string T7) ∧ W.cell? ⟨b, f + m * 9 + 8, none⟩ = some (.int .i64 ((kk : Int) + 1 + 1 + 1 + 1 + 1 + 1 + 1 + 1)))
        (first | exact NEW.out _ bz2 | exact NEW.out _ bd2 | go_keep)
        (first
          | (go_at_call 17; refine (c4 _).mono ?_; rintro e w2 ⟨rfl, b2⟩; have bz2 : Below w.heap.size w w2 := bd2.trans (b2.mono bd2.size)))
      clear e0 e1 e2 e3 e4 e5 e6 e7 e8
      have bd3 : Below w.heap.size w w2.drew := bz2.drew
      obtain ⟨e0, e1, e2, e3, e4, e5, e6, e7, e8⟩ := NEW.out _ bz2
      go_wp2_with fail
      go_region_held3 (fun W => W.cell? ⟨b, f + m * 9, none⟩ = some (.string T0) ∧ W.cell? ⟨b, f + m * 9 + 1, none⟩ = some (.int .i64 ((kk : Int) + 1)) ∧ W.cell? ⟨b, f + m * 9 + 2, none⟩ = some (.int .i64 ((kk : Int) + 1 + 1)) ∧ W.cell? ⟨b, f + m * 9 + 3, none⟩ = some (.string T3) ∧ W.cell? ⟨b, f + m * 9 + 4, none⟩ = some (.string T4) ∧ W.cell? ⟨b, f + m * 9 + 5, none⟩ = some (.string T5) ∧ W.cell? ⟨b, f + m * 9 + 6, none⟩ = some (.string T6) ∧ W.cell? ⟨b, f + m * 9 + 7, none⟩ = some (.string T7) ∧ W.cell? ⟨b, f + m * 9 + 8, none⟩ = some (.int .i64 ((kk : Int) + 1 + 1 + 1 + 1 + 1 + 1 + 1 + 1)))
        (first | exact NEW.out _ bz3 | exact NEW.out _ bd3 | go_keep)
        (first
          | (go_at_call 17; refine (c5 _).mono ?_; rintro e w3 ⟨rfl, b3⟩; have bz3 : Below w.heap.size w w3 := bd3.trans (b3.mono bd3.size)))
      clear e0 e1 e2 e3 e4 e5 e6 e7 e8
      have bd4 : Below w.heap.size w w3.drew := bz3.drew
      obtain ⟨e0, e1, e2, e3, e4, e5, e6, e7, e8⟩ := NEW.out _ bz3
      go_wp2_with fail
      go_region_held3 (fun W => W.cell? ⟨b, f + m * 9, none⟩ = some (.string T0) ∧ W.cell? ⟨b, f + m * 9 + 1, none⟩ = some (.int .i64 ((kk : Int) + 1)) ∧ W.cell? ⟨b, f + m * 9 + 2, none⟩ = some (.int .i64 ((kk : Int) + 1 + 1)) ∧ W.cell? ⟨b, f + m * 9 + 3, none⟩ = some (.string T3) ∧ W.cell? ⟨b, f + m * 9 + 4, none⟩ = some (.string T4) ∧ W.cell? ⟨b, f + m * 9 + 5, none⟩ = some (.string T5) ∧ W.cell? ⟨b, f + m * 9 + 6, none⟩ = some (.string T6) ∧ W.cell? ⟨b, f + m * 9 + 7, none⟩ = some (.string T7) ∧ W.cell? ⟨b, f + m * 9 + 8, none⟩ = some (.int .i64 ((kk : Int) + 1 + 1 + 1 + 1 + 1 + 1 + 1 + 1)))
        (first | exact NEW.out _ bz4 | exact NEW.out _ bd4 | go_keep)
        (first
          | (go_at_call 17; refine (c6 _).mono ?_; rintro e w4 ⟨rfl, b4⟩; have bz4 : Below w.heap.size w w4 := bd4.trans (b4.mono bd4.size)))
      clear e0 e1 e2 e3 e4 e5 e6 e7 e8
      have bd5 : Below w.heap.size w w4.drew := bz4.drew
      obtain ⟨e0, e1, e2, e3, e4, e5, e6, e7, e8⟩ := NEW.out _ bz4
      go_wp2_with fail
      go_region_held3 (fun W => W.cell? ⟨b, f + m * 9, none⟩ = some (.string T0) ∧ W.cell? ⟨b, f + m * 9 + 1, none⟩ = some (.int .i64 ((kk : Int) + 1)) ∧ W.cell? ⟨b, f + m * 9 + 2, none⟩ = some (.int .i64 ((kk : Int) + 1 + 1)) ∧ W.cell? ⟨b, f + m * 9 + 3, none⟩ = some (.string T3) ∧ W.cell? ⟨b, f + m * 9 + 4, none⟩ = some (.string T4) ∧ W.cell? ⟨b, f + m * 9 + 5, none⟩ = some (.string T5) ∧ W.cell? ⟨b, f + m * 9 + 6, none⟩ = some (.string T6) ∧ W.cell? ⟨b, f + m * 9 + 7, none⟩ = some (.string T7) ∧ W.cell? ⟨b, f + m * 9 + 8, none⟩ = some (.int .i64 ((kk : Int) + 1 + 1 + 1 + 1 + 1 + 1 + 1 + 1)))
        (first | exact NEW.out _ bz5 | exact NEW.out _ bd5 | go_keep)
        (first
          | (go_at_call 17; refine (c7 _).mono ?_; rintro e w5 ⟨rfl, b5⟩; have bz5 : Below w.heap.size w w5 := bd5.trans (b5.mono bd5.size)))
      clear e0 e1 e2 e3 e4 e5 e6 e7 e8
      obtain ⟨e0, e1, e2, e3, e4, e5, e6, e7, e8⟩ := NEW.out _ bz5
      go_wp2_with fail
      refine ⟨⟨m + 1, by omega, ?_, by go_num, bz5⟩, by simp [intOf]; omega⟩
      first | rfl | exact congrArg (Value.int .i64) (by have := HK.out; first | omega | (unfold wrap64; omega))
    · obtain rfl : m = n := by omega
      go_wp2_with fail
      go_ret
      exact ⟨rfl, bw⟩
end Go.Proofs.Ytkmagkpieihcgaa.Hub
