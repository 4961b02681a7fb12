/-
  The law's own markAccountS, heldAccountS: what is marked is held, and nothing else is written.
-/
import Derived.Test.YtkfdggcccegmlaaAccBase
import Derived.Test.YtkfdggcccegmlaaMarks
namespace Go.Proofs.Ytkfdggcccegmlaa.Hub
open Go.RowKit
set_option linter.unusedVariables false

theorem own_row {W : World} {base g n cap : Nat} {C : Array Value} {U N : Nat → ByteArray} (hb : base ≤ g) (hg : W.heap[g]? = some (.cells C 43 (0, 0))) (hc : n ≤ cap) (hM : cap ≤ maxLen) (hC : C.size = cap * 2) (hA : ∀ j, j < n → C[j * 2]? = some (.string (U j)) ∧ C[j * 2 + 1]? = some (.string (N j))) : OwnA W base (.slice (some ⟨g, 0, none⟩) n cap) n U N := by
  refine ⟨accVs_len U N n, .inr ⟨g, cap, C, rfl, hb, hg, hc, hM, hC, ?_⟩⟩
  apply List.ext_getElem?
  intro i
  rw [List.getElem?_take]
  by_cases hi : i < n * 2
  · rw [if_pos hi, Array.getElem?_toList]
    by_cases hp : i % 2 = 0
    · have e : i = (i / 2) * 2 := by omega
      rw [e, (hA (i / 2) (by omega)).1, (accVs_at U N n (i / 2) (by omega)).1]
    · have e : i = (i / 2) * 2 + 1 := by omega
      rw [e, (hA (i / 2) (by omega)).2, (accVs_at U N n (i / 2) (by omega)).2]
  · rw [if_neg hi, List.getElem?_eq_none (by rw [accVs_len]; omega)]

set_option maxRecDepth 100000 in
set_option maxHeartbeats 2000000 in
theorem markAccountS_any (base : Nat) (v : Value) (n k : Nat) (U N : Nat → ByteArray) (w : World) (hm : OwnA w base v n U N) (hn : n ≤ 1048600) (hk : k ≤ 10) :
    Calls Try.prog 10 #[v, .int .i64 k] w fun e w' => e = .returned (.int .i64 ((k + 2 * n : Nat) : Int)) ∧ OwnA w' base v n (fun j => markT (k + 2 * j)) (fun j => markT (k + 2 * j + 1)) ∧ w.grownBy w' v.ownBlock := by
  rcases hm.2 with ⟨rfl, rfl⟩ | ⟨g, cap, cur, rfl, hb, hg, hc, hM, hs, htk⟩
  · go_enter Try.func10, Try.ntmps10
    go_wp2_with fail
    go_loop [1, 5] (fun l i => l = .int .i64 k ∧ i = .int .i64 0) (fun _ _ => 0)
    case atStart => exact ⟨rfl, rfl⟩
    case round =>
      obtain ⟨rfl, rfl⟩ := hrel
      go_wp2_with fail
      go_ret
      exact ⟨rfl, ⟨rfl, .inl ⟨rfl, rfl⟩⟩, World.grownBy.refl _ _⟩
  · have hM' : cap ≤ 9223372036854775807 := hM
    have lg : g < w.heap.size := (Array.getElem?_eq_some_iff.1 hg).1
    clear hm htk hM
    go_enter Try.func10, Try.ntmps10
    go_wp2_with fail
    go_loopw [1, 5] (fun l i wr => ∃ (m : Nat) (C : Array Value), m ≤ n ∧ l = .int .i64 ((k + 2 * m : Nat) : Int) ∧ i = .int .i64 m ∧ wr.heap[g]? = some (.cells C 43 (0, 0)) ∧ C.size = cap * 2 ∧ Hid (∀ j, j < m → C[j * 2]? = some (.string (markT (k + 2 * j))) ∧ C[j * 2 + 1]? = some (.string (markT (k + 2 * j + 1)))) ∧ w.grownBy wr (some g)) (fun _ i _ => n - (intOf i).toNat)
    case atStart => exact ⟨0, cur, Nat.zero_le _, rfl, rfl, hg, hs, fun j hj => absurd hj (by omega), World.grownBy.refl _ _⟩
    case round =>
      obtain ⟨m, C, hm, rfl, rfl, hgr, hC, HA, gw⟩ := hrel
      by_cases hlt : m < n
      · have i1 : (0 : Int) ≤ (m : Int) := by omega
        have i2 : (m : Int) < (n : Int) := by omega
        have cM := markText_any (k + 2 * m) (by omega) wr
        have cN := fun W => markText_any (k + 2 * m + 1) (by omega) W
        have lgr : g < wr.heap.size := (Array.getElem?_eq_some_iff.1 hgr).1
        obtain ⟨T, hT⟩ : ∃ T, markT (k + 2 * m) = T := ⟨_, rfl⟩
        rw [hT] at cM
        have HT : Hid (markT (k + 2 * m) = T) := hT
        obtain ⟨T2, hT2⟩ : ∃ T2, markT (k + 2 * m + 1) = T2 := ⟨_, rfl⟩
        rw [hT2] at cN
        have HT2 : Hid (markT (k + 2 * m + 1) = T2) := hT2
        obtain ⟨kk, hkk⟩ : ∃ kk, kk = k + 2 * m := ⟨_, rfl⟩
        have z1 : IntKind.i64.wrap ((kk : Int) + 1) = ((kk + 1 : Nat) : Int) := by rw [IntKind.wrap_i64]; omega
        have z2 : IntKind.i64.wrap (((kk + 1 : Nat) : Int) + 1) = ((k + 2 * (m + 1) : Nat) : Int) := by rw [IntKind.wrap_i64]; omega
        rw [← hkk] at cM cN ⊢
        clear hT hT2
        have HK : Hid (kk = k + 2 * m) := hkk
        clear hkk
        go_wp2_with fail
        go_fit cM
        rintro e w1 ⟨rfl, b1⟩
        have hg1 := (b1.block g lgr).trans hgr
        obtain ⟨cv, hcv⟩ : ∃ cv, w1.cell? ⟨g, m * 2, none⟩ = some cv := ⟨_, (cell_of w1 _ _ C _ hg1).trans (Array.getElem?_eq_getElem (by omega))⟩
        have f0 : w1.frozen? ⟨g, m * 2, none⟩ = false := by simp [World.frozen?, hg1]
        have k1 := set_heap w1 g (m * 2) C _ _ (.string T) hg1
        obtain ⟨V1, hV1⟩ : ∃ V1, w1.setCell ⟨g, m * 2, none⟩ (.string T) = V1 := ⟨_, rfl⟩
        have gw1 : w.grownBy V1 (some g) := by
          rw [← hV1]
          have bs := (Below.refl g w1).setCell (p := ⟨g, m * 2, none⟩) (Nat.le_refl _) (.string T)
          refine ⟨(bs.os.trans b1.os).trans gw.os, (bs.tape.trans b1.tape).trans gw.tape, (bs.output.trans b1.output).trans gw.output, Nat.le_trans gw.size (Nat.le_trans b1.size bs.size), fun j hj hne => ?_⟩
          rw [Below.heap_setCell _ _ _ _ (fun e => hne (by rw [e])), b1.block j (Nat.lt_of_lt_of_le hj gw.size)]
          exact gw.block j hj hne
        rw [hV1] at k1
        have HV1 : Hid (w1.setCell ⟨g, m * 2, none⟩ (.string T) = V1) := hV1
        have K1 : Hid (V1.heap[g]? = some (.cells (C.setIfInBounds (m * 2) (.string T)) 43 (0, 0))) := k1
        clear hV1 k1 cM hgr hg1
        go_wp2_with fail
        rw [HV1.out]
        refine (cN V1).mono ?_
        rintro e w2 ⟨rfl, b2⟩
        have lg1 : g < V1.heap.size := (Array.getElem?_eq_some_iff.1 K1.out).1
        have hg2 := (b2.block g lg1).trans K1.out
        have hsz1 : (C.setIfInBounds (m * 2) (.string T)).size = cap * 2 := by simp [hC]
        obtain ⟨cv2, hcv2⟩ : ∃ cv, w2.cell? ⟨g, m * 2 + 1, none⟩ = some cv := ⟨_, (cell_of w2 _ _ _ _ hg2).trans (Array.getElem?_eq_getElem (by omega))⟩
        have f2 : w2.frozen? ⟨g, m * 2 + 1, none⟩ = false := by simp [World.frozen?, hg2]
        have k2 := set_heap w2 g (m * 2 + 1) _ _ _ (.string T2) hg2
        have KK : Hid ((w2.setCell ⟨g, m * 2 + 1, none⟩ (.string T2)).heap[g]? = some (.cells ((C.setIfInBounds (m * 2) (.string T)).setIfInBounds (m * 2 + 1) (.string T2)) 43 (0, 0))) := k2
        have gw2 : w.grownBy (w2.setCell ⟨g, m * 2 + 1, none⟩ (.string T2)) (some g) := by
          have bs := (Below.refl g w2).setCell (p := ⟨g, m * 2 + 1, none⟩) (Nat.le_refl _) (.string T2)
          refine ⟨(bs.os.trans b2.os).trans gw1.os, (bs.tape.trans b2.tape).trans gw1.tape, (bs.output.trans b2.output).trans gw1.output, Nat.le_trans gw1.size (Nat.le_trans b2.size bs.size), fun j hj hne => ?_⟩
          rw [Below.heap_setCell _ _ _ _ (fun e => hne (by rw [e])), b2.block j (Nat.lt_of_lt_of_le hj gw1.size)]
          exact gw1.block j hj hne
        clear k2 cN hg2 hcv f0 hsz1
        go_wp2_with fail
        refine ⟨⟨m + 1, _, by omega, ?_, by go_num, KK.out, by simp [hC], fun j hj => ?_, gw2⟩, by simp [intOf]; omega⟩
        · have h9 := HK.out
          have h8 : k + 2 * (m + 1) = kk + 1 + 1 := by omega
          rw [h8]
          have h7 : kk ≤ 4000000 := by omega
          have h6 : wrap64 ((kk : Int) + 1 + 1) = ((kk + 1 + 1 : Nat) : Int) := by
            unfold wrap64
            omega
          exact congrArg (Value.int .i64) h6
        · rw [put2 C (m * 2) _ _ (by omega), put2 C (m * 2) _ _ (by omega)]
          by_cases hjm : j = m
          · subst hjm
            rw [if_pos rfl, if_neg (by omega), if_pos rfl, HT.out, HT2.out]
            exact ⟨rfl, rfl⟩
          · rw [if_neg (by omega), if_neg (by omega), if_neg (by omega), if_neg (by omega)]
            exact HA.out j (by omega)
      · obtain rfl : m = n := by omega
        go_wp2_with fail
        go_ret
        exact ⟨rfl, own_row hb hgr hc hM' hC HA.out, gw⟩

set_option maxRecDepth 100000 in
set_option maxHeartbeats 2000000 in
theorem heldAccountS_any (v : Value) (n k : Nat) (w : World) (hm : AccAt w v n (fun j => markT (k + 2 * j)) (fun j => markT (k + 2 * j + 1))) (hn : n ≤ 1048600) (hk : k ≤ 10) :
    Calls Try.prog 42 #[v, .int .i64 k] w fun e w' => e = .returned (.int .i64 ((k + 2 * n : Nat) : Int)) ∧ Below w.heap.size w w' := by
  obtain ⟨o, cap, rfl, g1, g2', hc⟩ := hm
  have g2 : cap ≤ 9223372036854775807 := g2'
  clear g2'
  have HC : Hid (∀ j, j < n → ∃ b f : Nat, o = some ⟨b, f, none⟩ ∧ b < w.heap.size ∧ w.cell? ⟨b, f + j * 2, none⟩ = some (.string (markT (k + 2 * j))) ∧ w.cell? ⟨b, f + j * 2 + 1, none⟩ = some (.string (markT (k + 2 * j + 1)))) := hc
  clear hc
  go_enter Try.func42, Try.ntmps42
  go_wp2_with fail
  go_loopw [1, 5] (fun l i wr => ∃ m : Nat, m ≤ n ∧ l = .int .i64 ((k + 2 * m : Nat) : Int) ∧ i = .int .i64 m ∧ Below w.heap.size w wr) (fun _ i _ => n - (intOf i).toNat)
  case atStart => exact ⟨0, Nat.zero_le _, rfl, rfl, Below.refl _ _⟩
  case round =>
    obtain ⟨m, hm, rfl, rfl, bw⟩ := hrel
    by_cases hlt : m < n
    · obtain ⟨b, f, ho, hb, c0, c1⟩ := HC.out m hlt
      subst ho
      have i1 : (0 : Int) ≤ (m : Int) := by omega
      have i2 : (m : Int) < (n : Int) := by omega
      obtain ⟨kk, hkk⟩ : ∃ kk, kk = k + 2 * m := ⟨_, rfl⟩
      have z1 : IntKind.i64.wrap ((kk : Int) + 1) = ((kk + 1 : Nat) : Int) := by rw [IntKind.wrap_i64]; omega
      have z2 : IntKind.i64.wrap (((kk + 1 : Nat) : Int) + 1) = ((k + 2 * (m + 1) : Nat) : Int) := by rw [IntKind.wrap_i64]; omega
      rw [← hkk] at c0 c1 ⊢
      have cM := fun W => markText_any kk (by omega) W
      have cN := fun W => markText_any (kk + 1) (by omega) W
      have NEW : Hid (∀ W : World, Below w.heap.size w W → W.cell? ⟨b, f + m * 2, none⟩ = some (.string (markT kk)) ∧ W.cell? ⟨b, f + m * 2 + 1, none⟩ = some (.string (markT (kk + 1)))) := fun W bb => ⟨(bb.cell (p := ⟨b, f + m * 2, none⟩) hb).trans c0, (bb.cell (p := ⟨b, f + m * 2 + 1, none⟩) hb).trans c1⟩
      have HK : Hid (kk = k + 2 * m) := hkk
      clear c0 c1 hkk
      generalize markT kk = T at *
      generalize markT (kk + 1) = T2 at *
      have bwd : Below w.heap.size w wr.drew := bw.drew
      have hTT : (T.toList != T.toList) = false := bne_self_eq_false _
      have hTT2 : (T2.toList != T2.toList) = false := bne_self_eq_false _
      go_wp2_with fail
      go_region_held3 (fun W => W.cell? ⟨b, f + m * 2, none⟩ = some (.string T) ∧ W.cell? ⟨b, f + m * 2 + 1, none⟩ = some (.string T2))
        (first | exact NEW.out _ b1w | exact NEW.out _ bwd | go_keep)
        (first
          | (go_at_call 22; refine (cM _).mono ?_; rintro e w1 ⟨rfl, b1⟩; have b1w : Below w.heap.size w w1 := bwd.trans (b1.mono bwd.size)))
      have b1d : Below w.heap.size w w1.drew := b1w.drew
      go_wp2_with fail
      go_region_held3 (fun W => W.cell? ⟨b, f + m * 2, none⟩ = some (.string T) ∧ W.cell? ⟨b, f + m * 2 + 1, none⟩ = some (.string T2))
        (first | exact NEW.out _ b2w | exact NEW.out _ b1d | go_keep)
        (first
          | (go_at_call 22; refine (cN _).mono ?_; rintro e w2 ⟨rfl, b2⟩; have b2w : Below w.heap.size w w2 := b1d.trans (b2.mono b1d.size)))
      go_wp2_with fail
      refine ⟨⟨m + 1, by omega, ?_, by go_num, b2w⟩, by simp [intOf]; omega⟩
      have h9 := HK.out
      have h8 : k + 2 * (m + 1) = kk + 1 + 1 := by omega
      rw [h8]
      have h7 : kk ≤ 4000000 := by omega
      have h6 : wrap64 ((kk : Int) + 1 + 1) = ((kk + 1 + 1 : Nat) : Int) := by
        unfold wrap64
        omega
      exact congrArg (Value.int .i64) h6
    · obtain rfl : m = n := by omega
      go_wp2_with fail
      go_ret
      exact ⟨rfl, bw⟩
end Go.Proofs.Ytkfdggcccegmlaa.Hub
