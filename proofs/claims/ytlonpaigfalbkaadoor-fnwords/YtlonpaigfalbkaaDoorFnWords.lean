/-
  For every two slices of bytes the law FnWords returns true: of two drawn texts impl.WordsOf answers as spec.WordsOf; all words of the two with a blank between are those of the one, and behind them those of the other that are new; each word is no empty text, and is the only word of itself. Its condition: the two tables of unicode/utf8 are as the library's text lays them (the card ties them to the program's text); the law itself passes slices of more than 1048576 bytes by. What the draw can give is a small part of all texts; the proof does not rest on which, but that they have at most 500 bytes.
-/
import Derived.Test.YtlonpaigfalbkaaDoorRows
import Derived.Test.YtlonpaigfalbkaaDoorTie
import Derived.Test.YtlonpaigfalbkaaDoorCards
import Derived.Test.YtlonpaigfalbkaaDoorWordsI
import Derived.Test.YtlonpaigfalbkaaDoorWordsP
import Derived.Test.YtlonpaigfalbkaaDoorDrawW
import Derived.Test.YtlonpaigfalbkaaDoorArgB
import Derived.Lib.LaidU8T
import Derived.Lib.SmallJoins
import Derived.PinnedBridge
import Derived.ProofKit
import Derived.OpenShut
import Derived.ShutString
import Derived.LaidMore
import Derived.Lay
import Derived.SevenTiedAt
import Derived.Stop.Joined
namespace Go.Proofs.YtlonpaigfalbkaaDoor.Hub
open Go.Shelf Go.Lib Go.Proofs in
theorem u8T : U8Types Tryd.prog Tryd.lays197_ren := { Tryd.lays197 with }
abbrev Tabs (w : World) : Prop := Lib.Utf8Tabs (Tryd.lays197_ren.g 3) (Tryd.lays197_ren.g 4) w
end Go.Proofs.YtlonpaigfalbkaaDoor.Hub
namespace Go.Proofs.YtlonpaigfalbkaaDoor.fnWords
open Go.ChangeShapes Go.WideShapes Go.ChangeAt Go.RowKit Go.Shelf
open Go.ChangeMaps (open_string shut_string)
set_option linter.unusedVariables false

theorem one_strAt (W : World) (Y : ByteArray) : Hub.StrAt (W.alloc (.cells #[.string Y] 9)) (.slice (some ⟨W.heap.size, 0, none⟩) 1 1) 1 (Hub.gt [Y]) := by
  refine ⟨_, _, rfl, Nat.le_refl _, ?_, fun j hj => ⟨W.heap.size, 0, rfl, by simp, ?_⟩⟩
  · exact ⟨by unfold maxLen; omega, fun e => by cases e⟩
  · obtain rfl : j = 0 := by omega
    exact Hub.cell_one W (.string Y) 0 _ rfl
/-- A list of texts, wherever the world has only grown. -/
theorem keepS {W : World} {v : Value} {n : Nat} {S : Nat → ByteArray} (h : Hub.StrAt W v n S) : Hid (∀ W', Below W.heap.size W W' → Hub.StrAt W' v n S) := fun W' b => h.below b
theorem cells_of {W : World} {o : Option Addr} {cap n : Nat} {S : Nat → ByteArray} (h : Hub.StrAt W (.slice o n cap) n S) : (n ≤ cap ∧ cap ≤ 9223372036854775807) ∧ Hid (∀ j, j < n → ∃ b f : Nat, o = some ⟨b, f, none⟩ ∧ b < W.heap.size ∧ W.cell? ⟨b, f + j, none⟩ = some (.string (S j))) := by
  obtain ⟨o1, cap1, e, g1, g2, hc⟩ := h
  cases e
  exact ⟨⟨g1, g2.1⟩, hc⟩

set_option maxRecDepth 100000 in
set_option maxHeartbeats 4000000 in
theorem walk (v1 v2 : Value) (n1 n2 : Nat) (w : World) (hT : Hub.Tabs w) (hb1 : Hub.BytesAt w.heap.size w v1 n1) (hb2 : Hub.BytesAt w.heap.size w v2 n2) :
    Calls Tryd.prog 3 #[v1, v2] w fun e w' => e = .returned (.bool true) ∧ Below w.heap.size w w' := by
  obtain ⟨o1, cap1, rfl⟩ := Hub.bytes_shape hb1
  obtain ⟨o2, cap2, rfl⟩ := Hub.bytes_shape hb2
  by_cases hbig : (1048576 : Int) < (n1 : Int)
  · go_enter Tryd.func3, Tryd.ntmps3
    go_wp2_with fail
    go_ret
    exact ⟨rfl, Below.refl _ _⟩
  by_cases hbig2 : (1048576 : Int) < (n2 : Int)
  · go_enter Tryd.func3, Tryd.ntmps3
    go_wp2_with fail
    go_ret
    exact ⟨rfl, Below.refl _ _⟩
  have cD := Hub.drawWordsOf_any _ n1 w hb1
  have HB2 : Hid (Hub.BytesAt w.heap.size w (.slice o2 n2 cap2) n2) := hb2
  have HI : Hid (∀ (s : ByteArray), s.size ≤ 1048576 → ∀ W, Below w.heap.size w W → _) := fun s hs W hW => Hub.wordsOf_any s hs W (fun W2 h2 => Utf8Tabs_below hT (hW.trans (h2.mono hW.size)))
  clear hb1 hb2 hT
  go_enter Tryd.func3, Tryd.ntmps3
  go_wp2_with fail
  go_fit cD
  rintro e w1 ⟨⟨a, ha, rfl⟩, b1⟩
  have cD2 := Hub.drawWordsOf_any _ n2 w1 ((HB2.out.below b1).wider b1.size)
  clear cD
  go_wp2_with fail
  go_fit cD2
  rintro e w2 ⟨⟨b, hb, rfl⟩, b2⟩
  have bw2 := b1.trans (b2.mono b1.size)
  clear cD2 b2 b1
  have ww := Hub.words_word a
  have wl2 := Hub.words_two a b
  have ll := Hub.words_len' a
  have lb := Hub.words_len' b
  have nk := Hub.newK_all (Hub.wordsT a) (Hub.wordsT b)
  obtain ⟨c, hc⟩ : ∃ c, (a ++ ⟨#[32]⟩) ++ b = c := ⟨_, rfl⟩
  have hcs : c.size ≤ 1001 := by
    rw [← hc, ByteArray.size_append, ByteArray.size_append]
    have : (⟨#[32]⟩ : ByteArray).size = 1 := rfl
    omega
  have hz1 : (a ++ (⟨#[32]⟩ : ByteArray)).size = a.size + 1 := by rw [ByteArray.size_append]; rfl
  have cI1 := HI.out a (by omega)
  have cIb := HI.out b (by omega)
  have cIc := HI.out c (by omega)
  have cS := Hub.specWordsOf_any a (by omega)
  obtain ⟨La, hLa⟩ : ∃ L, Hub.wordsT a = L := ⟨_, rfl⟩
  obtain ⟨Lb, hLb⟩ : ∃ L, Hub.wordsT b = L := ⟨_, rfl⟩
  obtain ⟨Lc, hLc⟩ : ∃ L, Hub.wordsT c = L := ⟨_, rfl⟩
  rw [hc] at wl2
  rw [hLa] at ww wl2 ll nk cI1 cS
  rw [hLb] at wl2 lb nk cIb
  rw [hLc] at wl2 cIc
  have CI : Hid (∀ W, Below w.heap.size w W → _) := cI1
  have CB : Hid (∀ W, Below w.heap.size w W → _) := cIb
  have CC : Hid (∀ W, Below w.heap.size w W → _) := cIc
  have WW : Hid (∀ t ∈ La, Hub.Word t ∧ t.size ≤ a.size) := ww
  have WT : Hid (Lc = La ++ Lb.filter (fun x => !Hub.hasB La x)) := wl2
  have NK : Hid (Hub.newK La Lb Lb.length = (Lb.filter (fun x => !Hub.hasB La x)).length) := nk
  have CSP : Hid (∀ W, _) := cS
  clear cI1 cIb cIc ww wl2 nk cS hLa hLb hLc HB2
  go_wp2_with fail
  refine (CI.out w2 bw2).mono ?_
  rintro e w3 ⟨x1, rfl, O1, b3⟩
  have bw3 := bw2.trans (b3.mono bw2.size)
  obtain ⟨p1, k1, rfl⟩ := O1.shape
  have HO1 := keepS O1.strAt
  clear O1 b3
  go_wp2_with fail
  refine (CSP.out w3).mono ?_
  rintro e w4 ⟨x2, rfl, O2, b4⟩
  have bw4 := bw3.trans (b4.mono bw3.size)
  obtain ⟨p2, k2, rfl⟩ := O2.shape
  have q1 := HO1.out w4 b4
  have HO14 := keepS q1
  have cE := Hub.hbTexts_same (.slice p1 La.length k1) (.slice p2 La.length k2) La.length (Hub.gt La) w4 q1 O2.strAt
  clear O2 q1 HO1
  go_wp2_with fail
  refine cE.mono ?_
  rintro e w5 ⟨rfl, b5⟩
  have bw5 := bw4.trans (b5.mono bw4.size)
  have HO15 := keepS (HO14.out w5 b5)
  clear cE HO14 CSP
  have hsz8 : a.size + 1 ≤ 9223372036854775807 := by omega
  go_wp2_with fail
  refine (CC.out w5 bw5).mono ?_
  rintro e w6 ⟨x3, rfl, O3, b6⟩
  have bw6 := bw5.trans (b6.mono bw5.size)
  obtain ⟨p3, k3, rfl⟩ := O3.shape
  have HO3 := keepS O3.strAt
  have HO16 := keepS (HO15.out w6 b6)
  clear O3 HO15 hc
  go_wp2_with fail
  refine (CB.out w6 bw6).mono ?_
  rintro e w7 ⟨x4, rfl, O4, b7⟩
  have bw7 := bw6.trans (b7.mono bw6.size)
  obtain ⟨p4, k4, rfl⟩ := O4.shape
  have q1 := HO16.out w7 b7
  have q3 := HO3.out w7 b7
  have HO1 := keepS q1
  have HO37 := keepS q3
  obtain ⟨⟨g1, g1'⟩, HC1⟩ := cells_of q1
  obtain ⟨⟨g4, g4'⟩, HC4⟩ := cells_of O4.strAt
  clear O4 q1 q3 HO3 HO16 CI CB CC
  go_wp2_with fail
  go_loopw [10, 11] (fun many i wr => ∃ k : Nat, k ≤ Lb.length ∧ many = .int .i64 ((La.length + Hub.newK La Lb k : Nat) : Int) ∧ i = .int .i64 k ∧ Below w7.heap.size w7 wr) (fun _ i _ => Lb.length - (intOf i).toNat)
  case atStart => exact ⟨0, Nat.zero_le _, rfl, rfl, Below.refl _ _⟩
  case round =>
    obtain ⟨k, hk, rfl, rfl, bwr⟩ := hrel
    by_cases hlt : k < Lb.length
    · have hltI : (k : Int) < (Lb.length : Int) := by omega
      obtain ⟨X, hX⟩ : ∃ X, Hub.gt Lb k = X := ⟨_, rfl⟩
      obtain ⟨B4, f4, ho4, hB4, c4⟩ := HC4.out k hlt
      subst ho4
      rw [hX] at c4
      have N4 : Hid (∀ W, Below w7.heap.size w7 W → W.cell? ⟨B4, f4 + k, none⟩ = some (.string X)) := fun W bb => (bb.cell (p := ⟨B4, f4 + k, none⟩) hB4).trans c4
      have hns := Hub.newK_succ La Lb k hlt
      rw [hX] at hns
      have hnl := Hub.newK_le La Lb k
      have HNS : Hid (_ = _) := hns
      clear c4 hns hX
      generalize Hub.newK La Lb k = Q at *
      go_wp2_with fail
      go_loopw [12, 13] (fun is j wr2 => ∃ m : Nat, m ≤ La.length ∧ is = .bool (Hub.hasK La X m) ∧ j = .int .i64 m ∧ Below w7.heap.size w7 wr2) (fun _ j _ => La.length - (intOf j).toNat)
      case atStart => exact ⟨0, Nat.zero_le _, rfl, rfl, bwr⟩
      case round =>
        obtain ⟨m, hm, rfl, rfl, bw2r⟩ := hrel
        by_cases hm2 : m < La.length
        · have hmI : (m : Int) < (La.length : Int) := by omega
          obtain ⟨B1, f1, ho1, hB1, c1⟩ := HC1.out m hm2
          subst ho1
          have d1 := (bw2r.cell (p := ⟨B1, f1 + m, none⟩) hB1).trans c1
          have d4 := N4.out _ bw2r
          have hhs := Hub.hasK_succ La X m hm2
          have HHS : Hid (_ = _) := hhs
          have b9 := bw2r.drew
          clear c1 hhs
          obtain ⟨Y, hY⟩ : ∃ Y, Hub.gt La m = Y := ⟨_, rfl⟩
          rw [hY] at d1 HHS
          clear hY
          cases hH : Hub.hasK La X m
          · rw [hH, Bool.false_or] at HHS
            clear hH
            go_wp2_with fail
            go_region
            go_wp2_with fail
            exact ⟨⟨m + 1, by omega, by rw [HHS.out], rfl, b9⟩, by simp [intOf]; omega⟩
          · rw [hH, Bool.true_or] at HHS
            clear hH
            go_wp2_with fail
            go_region
            go_wp2_with fail
            exact ⟨⟨m + 1, by omega, by rw [HHS.out], rfl, b9⟩, by simp [intOf]; omega⟩
        · obtain rfl : m = La.length := by omega
          have hha := Hub.hasK_all La X
          rw [hha]
          cases hH : Hub.hasB La X
          · have hns : Hub.newK La Lb (k + 1) = Q + 1 := by rw [HNS.out, hH]; rfl
            have HN : Hid (Hub.newK La Lb (k + 1) = Q + 1) := hns
            clear hns hH hha
            go_wp2_with fail
            exact ⟨⟨k + 1, by omega, by rw [HN.out]; go_num, by go_num, bw2r⟩, by simp [intOf]; omega⟩
          · have hns : Hub.newK La Lb (k + 1) = Q := by rw [HNS.out, hH]; rfl
            have HN : Hid (Hub.newK La Lb (k + 1) = Q) := hns
            clear hns hH hha
            go_wp2_with fail
            exact ⟨⟨k + 1, by omega, by rw [HN.out], by go_num, bw2r⟩, by simp [intOf]; omega⟩
    · obtain rfl : k = Lb.length := by omega
      have hge : ¬ (Lb.length : Int) < (Lb.length : Int) := by omega
      have hlen : La.length + Hub.newK La Lb Lb.length = Lc.length := by rw [NK.out, WT.out, List.length_append]
      have hle : La.length ≤ Lc.length := by omega
      rw [hlen]
      clear hlen hk hlt
      go_wp2_with fail
      go_loopw [14] (fun i wr2 => ∃ m : Nat, m ≤ La.length ∧ i = .int .i64 m ∧ Below w7.heap.size w7 wr2) (fun i _ => La.length - (intOf i).toNat)
      case atStart => exact ⟨0, Nat.zero_le _, rfl, bwr⟩
      case round =>
        obtain ⟨m, hm, rfl, bw2r⟩ := hrel
        by_cases hm2 : m < La.length
        · have hmI : (m : Int) < (La.length : Int) := by omega
          obtain ⟨B1, f1, ho1, hB1, c1⟩ := HC1.out m hm2
          subst ho1
          obtain ⟨hW, hWs⟩ := WW.out _ (Hub.gt_is La m hm2)
          obtain ⟨Y, hY⟩ : ∃ Y, Hub.gt La m = Y := ⟨_, rfl⟩
          rw [hY] at c1 hW hWs
          have hNE : (Y.toList == []) = false := Hub.noE (Hub.word_ne hW.some)
          have hYY := Hub.word_words hW
          have N1 : Hid (∀ W, Below w7.heap.size w7 W → W.cell? ⟨B1, f1 + m, none⟩ = some (.string Y)) := fun W bb => (bb.cell (p := ⟨B1, f1 + m, none⟩) hB1).trans c1
          have hy1 := HI.out Y (by omega)
          rw [hYY] at hy1
          have HY : Hid (∀ W, Below w7.heap.size w7 W → _) := fun W bb => hy1 W (bw7.trans (bb.mono bw7.size))
          have b9 := bw2r.drew
          have d1 := N1.out _ bw2r
          clear c1 hW hY hYY hy1
          go_wp2_with fail
          refine wp_region_held_drew (S := fun W => W.cell? ⟨B1, f1 + m, none⟩ = some (.string Y)) (by kernel_rfl) ?_ (fun hHeld => ?_)
          · exact N1.out _ b9
          refine wpAnyH_take (i := 0) (v := ?_) rfl (by kernel_rfl) (by kernel_rfl) (by kernel_rfl) (fun _ _ _ h => h) (Or.inl ⟨by rfl, ?takeYwa0⟩) (by assumption) ?takeRwa0
          case takeYwa0 => (intro w hSw; (try dsimp only at hSw); go_simp; try (with_reducible rfl))
          simp only [Act.put, List.setIfInBounds_toArray, List.set_cons_zero, List.set_cons_succ, List.getElem_toArray, List.getElem_cons_zero]
          refine wpAnyH_take (i := 1) (v := ?_) rfl (by kernel_rfl) (by kernel_rfl) (by kernel_rfl) (fun _ _ _ h => h) (Or.inl ⟨by rfl, ?takeYwa1⟩) (by assumption) ?takeRwa1
          case takeYwa1 => (intro w hSw; (try dsimp only at hSw); go_simp; try (with_reducible rfl))
          simp only [Act.put, List.setIfInBounds_toArray, List.set_cons_zero, List.set_cons_succ, List.getElem_toArray, List.getElem_cons_zero, List.getElem_cons_succ]
          refine wpAnyH_take (i := 2) (v := ?_) rfl (by kernel_rfl) (by kernel_rfl) (by kernel_rfl) (fun _ _ _ h => h) (Or.inl ⟨by rfl, ?takeYwa2⟩) (by assumption) ?takeRwa2
          case takeYwa2 => (intro w hSw; (try dsimp only at hSw); go_simp; try (with_reducible rfl))
          simp only [Act.put, List.setIfInBounds_toArray, List.set_cons_zero, List.set_cons_succ, List.getElem_toArray, List.getElem_cons_zero, List.getElem_cons_succ]
          refine wpAnyH_take (i := 3) (v := ?_) rfl (by kernel_rfl) (by kernel_rfl) (by kernel_rfl) (fun _ _ _ h => h) (Or.inl ⟨by rfl, ?takeYwa3⟩) (by assumption) ?takeRwa3
          case takeYwa3 => (intro w hSw; (try dsimp only at hSw); go_simp; try (with_reducible rfl))
          simp only [Act.put, List.setIfInBounds_toArray, List.set_cons_zero, List.set_cons_succ, List.getElem_toArray, List.getElem_cons_zero, List.getElem_cons_succ]
          refine wpAnyH_take (i := 4) (v := ?_) rfl (by kernel_rfl) (by kernel_rfl) (by kernel_rfl) (fun _ _ _ h => h) (Or.inl ⟨by rfl, ?takeYwa4⟩) (by assumption) ?takeRwa4
          case takeYwa4 => (intro w hSw; (try dsimp only at hSw); go_simp; try (with_reducible rfl))
          simp only [Act.put, List.setIfInBounds_toArray, List.set_cons_zero, List.set_cons_succ, List.getElem_toArray, List.getElem_cons_zero, List.getElem_cons_succ]
          refine wpAnyH_take (i := 5) (v := ?_) rfl (by kernel_rfl) (by kernel_rfl) (by kernel_rfl) (fun _ _ _ h => h) (Or.inl ⟨by rfl, ?takeYwa5⟩) (by assumption) ?takeRwa5
          case takeYwa5 => (intro w hSw; (try dsimp only at hSw); go_simp; try (with_reducible rfl))
          simp only [Act.put, List.setIfInBounds_toArray, List.set_cons_zero, List.set_cons_succ, List.getElem_toArray, List.getElem_cons_zero, List.getElem_cons_succ]
          refine wpAnyH_take (i := 6) (v := ?_) rfl (by kernel_rfl) (by kernel_rfl) (by kernel_rfl) (fun _ _ _ h => h) (Or.inl ⟨by rfl, ?takeYwa6⟩) (by assumption) ?takeRwa6
          case takeYwa6 => (intro w hSw; (try dsimp only at hSw); go_simp; try (with_reducible rfl))
          simp only [Act.put, List.setIfInBounds_toArray, List.set_cons_zero, List.set_cons_succ, List.getElem_toArray, List.getElem_cons_zero, List.getElem_cons_succ]
          refine wpAnyH_take (i := 7) (v := ?_) rfl (by kernel_rfl) (by kernel_rfl) (by kernel_rfl) (fun _ _ _ h => h) (Or.inl ⟨by rfl, ?takeYwa7⟩) (by assumption) ?takeRwa7
          case takeYwa7 => (intro w hSw; (try dsimp only at hSw); go_simp; try (with_reducible rfl))
          simp only [Act.put, List.setIfInBounds_toArray, List.set_cons_zero, List.set_cons_succ, List.getElem_toArray, List.getElem_cons_zero, List.getElem_cons_succ]
          refine wpAnyH_take (i := 8) (v := ?_) rfl (by kernel_rfl) (by kernel_rfl) (by kernel_rfl) (fun _ _ _ h => h) (Or.inl ⟨by rfl, ?takeYwa8⟩) (by assumption) ?takeRwa8
          case takeYwa8 => (intro w hSw; (try dsimp only at hSw); go_simp; try (with_reducible rfl))
          simp only [Act.put, List.setIfInBounds_toArray, List.set_cons_zero, List.set_cons_succ, List.getElem_toArray, List.getElem_cons_zero, List.getElem_cons_succ]
          refine wpAnyH_take (i := 9) (v := ?_) rfl (by kernel_rfl) (by kernel_rfl) (by kernel_rfl) (fun _ _ _ h => h) (Or.inl ⟨by rfl, ?takeYwa9⟩) (by assumption) ?takeRwa9
          case takeYwa9 => (intro w hSw; (try dsimp only at hSw); go_simp; try (with_reducible rfl))
          simp only [Act.put, List.setIfInBounds_toArray, List.set_cons_zero, List.set_cons_succ, List.getElem_toArray, List.getElem_cons_zero, List.getElem_cons_succ]
          refine wpAnyH_take (i := 11) (v := ?_) rfl (by kernel_rfl) (by kernel_rfl) (by kernel_rfl) (fun _ _ _ h => h) (Or.inl ⟨by rfl, ?takeYwa11⟩) (by assumption) ?takeRwa11
          case takeYwa11 => (intro w hSw; (try dsimp only at hSw); go_simp; try (with_reducible rfl))
          simp only [Act.put, List.setIfInBounds_toArray, List.set_cons_zero, List.set_cons_succ, List.getElem_toArray, List.getElem_cons_zero, List.getElem_cons_succ]
          refine wpAnyH_take (i := 12) (v := ?_) rfl (by kernel_rfl) (by kernel_rfl) (by kernel_rfl) (fun _ _ _ h => h) (Or.inl ⟨by rfl, ?takeYwa12⟩) (by assumption) ?takeRwa12
          case takeYwa12 => (intro w hSw; (try dsimp only at hSw); go_simp; try (with_reducible rfl))
          simp only [Act.put, List.setIfInBounds_toArray, List.set_cons_zero, List.set_cons_succ, List.getElem_toArray, List.getElem_cons_zero, List.getElem_cons_succ]
          refine wpAnyH_take (i := 13) (v := ?_) rfl (by kernel_rfl) (by kernel_rfl) (by kernel_rfl) (fun _ _ _ h => h) (Or.inl ⟨by rfl, ?takeYwa13⟩) (by assumption) ?takeRwa13
          case takeYwa13 => (intro w hSw; (try dsimp only at hSw); go_simp; try (with_reducible rfl))
          simp only [Act.put, List.setIfInBounds_toArray, List.set_cons_zero, List.set_cons_succ, List.getElem_toArray, List.getElem_cons_zero, List.getElem_cons_succ]
          refine wpAnyH_take (i := 14) (v := ?_) rfl (by kernel_rfl) (by kernel_rfl) (by kernel_rfl) (fun _ _ _ h => h) (Or.inl ⟨by rfl, ?takeYwa14⟩) (by assumption) ?takeRwa14
          case takeYwa14 => (intro w hSw; (try dsimp only at hSw); go_simp; try (with_reducible rfl))
          simp only [Act.put, List.setIfInBounds_toArray, List.set_cons_zero, List.set_cons_succ, List.getElem_toArray, List.getElem_cons_zero, List.getElem_cons_succ]
          refine wpAnyH_ready (rs := [10, 15]) (by kernel_rfl) (by simp) ?_
          refine (AllReadyH.cons rfl (fun K hK => ?_) (AllReadyH.cons rfl (fun K hK => ?_) AllReadyH.nil))
          · go_simp
            refine (HY.out _ b9).mono ?_
            rintro e wA ⟨vA, rfl, OA, bA⟩
            obtain ⟨oA, cA, rfl⟩ := OA.shape
            have bA2 : Below w7.heap.size w7 wA := b9.trans (bA.mono b9.size)
            have HSA := keepS OA.strAt
            clear OA
            go_wp2_with fail
            refine hK.out _ _ (N1.out _ bA2) (fun _ => ?_)
            clear hK K
            try simp only [Act.put, List.setIfInBounds_toArray, List.set_cons_zero, List.set_cons_succ, List.getElem_toArray, List.getElem_cons_zero, List.getElem_cons_succ]
            refine wpAnyH_ready (rs := [15]) (by kernel_rfl) (by simp) ?_
            refine (AllReadyH.cons rfl (fun K hK => ?_) AllReadyH.nil)
            go_simp
            have bB2 : Below w7.heap.size w7 (wA.alloc (.cells #[.string Y] 9)) := bA2.alloc bA2.size _
            have cH := Hub.hbTexts_same (.slice oA 1 cA) (.slice (some ⟨wA.heap.size, 0, none⟩) 1 1) 1 (Hub.gt [Y]) _ (HSA.out _ (Hub.below_alloc wA (.cells #[.string Y] 9))) (one_strAt wA Y)
            refine hK.out _ _ (N1.out _ bB2) (fun _ => ?_)
            clear hK K
            try simp only [Act.put, List.setIfInBounds_toArray, List.set_cons_zero, List.set_cons_succ, List.getElem_toArray, List.getElem_cons_zero, List.getElem_cons_succ]
            refine wpAnyH_ready (rs := [16]) (by kernel_rfl) (by simp) ?_
            refine (AllReadyH.cons rfl (fun K hK => ?_) AllReadyH.nil)
            go_simp
            refine cH.mono ?_
            rintro e wE ⟨rfl, bE1⟩
            have bE : Below w7.heap.size w7 wE := bB2.trans (bE1.mono bB2.size)
            go_wp2_with fail
            refine hK.out _ _ (N1.out _ bE) (fun _ => ?_)
            clear hK K cH
            try simp only [Act.put, List.setIfInBounds_toArray, List.set_cons_zero, List.set_cons_succ, List.getElem_toArray, List.getElem_cons_zero, List.getElem_cons_succ]
            refine wpAnyH_take (i := 17) (v := ?_) rfl (by kernel_rfl) (by kernel_rfl) (by kernel_rfl) (fun _ _ _ h => h) (Or.inl ⟨by rfl, ?takeYwb17⟩) (by assumption) ?takeRwb17
            case takeYwb17 => (intro w hSw; (try dsimp only at hSw); go_simp; try (with_reducible rfl))
            simp only [Act.put, List.setIfInBounds_toArray, List.set_cons_zero, List.set_cons_succ, List.getElem_toArray, List.getElem_cons_zero, List.getElem_cons_succ]
            refine wpAnyH_take (i := 18) (v := ?_) rfl (by kernel_rfl) (by kernel_rfl) (by kernel_rfl) (fun _ _ _ h => h) (Or.inl ⟨by rfl, ?takeYwb18⟩) (by assumption) ?takeRwb18
            case takeYwb18 => (intro w hSw; (try dsimp only at hSw); go_simp; try (with_reducible rfl))
            simp only [Act.put, List.setIfInBounds_toArray, List.set_cons_zero, List.set_cons_succ, List.getElem_toArray, List.getElem_cons_zero, List.getElem_cons_succ]
            refine wpAnyH_done (by kernel_rfl) ?_ _
            go_wp2_with fail
            exact ⟨⟨m + 1, by omega, by go_num, bE⟩, by simp [intOf]; omega⟩
          · go_simp
            have bB2 : Below w7.heap.size w7 (wr.drew.alloc (.cells #[.string Y] 9)) := b9.alloc b9.size _
            have HSB := keepS (one_strAt wr.drew Y)
            refine hK.out _ _ (N1.out _ bB2) (fun _ => ?_)
            clear hK K
            try simp only [Act.put, List.setIfInBounds_toArray, List.set_cons_zero, List.set_cons_succ, List.getElem_toArray, List.getElem_cons_zero, List.getElem_cons_succ]
            refine wpAnyH_ready (rs := [10]) (by kernel_rfl) (by simp) ?_
            refine (AllReadyH.cons rfl (fun K hK => ?_) AllReadyH.nil)
            go_simp
            refine (HY.out _ bB2).mono ?_
            rintro e wA ⟨vA, rfl, OA, bA⟩
            obtain ⟨oA, cA, rfl⟩ := OA.shape
            have bA2 : Below w7.heap.size w7 wA := bB2.trans (bA.mono bB2.size)
            have cH := Hub.hbTexts_same (.slice oA 1 cA) (.slice (some ⟨wr.drew.heap.size, 0, none⟩) 1 1) 1 (Hub.gt [Y]) wA OA.strAt (HSB.out _ bA)
            clear OA
            go_wp2_with fail
            refine hK.out _ _ (N1.out _ bA2) (fun _ => ?_)
            clear hK K
            try simp only [Act.put, List.setIfInBounds_toArray, List.set_cons_zero, List.set_cons_succ, List.getElem_toArray, List.getElem_cons_zero, List.getElem_cons_succ]
            refine wpAnyH_ready (rs := [16]) (by kernel_rfl) (by simp) ?_
            refine (AllReadyH.cons rfl (fun K hK => ?_) AllReadyH.nil)
            go_simp
            refine cH.mono ?_
            rintro e wE ⟨rfl, bE1⟩
            have bE : Below w7.heap.size w7 wE := bA2.trans (bE1.mono bA2.size)
            go_wp2_with fail
            refine hK.out _ _ (N1.out _ bE) (fun _ => ?_)
            clear hK K cH
            try simp only [Act.put, List.setIfInBounds_toArray, List.set_cons_zero, List.set_cons_succ, List.getElem_toArray, List.getElem_cons_zero, List.getElem_cons_succ]
            refine wpAnyH_take (i := 17) (v := ?_) rfl (by kernel_rfl) (by kernel_rfl) (by kernel_rfl) (fun _ _ _ h => h) (Or.inl ⟨by rfl, ?takeYwc17⟩) (by assumption) ?takeRwc17
            case takeYwc17 => (intro w hSw; (try dsimp only at hSw); go_simp; try (with_reducible rfl))
            simp only [Act.put, List.setIfInBounds_toArray, List.set_cons_zero, List.set_cons_succ, List.getElem_toArray, List.getElem_cons_zero, List.getElem_cons_succ]
            refine wpAnyH_take (i := 18) (v := ?_) rfl (by kernel_rfl) (by kernel_rfl) (by kernel_rfl) (fun _ _ _ h => h) (Or.inl ⟨by rfl, ?takeYwc18⟩) (by assumption) ?takeRwc18
            case takeYwc18 => (intro w hSw; (try dsimp only at hSw); go_simp; try (with_reducible rfl))
            simp only [Act.put, List.setIfInBounds_toArray, List.set_cons_zero, List.set_cons_succ, List.getElem_toArray, List.getElem_cons_zero, List.getElem_cons_succ]
            refine wpAnyH_done (by kernel_rfl) ?_ _
            go_wp2_with fail
            exact ⟨⟨m + 1, by omega, by go_num, bE⟩, by simp [intOf]; omega⟩
        · obtain rfl : m = La.length := by omega
          have hgeM : ¬ (La.length : Int) < (La.length : Int) := by omega
          have hpre : Hub.StrAt w7 (.slice p3 La.length k3) La.length (Hub.gt La) := by
            obtain ⟨o, cap, e, h1, h2, hcc⟩ := HO37.out w7 (Below.refl _ _)
            cases e
            refine ⟨_, _, rfl, by omega, h2, fun j hj => ?_⟩
            obtain ⟨b9, f9, e9, hb9, hc9⟩ := hcc j (by omega)
            refine ⟨b9, f9, e9, hb9, ?_⟩
            rw [hc9, WT.out]
            unfold Hub.gt
            rw [List.getD_eq_getElem?_getD, List.getD_eq_getElem?_getD, List.getElem?_append_left hj]
          have hk3 : Lc.length ≤ k3 := by
            obtain ⟨o, cap, e, h1, h2, hcc⟩ := HO37.out w7 (Below.refl _ _)
            cases e
            exact h1
          have hkI : (La.length : Int) ≤ (k3 : Int) := by omega
          have hbL : ((Lc.length : Int) == (Lc.length : Int)) = true := beq_self_eq_true _
          have cF := Hub.hbTexts_same (.slice p3 La.length k3) (.slice p1 La.length k1) La.length (Hub.gt La) wr (hpre.below bw2r) (HO1.out wr bw2r)
          have HF : Hid _ := cF
          clear cF hpre HI WW HC1 HC4 NK WT
          go_wp2_with fail
          refine (show Calls _ _ _ _ _ from HF.out).mono ?_
          rintro e wZ ⟨rfl, bZ⟩
          have bw9 : Below w.heap.size w wZ := (bw7.trans (bw2r.mono bw7.size)).trans (bZ.mono (Nat.le_trans bw7.size bw2r.size))
          clear HF
          go_wp2_with fail
          go_ret
          exact ⟨rfl, bw9⟩

theorem own : ownKnob Tryd.prog.godebug = none := by kernel_rfl
theorem tabs_of {W : World} (h : laidMetH Tryd.prog Rows.fnWordsRow.laid W) : Hub.Tabs W := by
  rw [MakeChecks.laidMetH_plain _ _ _ (by kernel_rfl)] at h
  have e1 : Rows.laid_unicode_utf8_acceptRanges = Lib.acceptData := by kernel_rfl
  have e2 : Rows.laid_unicode_utf8_first = Lib.firstData := Pinned.utf8First_eq
  have r1 := Lib.laidMet.reads h (.head _)
  have r2 := Lib.laidMet.reads h (.tail _ (.head _))
  rw [e1] at r1
  rw [e2] at r2
  exact utf8Tabs_of_readsT Hub.u8T ⟨by kernel_rfl, by kernel_rfl, by kernel_rfl, by kernel_rfl, by kernel_rfl, by kernel_rfl, by kernel_rfl⟩ r2 r1

theorem laidOut : laidOutB Tryd.prog = true := by kernel_rfl
set_option maxRecDepth 100000 in
theorem lifted (os : Os) (started : os.Started) (H : Type) (enc : TypeId × Value → H) :
    ReturnsInHanded {} Tryd.checked os 3 .any (fun w args => (Rows.fnWordsSpec.pre enc Tryd.prog Tryd.f3 Rows.fnWordsRow.domain false w args ∧ laidMetH Tryd.prog Rows.fnWordsRow.laid w) ∧ sizedMet enc Tryd.prog Tryd.f3 (OpenSpec.ofChange Rows.fnWordsSpec) false w args)
      (Rows.fnWordsSpec.post enc Tryd.prog Tryd.f3 false true false false) := by
  refine returnsInHanded_of_change_and (C := Tryd.checked) (X := fun w _ => laidMetH Tryd.prog Rows.fnWordsRow.laid w) (fun _ _ _ hh h => h.of_heap hh) own started (by kernel_rfl) Tryd.func3
    (ChangeSpec.witness_shaped (enc := enc) (C := Tryd.checked) (os := os) (X := fun w _ => laidMetH Tryd.prog Rows.fnWordsRow.laid w) false (World.laidAll Tryd.prog os Rows.fnWordsRow.laid) #[.slice none 0 0, .slice none 0 0] 8 (World.laidAll_os _ _ _)
      (World.shaped_of_ZipB (by kernel_rfl) (by kernel_rfl)) (by kernel_rfl) (by kernel_rfl) (by kernel_rfl)
      (by rw [MakeChecks.laidMetH_plain _ _ _ (by kernel_rfl)]; exact laidMet_laidAll _ (by kernel_rfl) (by kernel_rfl))) ?_
  intro W base args ds gs before hval0 hW hc _ hL _
  have hval : ∀ (j : Nat) t v, Tryd.f3.params[j]? = some t → args[j]? = some v → Value.okWide Tryd.prog W .any base t v := hval0
  have hW' := hW
  obtain ⟨p, q, hA0, hV, rfl, _, _⟩ := hW
  have hA : DataW.TrodAll enc Tryd.prog W 0 (fun _ => true) true Tryd.f3.params.toList args.toList ds p := hA0
  rw [Tryd.params3] at hA hval
  obtain ⟨v0, v1, d0, d1, p0, p1, rfl, rfl, rfl, h0, h1⟩ := trodAll_two hA
  obtain ⟨rfl, rfl⟩ := trodVars_none hV
  obtain ⟨n0, hb0⟩ := Hub.open_bytes (hval 0 22 v0 rfl rfl) h0
  obtain ⟨n1, hb1⟩ := Hub.open_bytes (hval 1 22 v1 rfl rfl) h1
  simp only [List.append_nil] at hW'
  have hlt0 : ∀ x ∈ p0, x.block < W.heap.size := fun x hx => by simpa using hW'.lt x (List.mem_append.2 (.inl hx))
  have hlt1 : ∀ x ∈ p1, x.block < W.heap.size := fun x hx => by simpa using hW'.lt x (List.mem_append.2 (.inr hx))
  refine (walk v0 v1 n0 n1 W (tabs_of hL) hb0 hb1).mono fun e W' ⟨he, bel⟩ => ?_
  subst he
  exact ⟨_, rfl, _, _, _, [], _, [], hW', trodAll_mk1 (shut_bool Tryd.underlying4 _), trodAll_mk2 (Below.trod laidOut (by kernel_rfl) (of_decide_eq_true (by kernel_rfl)) h0 bel hlt0) (Below.trod laidOut (by kernel_rfl) (of_decide_eq_true (by kernel_rfl)) h1 bel hlt1), rfl, bel.frame _, fun h => by cases h⟩

theorem holds : Rows.FnWordsSaid :=
  OpenClaim.holds_of_wide 3 Tryd.f3 rfl rfl rfl rfl rfl rfl rfl ⟨rfl, rfl, rfl, rfl, rfl⟩ rfl rfl rfl rfl rfl (by kernel_rfl) Tryd.func3 (by kernel_rfl)
    (of_decide_eq_true (by kernel_rfl)) (by unfold Func.isWrapper; first | (rw [if_pos (by decide +kernel)]; kernel_rfl) | (rw [if_neg (by decide +kernel)]; exact ⟨rfl, rfl⟩))
    (fun os started H enc _ => lifted os started H enc)
theorem card_holds : Rows.FnWordsCardSaid :=
  Claim7.holds_tied_plain_at .later [] [.data, .pinned] true (true, "3011a3330d3ac04d1fad2bd94591bd211927aa8b35a346e66cfe38d4bd6abdf5") false holds (fun _ h => by cases h) (by kernel_rfl) (fun _ h => by cases h) fnWords_row_tie rfl ⟨rfl, rfl⟩ (by kernel_rfl) rfl
    (fun f fn hf hfn => by
      obtain rfl : f = 3 := Option.some.inj ((show Tryd.prog.funcNamed Rows.fnWordsRow.func = some 3 by kernel_rfl).symm.trans hf) |>.symm
      obtain rfl : fn = Tryd.f3 := (Option.some.inj (Tryd.func3.symm.trans hfn)).symm
      exact ⟨by kernel_rfl, fun j t ht => by
        rw [Tryd.params3] at ht
        have hm : t ∈ [22] := by simpa using Array.mem_of_getElem? ht
        have hall : ([22].all fun u => !Tryd.prog.wantsStandIn u) = true := by kernel_rfl
        exact (show Tryd.prog.wantsStandIn t = false by simpa using List.all_eq_true.1 hall t hm)⟩)
    (by kernel_rfl)
#print axioms card_holds
end Go.Proofs.YtlonpaigfalbkaaDoor.fnWords

namespace Go.Proofs.YtlonpaigfalbkaaDoor
/-- The statement. -/
theorem fnWords_card : Rows.FnWordsCardSaid := fnWords.card_holds
end Go.Proofs.YtlonpaigfalbkaaDoor
