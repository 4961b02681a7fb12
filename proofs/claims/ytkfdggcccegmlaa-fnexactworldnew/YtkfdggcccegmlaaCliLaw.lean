/-
  The law's own eqClientS, markClientS, heldClientS over clients to whom nothing is under way and nothing came.
-/
import Derived.Test.YtkfdggcccegmlaaCliBase
import Derived.Deep.RegionHeld3
namespace Go.Proofs.Ytkfdggcccegmlaa.Hub
open Go.RowKit
set_option linter.unusedVariables false

/-- A client, as a value. -/
abbrev cliV (l c : Int) (k : ByteArray) : Value := .agg #[.int .i64 l, .slice none 0 0, .int .i64 c, .slice none 0 0, .string k]

theorem cli_cells (W : World) (B : Nat) (l c : Int) (k : ByteArray) (h : W.heap[B]? = some (.cells #[.int .i64 l, .slice none 0 0, .int .i64 c, .slice none 0 0, .string k] 49 (0, 0))) : W.cell? ⟨B, 0, none⟩ = some (.int .i64 l) ∧ W.cell? ⟨B, 1, none⟩ = some (.slice none 0 0) ∧ W.cell? ⟨B, 2, none⟩ = some (.int .i64 c) ∧ W.cell? ⟨B, 3, none⟩ = some (.slice none 0 0) ∧ W.cell? ⟨B, 4, none⟩ = some (.string k) := by
  simp only [World.cell?, h]
  exact ⟨rfl, rfl, rfl, rfl, rfl⟩

set_option maxRecDepth 100000 in
set_option maxHeartbeats 2000000 in
theorem eqClient_same (l c : Int) (k : ByteArray) (w : World) :
    Calls Try.prog 37 #[cliV l c k, cliV l c k] w fun e w' => e = .returned (.bool true) ∧ Below w.heap.size w w' := by
  have b0 := (below_alloc w (.cells #[.int .i64 l, .slice none 0 0, .int .i64 c, .slice none 0 0, .string k] 49)).trans ((below_alloc (w.alloc (.cells #[.int .i64 l, .slice none 0 0, .int .i64 c, .slice none 0 0, .string k] 49)) (.cells #[.int .i64 l, .slice none 0 0, .int .i64 c, .slice none 0 0, .string k] 49)).mono (by simp))
  have hkk : (k.toList != k.toList) = false := bne_self_eq_false _
  go_enter Try.func37, Try.ntmps37
  go_wp2_with first
    | (go_at_call 56; refine (eqOutS_none _).mono ?_; rintro e w9 ⟨rfl, rfl⟩)
    | (go_at_call 57; refine (eqStringS_none _).mono ?_; rintro e w9 ⟨rfl, rfl⟩)
  go_ret
  exact ⟨rfl, b0⟩

/-- Five cells of a client at a place. -/
abbrev fiveAt (W : World) (b o : Nat) (l c : Int) (k : ByteArray) : Prop := W.cell? ⟨b, o, none⟩ = some (.int .i64 l) ∧ W.cell? ⟨b, o + 1, none⟩ = some (.slice none 0 0) ∧ W.cell? ⟨b, o + 2, none⟩ = some (.int .i64 c) ∧ W.cell? ⟨b, o + 3, none⟩ = some (.slice none 0 0) ∧ W.cell? ⟨b, o + 4, none⟩ = some (.string k)
theorem fiveAt.below {W W' : World} {b o : Nat} {l c : Int} {k : ByteArray} (h : fiveAt W b o l c k) (hb : b < W.heap.size) (bb : Below W.heap.size W W') : fiveAt W' b o l c k := by
  have q : ∀ i, W'.cell? ⟨b, i, none⟩ = W.cell? ⟨b, i, none⟩ := fun i => bb.cell (p := ⟨b, i, none⟩) hb
  exact ⟨(q _).trans h.1, (q _).trans h.2.1, (q _).trans h.2.2.1, (q _).trans h.2.2.2.1, (q _).trans h.2.2.2.2⟩

set_option maxRecDepth 100000 in
set_option maxHeartbeats 4000000 in
theorem eqClientS_same (v1 v2 : Value) (n : Nat) (L C : Nat → Int) (K : Nat → ByteArray) (w : World) (hm1 : CliAt w v1 n L C K) (hm2 : CliAt w v2 n L C K) :
    Calls Try.prog 20 #[v1, v2] w fun e w' => e = .returned (.bool true) ∧ Below w.heap.size w w' := by
  obtain ⟨o1, cap1, rfl, g1, g1', hc1⟩ := hm1
  obtain ⟨o2, cap2, rfl, g2, g2', hc2⟩ := hm2
  have s1 : cap1 ≤ 9223372036854775807 := g1'
  have s2 : cap2 ≤ 9223372036854775807 := g2'
  clear g1' g2'
  have HC1 : Hid (∀ j, j < n → ∃ b : Nat, o1 = some ⟨b, 0, none⟩ ∧ b < w.heap.size ∧ fiveAt w b (j * 5) (L j) (C j) (K j)) := hc1
  have HC2 : Hid (∀ j, j < n → ∃ b : Nat, o2 = some ⟨b, 0, none⟩ ∧ b < w.heap.size ∧ fiveAt w b (j * 5) (L j) (C j) (K j)) := hc2
  clear hc1 hc2
  go_enter Try.func20, Try.ntmps20
  go_wp2_with fail
  go_loopw [5] (fun i wr => ∃ k : Nat, k ≤ n ∧ i = .int .i64 k ∧ Below w.heap.size w wr) (fun i _ => n - (intOf i).toNat)
  case atStart => exact ⟨0, Nat.zero_le _, rfl, Below.refl _ _⟩
  case round =>
    obtain ⟨k, hk, rfl, bw⟩ := hrel
    by_cases hlt : k < n
    · obtain ⟨b, ho, hb, c0⟩ := HC1.out k hlt
      obtain ⟨b2, ho2, hb2, e0⟩ := HC2.out k hlt
      subst ho ho2
      have i1 : (0 : Int) ≤ (k : Int) := by omega
      have i2 : (k : Int) < (n : Int) := by omega
      have NEW : Hid (∀ W : World, Below w.heap.size w W → fiveAt W b (k * 5) (L k) (C k) (K k) ∧ fiveAt W b2 (k * 5) (L k) (C k) (K k)) := fun W bb => ⟨c0.below hb bb, e0.below hb2 bb⟩
      clear c0 e0
      have bwd : Below w.heap.size w wr.drew := bw.drew
      have cE := fun W => eqClient_same (L k) (C k) (K k) W
      go_wp2_with fail
      go_region_held3 (fun W => fiveAt W b (k * 5) (L k) (C k) (K k) ∧ fiveAt W b2 (k * 5) (L k) (C k) (K k))
        (first | exact NEW.out _ b1w | exact NEW.out _ bwd | go_keep)
        (first
          | (go_at_call 37; refine (cE _).mono ?_; rintro e w1 ⟨rfl, b1⟩; have b1w : Below w.heap.size w w1 := bwd.trans (b1.mono bwd.size)))
      go_wp2_with fail
      go_round
      case rel => exact ⟨k + 1, by omega, by go_num, b1w⟩
      case measure => simp [intOf]; omega
    · obtain rfl : k = n := by omega
      go_wp2_with fail
      go_ret
      exact ⟨rfl, bw⟩

set_option maxRecDepth 100000 in
set_option maxHeartbeats 4000000 in
theorem markClientS_any (base : Nat) (v : Value) (n k : Nat) (L C : Nat → Int) (K : Nat → ByteArray) (w : World) (hm : OwnC w base v n L C K) (hn : n ≤ 4) (hk : k ≤ 10) :
    Calls Try.prog 24 #[v, .int .i64 k] w fun e w' => e = .returned (.int .i64 ((k + 3 * n : Nat) : Int)) ∧ OwnC w' base v n (fun j => ((k + 3 * j : Nat) : Int)) (fun j => ((k + 3 * j + 1 : Nat) : Int)) (fun j => markT (k + 3 * j + 2)) ∧ w.grownBy w' v.ownBlock := by
  rcases hm.2 with ⟨rfl, rfl⟩ | ⟨g, cap, cur, rfl, hb, hg, hc, hM, hs, htk⟩
  · go_enter Try.func24, Try.ntmps24
    go_wp2_with fail
    go_loop [1, 5] (fun l i => l = .int .i64 k ∧ i = .int .i64 0) (fun _ _ => 0)
    case atStart => exact ⟨rfl, rfl⟩
    case round =>
      obtain ⟨rfl, rfl⟩ := hrel
      go_wp2_with fail
      go_ret
      exact ⟨rfl, OwnC.nil _ _ _ _ _, World.grownBy.refl _ _⟩
  · have hM' : cap ≤ 9223372036854775807 := hM
    have lg : g < w.heap.size := (Array.getElem?_eq_some_iff.1 hg).1
    have H0 : Hid (∀ j, j < n → cur[j * 5 + 1]? = some (.slice none 0 0) ∧ cur[j * 5 + 3]? = some (.slice none 0 0)) := fun j hj => by
      have q : ∀ i, i < n * 5 → cur[i]? = (cliVs L C K n)[i]? := fun i hi => by
        rw [← htk, List.getElem?_take, if_pos (by omega), Array.getElem?_toList]
      obtain ⟨c0, c1, c2, c3, c4⟩ := cliVs_at L C K n j hj
      exact ⟨(q _ (by omega)).trans c1, (q _ (by omega)).trans c3⟩
    clear hm htk hM
    go_enter Try.func24, Try.ntmps24
    go_wp2_with fail
    go_loopw [1, 5] (fun l i wr => ∃ (m : Nat) (X : Array Value), m ≤ n ∧ l = .int .i64 ((k + 3 * m : Nat) : Int) ∧ i = .int .i64 m ∧ wr.heap[g]? = some (.cells X 49 (0, 0)) ∧ X.size = cap * 5 ∧ Hid (∀ j, j < n → X[j * 5 + 1]? = some (.slice none 0 0) ∧ X[j * 5 + 3]? = some (.slice none 0 0)) ∧ Hid (∀ j, j < m → cliIn (fun i => X[i]?) (j * 5) ((k + 3 * j : Nat) : Int) ((k + 3 * j + 1 : Nat) : Int) (markT (k + 3 * j + 2))) ∧ w.grownBy wr (some g)) (fun _ i _ => n - (intOf i).toNat)
    case atStart => exact ⟨0, cur, Nat.zero_le _, rfl, rfl, hg, hs, H0, fun j hj => absurd hj (by omega), World.grownBy.refl _ _⟩
    case round =>
      obtain ⟨m, X, hm, rfl, rfl, hgr, hX, HN, HA, gw⟩ := hrel
      by_cases hlt : m < n
      · have i1 : (0 : Int) ≤ (m : Int) := by omega
        have i2 : (m : Int) < (n : Int) := by omega
        obtain ⟨kk, hkk⟩ : ∃ kk, kk = k + 3 * m := ⟨_, rfl⟩
        have hk9 : kk ≤ 100 := by omega
        have cM := fun W => markText_any (kk + 2) (by omega) W
        obtain ⟨T, hT⟩ : ∃ T, markT (kk + 2) = T := ⟨_, rfl⟩
        rw [hT] at cM
        have HT : Hid (markT (kk + 2) = T) := hT
        have z1 : IntKind.i64.wrap ((kk : Int) + 1) = ((kk + 1 : Nat) : Int) := by rw [IntKind.wrap_i64]; omega
        have z2 : IntKind.i64.wrap (((kk + 1 : Nat) : Int) + 1) = ((kk + 2 : Nat) : Int) := by rw [IntKind.wrap_i64]; omega
        have z3 : IntKind.i64.wrap (((kk + 2 : Nat) : Int) + 1) = ((kk + 3 : Nat) : Int) := by rw [IntKind.wrap_i64]; omega
        rw [← hkk]
        have HK : Hid (kk = k + 3 * m) := hkk
        clear hT hkk
        have lgr : g < wr.heap.size := (Array.getElem?_eq_some_iff.1 hgr).1
        obtain ⟨x0, hx0⟩ : ∃ x, wr.cell? ⟨g, m * 5, none⟩ = some x := ⟨_, (cell_of wr _ _ X _ hgr).trans (Array.getElem?_eq_getElem (by omega))⟩
        have hx1 : wr.cell? ⟨g, m * 5 + 1, none⟩ = some (.slice none 0 0) := (cell_of wr _ _ X _ hgr).trans (HN.out m hlt).1
        obtain ⟨x2, hx2⟩ : ∃ x, wr.cell? ⟨g, m * 5 + 2, none⟩ = some x := ⟨_, (cell_of wr _ _ X _ hgr).trans (Array.getElem?_eq_getElem (by omega))⟩
        have hx3 : wr.cell? ⟨g, m * 5 + 3, none⟩ = some (.slice none 0 0) := (cell_of wr _ _ X _ hgr).trans (HN.out m hlt).2
        have fz : ∀ i, wr.frozen? ⟨g, i, none⟩ = false := fun i => by simp [World.frozen?, hgr]
        go_wp2_with first
          | (go_at_call 40; refine (markOutS_none (kk + 1) _).mono ?_; rintro e w9 ⟨rfl, rfl⟩)
          | (go_at_call 41; refine (markStringS_none (kk + 2) _).mono ?_; rintro e w9 ⟨rfl, rfl⟩)
        obtain ⟨V2, hV2⟩ : ∃ V, (wr.setCell ⟨g, m * 5, none⟩ (.int .i64 (kk : Int))).setCell ⟨g, m * 5 + 2, none⟩ (.int .i64 ((kk : Int) + 1)) = V := ⟨_, rfl⟩
        have K2 := set_heap _ g (m * 5 + 2) _ _ _ (.int .i64 ((kk : Int) + 1)) (set_heap wr g (m * 5) X _ _ (.int .i64 (kk : Int)) hgr)
        have s2 : Below g wr V2 := by rw [← hV2]; exact ((Below.refl g wr).setCell (p := ⟨g, m * 5, none⟩) (Nat.le_refl _) _).setCell (p := ⟨g, m * 5 + 2, none⟩) (Nat.le_refl _) _
        have o2 : ∀ j, j ≠ g → V2.heap[j]? = wr.heap[j]? := fun j hj => by rw [← hV2, Below.heap_setCell _ _ _ _ (fun e => hj e), Below.heap_setCell _ _ _ _ (fun e => hj e)]
        rw [hV2] at K2 ⊢
        have cM2 : Calls Try.prog 22 #[.int .i64 ((kk : Int) + 2)] V2 fun e w' => e = .returned (.string T) ∧ Below V2.heap.size V2 w' := by have := cM V2; push_cast at this; exact this
        go_fit cM2
        rintro e w3 ⟨rfl, b3⟩
        have lg2 : g < V2.heap.size := (Array.getElem?_eq_some_iff.1 K2).1
        have hg3 := (b3.block g lg2).trans K2
        obtain ⟨x4, hx4⟩ : ∃ x, w3.cell? ⟨g, m * 5 + 4, none⟩ = some x := ⟨_, (cell_of w3 _ _ _ _ hg3).trans (Array.getElem?_eq_getElem (by simp; omega))⟩
        have f4 : w3.frozen? ⟨g, m * 5 + 4, none⟩ = false := by simp [World.frozen?, hg3]
        have k3 := set_heap w3 g (m * 5 + 4) _ _ _ (.string T) hg3
        have KK : Hid ((w3.setCell ⟨g, m * 5 + 4, none⟩ (.string T)).heap[g]? = some (.cells (((X.setIfInBounds (m * 5) (.int .i64 (kk : Int))).setIfInBounds (m * 5 + 2) (.int .i64 ((kk : Int) + 1))).setIfInBounds (m * 5 + 4) (.string T)) 49 (0, 0))) := k3
        have gw3 : w.grownBy (w3.setCell ⟨g, m * 5 + 4, none⟩ (.string T)) (some g) := by
          have bs := (Below.refl g w3).setCell (p := ⟨g, m * 5 + 4, none⟩) (Nat.le_refl _) (.string T)
          refine ⟨(bs.os.trans (b3.os.trans s2.os)).trans gw.os, (bs.tape.trans (b3.tape.trans s2.tape)).trans gw.tape, (bs.output.trans (b3.output.trans s2.output)).trans gw.output, Nat.le_trans gw.size (Nat.le_trans s2.size (Nat.le_trans b3.size bs.size)), fun j hj hne => ?_⟩
          have hjg : j ≠ g := fun e => hne (by rw [e])
          rw [Below.heap_setCell _ _ _ _ (fun e => hjg e), b3.block j (Nat.lt_of_lt_of_le (Nat.lt_of_lt_of_le hj gw.size) s2.size), o2 j hjg]
          exact gw.block j hj hne
        clear k3 hg3 K2 hx0 hx1 hx2 hx3 fz cM cM2 hgr s2 o2 b3
        go_wp2_with fail
        refine ⟨⟨m + 1, _, by omega, ?_, by go_num, KK.out, by simp [hX], fun j hj => ?_, fun j hj => ?_, gw3⟩, by simp [intOf]; omega⟩
        · have h9 := HK.out
          have h8 : k + 3 * (m + 1) = kk + 3 := by omega
          rw [h8]
          rfl
        · rw [at_set _ _ _ _ (by simp; omega), at_set _ _ _ _ (by simp; omega), at_set _ _ _ _ (by omega), if_neg (by omega), if_neg (by omega), if_neg (by omega), at_set _ _ _ _ (by simp; omega), at_set _ _ _ _ (by simp; omega), at_set _ _ _ _ (by omega), if_neg (by omega), if_neg (by omega), if_neg (by omega)]
          exact HN.out j hj
        · have h9 := HK.out
          have q : ∀ i, ((((X.setIfInBounds (m * 5) (.int .i64 (kk : Int))).setIfInBounds (m * 5 + 2) (.int .i64 ((kk : Int) + 1))).setIfInBounds (m * 5 + 4) (.string T))[i]?) = if m * 5 + 4 = i then some (.string T) else if m * 5 + 2 = i then some (.int .i64 ((kk : Int) + 1)) else if m * 5 = i then some (.int .i64 (kk : Int)) else X[i]? := fun i => by
            rw [at_set _ _ _ _ (by simp; omega), at_set _ _ _ _ (by simp; omega), at_set _ _ _ _ (by omega)]
          unfold cliIn
          dsimp only
          rw [q, q, q, q, q]
          by_cases hjm : j = m
          · subst hjm
            obtain ⟨n1, n3⟩ := HN.out j hlt
            rw [if_neg (by omega), if_neg (by omega), if_pos rfl, if_neg (by omega), if_neg (by omega), if_neg (by omega), if_neg (by omega), if_pos rfl, if_neg (by omega), if_neg (by omega), if_neg (by omega), if_pos rfl, ← h9]
            exact ⟨rfl, n1, rfl, n3, by rw [HT.out]⟩
          · rw [if_neg (by omega), if_neg (by omega), if_neg (by omega), if_neg (by omega), if_neg (by omega), if_neg (by omega), if_neg (by omega), if_neg (by omega), if_neg (by omega), if_neg (by omega), if_neg (by omega), if_neg (by omega), if_neg (by omega), if_neg (by omega), if_neg (by omega)]
            exact HA.out j (by omega)
      · obtain rfl : m = n := by omega
        go_wp2_with fail
        go_ret
        exact ⟨rfl, cli_row hb hgr hc hM' hX HA.out, gw⟩

set_option maxRecDepth 100000 in
set_option maxHeartbeats 4000000 in
theorem heldClientS_any (v : Value) (n k : Nat) (w : World) (hm : CliAt w v n (fun j => ((k + 3 * j : Nat) : Int)) (fun j => ((k + 3 * j + 1 : Nat) : Int)) (fun j => markT (k + 3 * j + 2))) (hn : n ≤ 4) (hk : k ≤ 10) :
    Calls Try.prog 26 #[v, .int .i64 k] w fun e w' => e = .returned (.int .i64 ((k + 3 * n : Nat) : Int)) ∧ Below w.heap.size w w' := by
  obtain ⟨o, cap, rfl, g1, g2', hc⟩ := hm
  have g2 : cap ≤ 9223372036854775807 := g2'
  clear g2'
  have HC : Hid (∀ j, j < n → ∃ b : Nat, o = some ⟨b, 0, none⟩ ∧ b < w.heap.size ∧ fiveAt w b (j * 5) ((k + 3 * j : Nat) : Int) ((k + 3 * j + 1 : Nat) : Int) (markT (k + 3 * j + 2))) := hc
  clear hc
  go_enter Try.func26, Try.ntmps26
  go_wp2_with fail
  go_loopw [1, 5] (fun l i wr => ∃ m : Nat, m ≤ n ∧ l = .int .i64 ((k + 3 * m : Nat) : Int) ∧ i = .int .i64 m ∧ Below w.heap.size w wr) (fun _ i _ => n - (intOf i).toNat)
  case atStart => exact ⟨0, Nat.zero_le _, rfl, rfl, Below.refl _ _⟩
  case round =>
    obtain ⟨m, hm, rfl, rfl, bw⟩ := hrel
    by_cases hlt : m < n
    · obtain ⟨b, ho, hb, c0⟩ := HC.out m hlt
      subst ho
      have i1 : (0 : Int) ≤ (m : Int) := by omega
      have i2 : (m : Int) < (n : Int) := by omega
      obtain ⟨kk, hkk⟩ : ∃ kk, kk = k + 3 * m := ⟨_, rfl⟩
      have hk9 : kk ≤ 100 := by omega
      have z1 : IntKind.i64.wrap ((kk : Int) + 1) = ((kk + 1 : Nat) : Int) := by rw [IntKind.wrap_i64]; omega
      have z2 : IntKind.i64.wrap (((kk + 1 : Nat) : Int) + 1) = ((kk + 2 : Nat) : Int) := by rw [IntKind.wrap_i64]; omega
      have z3 : IntKind.i64.wrap (((kk + 2 : Nat) : Int) + 1) = ((kk + 3 : Nat) : Int) := by rw [IntKind.wrap_i64]; omega
      rw [← hkk] at c0 ⊢
      have cM := fun W => markText_any (kk + 2) (by omega) W
      generalize markT (kk + 2) = T at *
      have NEW : Hid (∀ W : World, Below w.heap.size w W → fiveAt W b (m * 5) (kk : Int) ((kk + 1 : Nat) : Int) T) := fun W bb => c0.below hb bb
      have HK : Hid (kk = k + 3 * m) := hkk
      clear c0 hkk
      obtain ⟨d0, d1, d2, d3, d4⟩ := NEW.out wr bw
      have bwd : Below w.heap.size w wr.drew := bw.drew
      have hTT : (T.toList != T.toList) = false := bne_self_eq_false _
      have p1 : ¬ ((kk : Int) + 1 < 0) := by omega
      have p2 : ¬ ((kk : Int) + 2 < 0) := by omega
      go_wp2_with first
        | (go_at_call 45; refine (heldOutS_none (kk + 1) _).mono ?_; rintro e wr ⟨rfl, rfl⟩)
        | (go_at_call 46; refine (heldStringS_none (kk + 2) _).mono ?_; rintro e wr ⟨rfl, rfl⟩)
      have cN : ∀ W, Calls Try.prog 22 #[.int .i64 ((kk : Int) + 2)] W fun e w' => e = .returned (.string T) ∧ Below W.heap.size W w' := fun W => by have := cM W; push_cast at this; exact this
      go_region_held3 (fun W => W.cell? ⟨b, m * 5 + 4, none⟩ = some (.string T))
        (first | exact (NEW.out _ b1w).2.2.2.2 | exact (NEW.out _ bwd).2.2.2.2 | go_keep)
        (first
          | (go_at_call 22; refine (cN _).mono ?_; rintro e w1 ⟨rfl, b1⟩; have b1w : Below w.heap.size w w1 := bwd.trans (b1.mono bwd.size)))
      clear cM cN
      go_wp2_with fail
      refine ⟨⟨m + 1, by omega, ?_, by go_num, b1w⟩, by simp [intOf]; omega⟩
      have h9 := HK.out
      have h8 : k + 3 * (m + 1) = kk + 3 := by omega
      rw [h8]
      rfl
    · obtain rfl : m = n := by omega
      go_wp2_with fail
      go_ret
      exact ⟨rfl, bw⟩
end Go.Proofs.Ytkfdggcccegmlaa.Hub
