/-
  The law's own markText, markStringS, heldStringS, markLine, heldLine: what is marked is held, and nothing else is written.
-/
import Derived.Test.YtkhfigcmpigmnaaDoorLineBase
import Derived.Laws.BytesArg
namespace Go.Proofs.YtkhfigcmpigmnaaDoor.Hub
open Go.RowKit
set_option linter.unusedVariables false

/-- The figures of k ahead of a text. -/
def digF : Nat → Nat → ByteArray → ByteArray
  | 0, _, out => out
  | f + 1, k, out => if k = 0 then out else digF f (k / 10) (strOfNums [48 + (k : Int) % 10] ++ out)
/-- A mark. -/
def markT (k : Nat) : ByteArray := if k = 0 then ⟨#[109, 48]⟩ else ⟨#[109]⟩ ++ digF k k ⟨#[]⟩
theorem strOfNums_one (a : Int) : (strOfNums [a]).size = 1 := by simp [strOfNums, ByteArray.size]

theorem conv_mark (w : World) (a : Int) : (convert 38 9 (.slice (some ⟨w.heap.size, 0, none⟩) 1 1)).run Tryd.prog (w.alloc (.cells #[.int .u8 a] 5)) = .ok (.string (strOfNums [a])) (w.alloc (.cells #[.int .u8 a] 5)) :=
  run_convert_bytes_arg _ 38 5 Tryd.underlying38 Tryd.underlying5 _ _ 1 1 [a] rfl (fun i hi => by
    rw [line_cell]; obtain rfl : i = 0 := by simpa using hi
    rfl) 9 Tryd.underlying9

set_option maxRecDepth 100000 in
set_option maxHeartbeats 2000000 in
theorem markText_any (k : Nat) (hk : k ≤ 4000000) (w : World) :
    Calls Tryd.prog 13 #[.int .i64 k] w fun e w' => e = .returned (.string (markT k)) ∧ Below w.heap.size w w' := by
  unfold markT
  by_cases h0 : k = 0
  · subst h0
    rw [if_pos rfl]
    go_enter Tryd.func13, Tryd.ntmps13
    go_wp2_with fail
    go_ret
    exact ⟨rfl, Below.refl _ _⟩
  · have h1 : ¬ (k : Int) ≤ 0 := by omega
    rw [if_neg h0]
    obtain ⟨R, hR⟩ : ∃ R, digF k k ⟨#[]⟩ = R := ⟨_, rfl⟩
    rw [hR]
    have HR : Hid (digF k k ⟨#[]⟩ = R) := hR
    clear hR
    have hcv := conv_mark
    go_enter Tryd.func13, Tryd.ntmps13
    go_wp2_with fail
    go_loopw [0, 3] (fun i s wr => ∃ (f m : Nat) (out : ByteArray), i = .int .i64 m ∧ s = .string out ∧ m ≤ f ∧ out.size + m ≤ 4000000 ∧ Hid (digF f m out = R) ∧ Below w.heap.size w wr) (fun i _ _ => (intOf i).toNat)
    case atStart => exact ⟨k, k, ⟨#[]⟩, rfl, rfl, Nat.le_refl _, by show 0 + k ≤ _; omega, HR, Below.refl _ _⟩
    case round =>
      obtain ⟨f, m, out, rfl, rfl, hmf, hsz, HA, bw⟩ := hrel
      by_cases hm : m = 0
      · subst hm
        have hRR : out = R := by rw [← HA.out]; cases f <;> rfl
        subst hRR
        clear HA HR hcv
        go_wp2_with fail
        go_ret
        exact ⟨rfl, bw⟩
      · have hm1 : (0 : Int) < (m : Int) := by omega
        obtain ⟨f', rfl⟩ : ∃ f', f = f' + 1 := ⟨f - 1, by omega⟩
        have HB : Hid (digF f' (m / 10) (strOfNums [48 + (m : Int) % 10] ++ out) = R) := by
          have := HA.out
          rw [digF, if_neg hm] at this
          exact this
        have hq : m / 10 < m := Nat.div_lt_self (by omega) (by omega)
        have hr : m % 10 < 10 := Nat.mod_lt _ (by omega)
        have s1 := strOfNums_one (48 + (m : Int) % 10)
        clear HA HR
        go_wp2_with fail
        refine ⟨⟨f', m / 10, _, rfl, rfl, by omega, ?_, HB, bw.alloc bw.size _⟩, by simp [intOf]; omega⟩
        rw [ByteArray.size_append]
        omega

set_option maxRecDepth 100000 in
set_option maxHeartbeats 2000000 in
theorem markStringS_any (base : Nat) (v : Value) (n k : Nat) (S : Nat → ByteArray) (w : World) (hm : Own w base v n S) (hn : n ≤ 1048600) (hk : k ≤ 10) :
    Calls Tryd.prog 7 #[v, .int .i64 k] w fun e w' => e = .returned (.int .i64 ((k + n : Nat) : Int)) ∧ Own w' base v n (fun j => markT (k + j)) ∧ w.grownBy w' v.ownBlock := by
  rcases hm.2 with ⟨rfl, rfl⟩ | ⟨g, cap, cur, rfl, hb, hg, hc, hM, hs, htk⟩
  · go_enter Tryd.func7, Tryd.ntmps7
    go_wp2_with fail
    go_loop [1, 5] (fun l i => l = .int .i64 k ∧ i = .int .i64 0) (fun _ _ => 0)
    case atStart => exact ⟨rfl, rfl⟩
    case round =>
      obtain ⟨rfl, rfl⟩ := hrel
      go_wp2_with fail
      go_ret
      exact ⟨rfl, Own.nil _ _ _, World.grownBy.refl _ _⟩
  · have hM' : cap ≤ 9223372036854775807 := hM
    clear hM
    have hlen : ∀ j, j < n → cur[j]? = some (.string (S j)) := fun j hj => by
      have := strVs_at S n j hj
      rw [← htk, List.getElem?_take, if_pos (by omega), Array.getElem?_toList] at this
      exact this
    have lg : g < w.heap.size := (Array.getElem?_eq_some_iff.1 hg).1
    clear hm htk hlen
    go_enter Tryd.func7, Tryd.ntmps7
    go_wp2_with fail
    go_loopw [1, 5] (fun l i wr => ∃ (m : Nat) (C : Array Value), m ≤ n ∧ l = .int .i64 ((k + m : Nat) : Int) ∧ i = .int .i64 m ∧ wr.heap[g]? = some (.cells C 9 (0, 0)) ∧ C.size = cap ∧ Hid (∀ j, j < m → C[j]? = some (.string (markT (k + j)))) ∧ w.grownBy wr (some g)) (fun _ i _ => n - (intOf i).toNat)
    case atStart => exact ⟨0, cur, Nat.zero_le _, rfl, rfl, hg, by omega, fun j hj => absurd hj (by omega), World.grownBy.refl _ _⟩
    case round =>
      obtain ⟨m, C, hm, rfl, rfl, hgr, hC, HA, gw⟩ := hrel
      by_cases hlt : m < n
      · have i1 : (0 : Int) ≤ (m : Int) := by omega
        have i2 : (m : Int) < (n : Int) := by omega
        have cM := markText_any (k + m) (by omega) wr
        have lgr : g < wr.heap.size := (Array.getElem?_eq_some_iff.1 hgr).1
        obtain ⟨T, hT⟩ : ∃ T, markT (k + m) = T := ⟨_, rfl⟩
        rw [hT] at cM
        have HT : Hid (markT (k + m) = T) := hT
        clear hT
        go_wp2_with fail
        go_fit cM
        rintro e w1 ⟨rfl, b1⟩
        have hg1 := (b1.block g lgr).trans hgr
        have e0 : w1.cell? ⟨g, m, none⟩ = some (C[m]'(by omega)) := (cell_of w1 _ _ C _ hg1).trans (Array.getElem?_eq_getElem (by omega))
        obtain ⟨cv, hcv⟩ : ∃ cv, w1.cell? ⟨g, m, none⟩ = some cv := ⟨_, e0⟩
        clear e0
        have f0 : w1.frozen? ⟨g, m, none⟩ = false := by simp [World.frozen?, hg1]
        have k1 := set_heap w1 g m C _ _ (.string T) hg1
        have KK : Hid ((w1.setCell ⟨g, m, none⟩ (.string T)).heap[g]? = some (.cells (C.setIfInBounds m (.string T)) 9 (0, 0))) := k1
        have gw1 : w.grownBy (w1.setCell ⟨g, m, none⟩ (.string T)) (some g) := by
          have bs := (Below.refl g w1).setCell (p := ⟨g, m, none⟩) (Nat.le_refl _) (.string T)
          refine ⟨(bs.os.trans b1.os).trans gw.os, (bs.tape.trans b1.tape).trans gw.tape, (bs.output.trans b1.output).trans gw.output, Nat.le_trans gw.size (Nat.le_trans b1.size bs.size), fun j hj hne => ?_⟩
          rw [Below.heap_setCell _ _ _ _ (fun e => hne (by rw [e])), b1.block j (Nat.lt_of_lt_of_le hj gw.size)]
          exact gw.block j hj hne
        clear k1 cM hgr hg1
        go_wp2_with fail
        refine ⟨⟨m + 1, _, by omega, by go_num, rfl, KK.out, by simp [hC], fun j hj => ?_, gw1⟩, by simp [intOf]; omega⟩
        rw [at_set _ _ _ _ (by omega)]
        by_cases hjm : m = j
        · subst hjm; rw [if_pos rfl, HT.out]
        · rw [if_neg hjm]; exact HA.out j (by omega)
      · obtain rfl : m = n := by omega
        go_wp2_with fail
        go_ret
        refine ⟨rfl, ⟨by rw [strVs_len]; omega, .inr ⟨g, cap, C, rfl, hb, hgr, hc, hM', by omega, ?_⟩⟩, gw⟩
        apply List.ext_getElem?
        intro j
        rw [Nat.mul_one, List.getElem?_take]
        by_cases hj : j < m
        · rw [if_pos hj, Array.getElem?_toList, HA.out j hj, strVs_at _ m j hj]
        · rw [if_neg hj, List.getElem?_eq_none (by rw [strVs_len]; omega)]

set_option maxRecDepth 100000 in
set_option maxHeartbeats 2000000 in
theorem heldStringS_any (v : Value) (n k : Nat) (w : World) (hm : StrAt w v n (fun j => markT (k + j))) (hn : n ≤ 1048600) (hk : k ≤ 10) :
    Calls Tryd.prog 8 #[v, .int .i64 k] w fun e w' => e = .returned (.int .i64 ((k + n : Nat) : Int)) ∧ Below w.heap.size w w' := by
  obtain ⟨o, cap, rfl, g1, g2', hc⟩ := hm
  have g2 : cap ≤ 9223372036854775807 := g2'.1
  clear g2'
  have HC : Hid (∀ j, j < n → ∃ b f : Nat, o = some ⟨b, f, none⟩ ∧ b < w.heap.size ∧ w.cell? ⟨b, f + j, none⟩ = some (.string (markT (k + j)))) := hc
  clear hc
  go_enter Tryd.func8, Tryd.ntmps8
  go_wp2_with fail
  go_loopw [1, 5] (fun l i wr => ∃ m : Nat, m ≤ n ∧ l = .int .i64 ((k + m : Nat) : Int) ∧ i = .int .i64 m ∧ Below w.heap.size w wr) (fun _ i _ => n - (intOf i).toNat)
  case atStart => exact ⟨0, Nat.zero_le _, rfl, rfl, Below.refl _ _⟩
  case round =>
    obtain ⟨m, hm, rfl, rfl, bw⟩ := hrel
    by_cases hlt : m < n
    · obtain ⟨b, f, ho, hb, c0⟩ := HC.out m hlt
      subst ho
      have i1 : (0 : Int) ≤ (m : Int) := by omega
      have i2 : (m : Int) < (n : Int) := by omega
      have NEW : Hid (∀ W : World, Below w.heap.size w W → W.cell? ⟨b, f + m, none⟩ = some (.string (markT (k + m)))) := fun W bb => (bb.cell (p := ⟨b, f + m, none⟩) hb).trans c0
      have d0 := NEW.out wr bw
      have cM := fun W => markText_any (k + m) (by omega) W
      clear c0
      generalize markT (k + m) = T at *
      go_wp2_with fail
      refine wp_region_held_drew (S := fun W => W.cell? ⟨b, f + m, none⟩ = some (.string T)) (by kernel_rfl) ?_ (fun hHeld => ?_)
      · exact NEW.out _ bw.drew
      refine wpAnyH_take (i := 0) (v := ?_) rfl (by kernel_rfl) (by kernel_rfl) (by kernel_rfl) (fun _ _ _ h => h) (Or.inl ⟨by rfl, ?takeYhs0⟩) (by assumption) ?takeRhs0
      case takeYhs0 => (intro w hSw; (try dsimp only at hSw); go_simp; try (with_reducible rfl))
      simp only [Act.put, List.setIfInBounds_toArray, List.set_cons_zero, List.set_cons_succ, List.getElem_toArray, List.getElem_cons_zero]
      refine wpAnyH_take (i := 1) (v := ?_) rfl (by kernel_rfl) (by kernel_rfl) (by kernel_rfl) (fun _ _ _ h => h) (Or.inl ⟨by rfl, ?takeYhs1⟩) (by assumption) ?takeRhs1
      case takeYhs1 => (intro w hSw; (try dsimp only at hSw); go_simp; try (with_reducible rfl))
      simp only [Act.put, List.setIfInBounds_toArray, List.set_cons_zero, List.set_cons_succ, List.getElem_toArray, List.getElem_cons_zero, List.getElem_cons_succ]
      refine wpAnyH_take (i := 2) (v := ?_) rfl (by kernel_rfl) (by kernel_rfl) (by kernel_rfl) (fun _ _ _ h => h) (Or.inl ⟨by rfl, ?takeYhs2⟩) (by assumption) ?takeRhs2
      case takeYhs2 => (intro w hSw; (try dsimp only at hSw); go_simp; try (with_reducible rfl))
      simp only [Act.put, List.setIfInBounds_toArray, List.set_cons_zero, List.set_cons_succ, List.getElem_toArray, List.getElem_cons_zero, List.getElem_cons_succ]
      refine wpAnyH_take (i := 3) (v := ?_) rfl (by kernel_rfl) (by kernel_rfl) (by kernel_rfl) (fun _ _ _ h => h) (Or.inl ⟨by rfl, ?takeYhs3⟩) (by assumption) ?takeRhs3
      case takeYhs3 => (intro w hSw; (try dsimp only at hSw); go_simp; try (with_reducible rfl))
      simp only [Act.put, List.setIfInBounds_toArray, List.set_cons_zero, List.set_cons_succ, List.getElem_toArray, List.getElem_cons_zero, List.getElem_cons_succ]
      refine wpAnyH_take (i := 4) (v := ?_) rfl (by kernel_rfl) (by kernel_rfl) (by kernel_rfl) (fun _ _ _ h => h) (Or.inl ⟨by rfl, ?takeYhs4⟩) (by assumption) ?takeRhs4
      case takeYhs4 => (intro w hSw; (try dsimp only at hSw); go_simp; try (with_reducible rfl))
      simp only [Act.put, List.setIfInBounds_toArray, List.set_cons_zero, List.set_cons_succ, List.getElem_toArray, List.getElem_cons_zero, List.getElem_cons_succ]
      refine wpAnyH_ready (rs := [5]) (by kernel_rfl) (by simp) ?_
      refine AllReadyH.cons rfl (fun K hK => ?_) AllReadyH.nil
      go_simp
      refine (cM _).mono ?_
      rintro e w1 ⟨rfl, b1⟩
      have bw1 : Below w.heap.size w w1 := bw.drew.trans (b1.mono bw.drew.size)
      go_wp2_with fail
      refine hK.out _ _ (NEW.out w1 bw1) (fun hHeldhs5 => ?_)
      clear hK K
      try simp only [Act.put, List.setIfInBounds_toArray, List.set_cons_zero, List.set_cons_succ, List.getElem_toArray, List.getElem_cons_zero, List.getElem_cons_succ]
      refine wpAnyH_take (i := 6) (v := ?_) rfl (by kernel_rfl) (by kernel_rfl) (by kernel_rfl) (fun _ _ _ h => h) (Or.inl ⟨by rfl, ?takeYhs6⟩) (by assumption) ?takeRhs6
      case takeYhs6 => (intro w hSw; (try dsimp only at hSw); go_simp; try (with_reducible rfl))
      simp only [Act.put, List.setIfInBounds_toArray, List.set_cons_zero, List.set_cons_succ, List.getElem_toArray, List.getElem_cons_zero, List.getElem_cons_succ]
      refine wpAnyH_done (by kernel_rfl) ?_ _
      have hTT : (T.toList != T.toList) = false := bne_self_eq_false _
      go_wp2_with fail
      exact ⟨⟨m + 1, by omega, by go_num, rfl, bw1⟩, by simp [intOf]; omega⟩
    · obtain rfl : m = n := by omega
      go_wp2_with fail
      go_ret
      exact ⟨rfl, bw⟩
end Go.Proofs.YtkhfigcmpigmnaaDoor.Hub
