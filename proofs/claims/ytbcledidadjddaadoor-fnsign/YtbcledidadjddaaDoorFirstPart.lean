/-
  The program's firstPart and isRaw: at every text that is not empty firstPart answers what begins it (its sign, its bytes, how it stands).
-/
import Derived.Test.YtbcledidadjddaaDoorEntImplB
import Derived.Test.YtbcledidadjddaaDoorFull
namespace Go.Proofs.YtbcledidadjddaaDoor.Hub
open Go.RowKit Go.Proofs
set_option linter.unusedVariables false

/-- What the library's tables and variables hold. -/
def Env (w : World) : Prop := Tabs w ∧ ErrVar w
theorem Env.below {w w' : World} (h : Env w) (b : Below w.heap.size w w') : Env w' := ⟨Utf8Tabs_below h.1 b, h.2.below b⟩

theorem dec_go (s : ByteArray) (h : 0 < s.size) : Lib.decodeGo s = Utf8.decode s 0 := by
  unfold Lib.decodeGo
  rw [if_neg (by omega)]

set_option maxRecDepth 100000 in
set_option maxHeartbeats 2000000 in
theorem firstPart_any (s : ByteArray) (hs : s.size ≤ 1099511627776) (h0 : 0 < s.size) (w : World) (hE : Env w) :
    Calls Tryd.prog 69 #[.string s] w fun e w' => e = .returned (agg3 (part s 0)) ∧ Below w.heap.size w w' := by
  have hE1 : Env (w.alloc (.cells #[.int .i64 0, .int .i64 0, .int .i64 0] 64)) := hE.below ((Below.refl _ w).alloc (Nat.le_refl _) _)
  have hh0 : (0 : Int) < (s.size : Int) := by omega
  by_cases hc : (s.get! 0).toNat = 38
  · have hb : ((s[0].toNat : Int) == 38) = true := beq_iff_eq.2 (by rw [get_lt s 0 h0] at hc; omega)
    have hp : part s 0 = entPart s 0 := by unfold part; rw [if_pos hc]
    have he := fun w hv => entityPart_any s hs h0 w hv
    rw [hp]
    obtain ⟨T, hT⟩ : ∃ T, entPart s 0 = T := ⟨_, rfl⟩
    rw [hT] at he ⊢
    obtain ⟨t1, t2, t3⟩ := T
    clear hT hp hc
    go_enter Tryd.func69, Tryd.ntmps69
    go_wp2_with fail
    refine (he _ hE1.2).mono ?_
    rintro e w1 ⟨rfl, hg⟩
    obtain ⟨hc, hf⟩ := bcell hg
    have hz : w.heap.size < w1.heap.size := by have := hg.size; simp at this; omega
    unfold agg3
    go_wp2_with fail
    exact bodyPost_ret (v := agg3 (t1, t2, t3)) (by simp [results, Tryd.results69, go_sem, agg3, hc]) rfl ⟨rfl, three_below hg⟩
  · have hb : ((s[0].toNat : Int) == 38) = false := beq_eq_false_iff_ne.2 (by rw [get_lt s 0 h0] at hc; omega)
    have hp : part s 0 = if (nx s 0).2 = -1 then (0, 0, 1) else if (nx s 0).2 < 1 then (0, 0, 2) else ((nx s 0).1, (nx s 0).2, 0) := by unfold part; rw [if_neg hc]
    have hcn := cut_next (s.size - 0) (s.get! 0).toNat (s.get! (0 + 1)).toNat (s.get! (0 + 2)).toNat (s.get! (0 + 3)).toNat (by omega) (UInt8.toNat_lt _) (UInt8.toNat_lt _) (UInt8.toNat_lt _) (UInt8.toNat_lt _)
    simp only [Nat.sub_zero, Nat.zero_add] at hcn
    have hnx : nx s 0 = nextN s.size (s.get! 0).toNat (s.get! 1).toNat (s.get! 2).toNat (s.get! 3).toNat := by unfold nx; rw [Nat.sub_zero]
    rw [← hnx] at hcn
    have hfu := fun w hT => full_any s w h0 hT
    unfold Full at hfu
    generalize cutD s.size (s.get! 0).toNat (s.get! 1).toNat (s.get! 2).toNat = C at hcn hfu
    clear hc hnx
    by_cases hm : (nx s 0).2 = -1
    · rw [if_pos hm] at hp
      have hC : C = true := hcn.1 hm
      subst hC
      rw [hp]
      clear hp hcn hm
      go_enter Tryd.func69, Tryd.ntmps69
      go_wp2_with fail
      refine (hfu _ hE1.1).mono ?_
      rintro e w1 ⟨rfl, hg⟩
      obtain ⟨hc, hf⟩ := bcell hg
      have hz : w.heap.size < w1.heap.size := by have := hg.size; simp at this; omega
      go_wp2_with fail
      exact bodyPost_ret (v := agg3 (0, 0, 1)) (by simp [results, Tryd.results69, go_sem, agg3, hc]) rfl ⟨rfl, three_below hg⟩
    · rw [if_neg hm] at hp
      have hC : C = false := by
        cases C
        · rfl
        · exact absurd (hcn.2 rfl) hm
      subst hC
      clear hcn
      have hdc := fun w hT => Tryd.utf8_DecodeRuneInString s w hT
      rw [dec_go s h0] at hdc
      rcases nx_decode s 0 h0 with ⟨hbad, _, h2⟩ | ⟨r, k, h1, h2, h3, h4, h5, h6⟩
      · rw [if_pos (by omega)] at hp
        rw [hp]
        rw [hbad] at hdc
        clear hp hm h2 hbad
        go_enter Tryd.func69, Tryd.ntmps69
        go_wp2_with fail
        refine (hfu _ hE1.1).mono ?_
        rintro e w1 ⟨rfl, hg⟩
        go_wp2_with fail
        refine (hdc _ (hE1.below hg).1).mono ?_
        rintro e w2 ⟨rfl, hg2⟩
        have hg3 := hg.trans (hg2.mono hg.size)
        obtain ⟨hc, hf⟩ := bcell hg3
        have hz : w.heap.size < w2.heap.size := by have := hg3.size; simp at this; omega
        go_wp2_with fail
        exact bodyPost_ret (v := agg3 (0, 0, 2)) (by simp [results, Tryd.results69, go_sem, agg3, hc]) rfl ⟨rfl, three_below hg3⟩
      · rw [h5] at hdc
        have hr1 : decide ((r : Int) = 65533) = true → decide ((k : Int) = 1) = false := fun h => decide_eq_false (by have := of_decide_eq_true h; omega)
        have hrlt : r ≤ 1114111 := by
          have h9 := Lib.rune_le s 0
          rw [h5] at h9
          exact h9
        cases hsg : signB (r : Int)
        · rw [h6, finN_no hsg] at hp
          rw [if_pos (show (0 : Int) < 1 by omega)] at hp
          rw [hp]
          clear hp hm h6 h5 hr1
          by_cases hx : r = 65533 ∧ k = 1
          · exfalso; omega
          · rcases (by omega : r ≠ 65533 ∨ (r = 65533 ∧ k ≠ 1)) with hx1 | ⟨hx1, hx2⟩
            · have hq : ((r : Int) == 65533) = false := beq_eq_false_iff_ne.2 (by omega)
              go_enter Tryd.func69, Tryd.ntmps69
              go_wp2_with fail
              refine (hfu _ hE1.1).mono ?_
              rintro e w1 ⟨rfl, hg⟩
              go_wp2_with fail
              refine (hdc _ (hE1.below hg).1).mono ?_
              rintro e w2 ⟨rfl, hg2⟩
              have hg3 := hg.trans (hg2.mono hg.size)
              obtain ⟨hc, hf⟩ := bcell hg3
              have hz : w.heap.size < w2.heap.size := by have := hg3.size; simp at this; omega
              go_wp2_with (go_at_call 40; refine (isSign_any _ _).mono ?_; rintro e w' ⟨rfl, rfl⟩)
              exact bodyPost_ret (v := agg3 (0, 0, 2)) (by simp [results, Tryd.results69, go_sem, agg3, hc]) rfl ⟨rfl, three_below hg3⟩
            · subst hx1
              exfalso
              have : signB ((65533 : Nat) : Int) = true := by decide +kernel
              rw [this] at hsg
              cases hsg
        · rw [h6, finN_yes hsg] at hp
          rw [if_neg (show ¬ ((k : Nat) : Int) < 1 by omega)] at hp
          rw [hp]
          clear hp hm h6 h5 hr1
          rcases (by omega : r ≠ 65533 ∨ (r = 65533 ∧ k ≠ 1)) with hx1 | ⟨hx1, hx2⟩
          · have hq : ((r : Int) == 65533) = false := beq_eq_false_iff_ne.2 (by omega)
            go_enter Tryd.func69, Tryd.ntmps69
            go_wp2_with fail
            refine (hfu _ hE1.1).mono ?_
            rintro e w1 ⟨rfl, hg⟩
            go_wp2_with fail
            refine (hdc _ (hE1.below hg).1).mono ?_
            rintro e w2 ⟨rfl, hg2⟩
            have hg3 := hg.trans (hg2.mono hg.size)
            obtain ⟨hc, hf⟩ := bcell hg3
            have hz : w.heap.size < w2.heap.size := by have := hg3.size; simp at this; omega
            go_wp2_with (go_at_call 40; refine (isSign_any _ _).mono ?_; rintro e w' ⟨rfl, rfl⟩)
            exact bodyPost_ret (v := agg3 ((r : Int), (k : Int), 0)) (by simp [results, Tryd.results69, go_sem, agg3, hc]) rfl ⟨rfl, three_below hg3⟩
          · have hq : ((r : Int) == 65533) = true := beq_iff_eq.2 (by omega)
            have hq2 : ((k : Int) == 1) = false := beq_eq_false_iff_ne.2 (by omega)
            subst hx1
            go_enter Tryd.func69, Tryd.ntmps69
            go_wp2_with fail
            refine (hfu _ hE1.1).mono ?_
            rintro e w1 ⟨rfl, hg⟩
            go_wp2_with fail
            refine (hdc _ (hE1.below hg).1).mono ?_
            rintro e w2 ⟨rfl, hg2⟩
            have hg3 := hg.trans (hg2.mono hg.size)
            obtain ⟨hc, hf⟩ := bcell hg3
            have hz : w.heap.size < w2.heap.size := by have := hg3.size; simp at this; omega
            go_wp2_with (go_at_call 40; refine (isSign_any _ _).mono ?_; rintro e w' ⟨rfl, rfl⟩)
            exact bodyPost_ret (v := agg3 (((65533 : Nat) : Int), (k : Int), 0)) (by simp [results, Tryd.results69, go_sem, agg3, hc]) rfl ⟨rfl, three_below hg3⟩

/-- A part that is a byte as it stands. -/
def rawB (x : Int × Int × Int) (c : Nat) : Bool := decide (x.2.2 = 0 ∧ x.2.1 = 1 ∧ x.1 = (c : Int))

set_option maxRecDepth 100000 in
set_option maxHeartbeats 1000000 in
theorem isRaw_any (x : Int × Int × Int) (c : Nat) (hc : c < 256) (w : World) :
    Calls Tryd.prog 44 #[agg3 x, .int .u8 (c : Int)] w fun e w' => e = .returned (.bool (rawB x c)) ∧ Below w.heap.size w w' := by
  obtain ⟨x1, x2, x3⟩ := x
  unfold agg3 rawB
  simp only
  by_cases h3 : x3 = 0
  · by_cases h2 : x2 = 1
    · by_cases h1 : x1 = (c : Int)
      · have q3 : (x3 == 0) = true := beq_iff_eq.2 h3
        have q2 : (x2 == 1) = true := beq_iff_eq.2 h2
        have q1 : (x1 == (c : Int)) = true := beq_iff_eq.2 h1
        rw [decide_eq_true ⟨h3, h2, h1⟩]
        clear h1 h2 h3
        go_enter Tryd.func44, Tryd.ntmps44
        go_wp2_with fail
        go_ret
        exact ⟨rfl, by go_grown⟩
      · have q3 : (x3 == 0) = true := beq_iff_eq.2 h3
        have q2 : (x2 == 1) = true := beq_iff_eq.2 h2
        have q1 : (x1 == (c : Int)) = false := beq_eq_false_iff_ne.2 h1
        rw [decide_eq_false (fun h => h1 h.2.2)]
        clear h1 h2 h3
        go_enter Tryd.func44, Tryd.ntmps44
        go_wp2_with fail
        go_ret
        exact ⟨rfl, by go_grown⟩
    · have q3 : (x3 == 0) = true := beq_iff_eq.2 h3
      have q2 : (x2 == 1) = false := beq_eq_false_iff_ne.2 h2
      rw [decide_eq_false (fun h => h2 h.2.1)]
      clear h2 h3
      go_enter Tryd.func44, Tryd.ntmps44
      go_wp2_with fail
      go_ret
      exact ⟨rfl, by go_grown⟩
  · have q3 : (x3 == 0) = false := beq_eq_false_iff_ne.2 h3
    rw [decide_eq_false (fun h => h3 h.1)]
    clear h3
    go_enter Tryd.func44, Tryd.ntmps44
    go_wp2_with fail
    go_ret
    exact ⟨rfl, by go_grown⟩
end Go.Proofs.YtbcledidadjddaaDoor.Hub
