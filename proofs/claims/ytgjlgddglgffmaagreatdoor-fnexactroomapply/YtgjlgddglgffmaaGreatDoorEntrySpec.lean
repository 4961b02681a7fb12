/-
  The model's l6Bare, l6EntryOk and EntryOk: at every entry they answer bareT, entT.
-/
import Derived.Test.YtgjlgddglgffmaaGreatDoorEntryBare
namespace Go.Proofs.YtgjlgddglgffmaaGreatDoor.Hub
open Go.RowKit
set_option linter.unusedVariables false

/-- The cells of an entry that lies in a block of its own. -/
def Nine (W : World) (B : Nat) (r : ByteArray) (q k : Int) (u n t i f : ByteArray) (m : Int) : Prop :=
  W.cell? ⟨B, 0, none⟩ = some (.string r) ∧ W.cell? ⟨B, 1, none⟩ = some (.int .i64 q) ∧ W.cell? ⟨B, 2, none⟩ = some (.int .i64 k) ∧ W.cell? ⟨B, 3, none⟩ = some (.string u) ∧ W.cell? ⟨B, 4, none⟩ = some (.string n) ∧ W.cell? ⟨B, 5, none⟩ = some (.string t) ∧ W.cell? ⟨B, 6, none⟩ = some (.string i) ∧ W.cell? ⟨B, 7, none⟩ = some (.string f) ∧ W.cell? ⟨B, 8, none⟩ = some (.int .i64 m)
theorem nine_new (w : World) (ty : TypeId) (r : ByteArray) (q k : Int) (u n t i f : ByteArray) (m : Int) : Hid (∀ W : World, Below (w.alloc (.cells #[.string r, .int .i64 q, .int .i64 k, .string u, .string n, .string t, .string i, .string f, .int .i64 m] ty)).heap.size (w.alloc (.cells #[.string r, .int .i64 q, .int .i64 k, .string u, .string n, .string t, .string i, .string f, .int .i64 m] ty)) W → Nine W w.heap.size r q k u n t i f m) := fun W b =>
  ⟨(b.cell (p := ⟨w.heap.size, 0, none⟩) (by simp)).trans ((cellLit w _ _ 0).trans rfl), (b.cell (p := ⟨w.heap.size, 1, none⟩) (by simp)).trans ((cellLit w _ _ 1).trans rfl), (b.cell (p := ⟨w.heap.size, 2, none⟩) (by simp)).trans ((cellLit w _ _ 2).trans rfl), (b.cell (p := ⟨w.heap.size, 3, none⟩) (by simp)).trans ((cellLit w _ _ 3).trans rfl), (b.cell (p := ⟨w.heap.size, 4, none⟩) (by simp)).trans ((cellLit w _ _ 4).trans rfl), (b.cell (p := ⟨w.heap.size, 5, none⟩) (by simp)).trans ((cellLit w _ _ 5).trans rfl), (b.cell (p := ⟨w.heap.size, 6, none⟩) (by simp)).trans ((cellLit w _ _ 6).trans rfl), (b.cell (p := ⟨w.heap.size, 7, none⟩) (by simp)).trans ((cellLit w _ _ 7).trans rfl), (b.cell (p := ⟨w.heap.size, 8, none⟩) (by simp)).trans ((cellLit w _ _ 8).trans rfl)⟩

set_option maxRecDepth 100000 in
set_option maxHeartbeats 8000000 in
theorem l6Bare_any (r : ByteArray) (q k : Int) (u n t i f : ByteArray) (m : Int) (w : World) (hn : n.size ≤ 9223372036854775800) (ht : t.size ≤ 9223372036854775800) (hi : i.size ≤ 9223372036854775800) (hf : f.size ≤ 9223372036854775800) :
    Calls Tryz.prog 67 #[entV r q k u n t i f m] w fun e w' => e = .returned (.bool (bareT k n t i f m)) ∧ Below w.heap.size w w' := by
  have b0 : Below w.heap.size w (w.alloc (.cells #[.string r, .int .i64 q, .int .i64 k, .string u, .string n, .string t, .string i, .string f, .int .i64 m] 37)) := (Below.refl _ w).alloc (Nat.le_refl _) _
  have NEW := nine_new w 37 r q k u n t i f m
  have hN := l4Nick_any n (w.alloc (.cells #[.string r, .int .i64 q, .int .i64 k, .string u, .string n, .string t, .string i, .string f, .int .i64 m] 37)) hn
  have hB := fun W => l5Body_any t W ht
  have hI := fun W => l5Word_any i W hi
  have hF := fun W => l5Word_any f W hf
  have hM := fun W a b => l1In_any m a b W
  rcases kinds k with rfl | rfl | rfl | rfl | rfl | rfl | ⟨h1, h2, h3, h4, h5, h6⟩
  · rw [bareT_15 1 (by omega)]
    rcases noT_cases t with ⟨xt, ot⟩ | ⟨xt, ot⟩
    all_goals rw [ot]
    all_goals clear ot
    · subst xt
      rcases noT_cases i with ⟨xi, oi⟩ | ⟨xi, oi⟩
      all_goals rw [oi]
      all_goals clear oi
      · subst xi
        rcases noT_cases f with ⟨xf, of⟩ | ⟨xf, of⟩
        all_goals rw [of]
        all_goals clear of
        · subst xf
          obtain ⟨Rn, hRn⟩ : ∃ R, nickT n = R := ⟨_, rfl⟩
          rw [hRn] at hN ⊢
          clear hRn
          cases Rn
          · go_enter Tryz.func67, Tryz.ntmps67
            go_wp2_with (first | (go_at_call 64; go_fit hN; rintro e w1 ⟨rfl, b1⟩; obtain ⟨y0, y1, y2, y3, y4, y5, y6, y7, y8⟩ := NEW.out w1 b1))
            go_ret
            exact ⟨ret_bool (by first | (simp; done) | (simp; rfl)), b0.trans (b1.mono b0.size)⟩
          · skip
            go_enter Tryz.func67, Tryz.ntmps67
            go_wp2_with (first | (go_at_call 64; go_fit hN; rintro e w1 ⟨rfl, b1⟩; obtain ⟨y0, y1, y2, y3, y4, y5, y6, y7, y8⟩ := NEW.out w1 b1) | (go_at_call 34; go_fit (hM _ _ _); rintro e w4 ⟨rfl, rfl⟩))
            go_ret
            exact ⟨ret_bool (by unfold inI; simp), b0.trans (b1.mono b0.size)⟩
        · go_enter Tryz.func67, Tryz.ntmps67
          go_wp2_with fail
          go_ret
          exact ⟨ret_bool (by first | (simp; done) | (simp; rfl)), b0⟩
      · go_enter Tryz.func67, Tryz.ntmps67
        go_wp2_with fail
        go_ret
        exact ⟨ret_bool (by first | (simp; done) | (simp; rfl)), b0⟩
    · go_enter Tryz.func67, Tryz.ntmps67
      go_wp2_with fail
      go_ret
      exact ⟨ret_bool (by first | (simp; done) | (simp; rfl)), b0⟩
  · rw [bareT_2]
    rcases noT_cases t with ⟨xt, ot⟩ | ⟨xt, ot⟩
    all_goals rw [ot]
    all_goals clear ot
    · subst xt
      rcases noT_cases i with ⟨xi, oi⟩ | ⟨xi, oi⟩
      all_goals rw [oi]
      all_goals clear oi
      · subst xi
        rcases noT_cases f with ⟨xf, of⟩ | ⟨xf, of⟩
        all_goals rw [of]
        all_goals clear of
        · subst xf
          obtain ⟨Rn, hRn⟩ : ∃ R, nickT n = R := ⟨_, rfl⟩
          rw [hRn] at hN ⊢
          clear hRn
          cases Rn
          · go_enter Tryz.func67, Tryz.ntmps67
            go_wp2_with (first | (go_at_call 64; go_fit hN; rintro e w1 ⟨rfl, b1⟩; obtain ⟨y0, y1, y2, y3, y4, y5, y6, y7, y8⟩ := NEW.out w1 b1))
            go_ret
            exact ⟨ret_bool (by first | (simp; done) | (simp; rfl)), b0.trans (b1.mono b0.size)⟩
          · skip
            rcases (by omega : (0 ≤ m ∧ m ≤ 3) ∨ m < 0 ∨ (0 ≤ m ∧ 3 < m)) with hm | hm | hm
            · go_enter Tryz.func67, Tryz.ntmps67
              go_wp2_with (first | (go_at_call 64; go_fit hN; rintro e w1 ⟨rfl, b1⟩; obtain ⟨y0, y1, y2, y3, y4, y5, y6, y7, y8⟩ := NEW.out w1 b1) | (go_at_call 34; go_fit (hM _ _ _); rintro e w4 ⟨rfl, rfl⟩))
              go_ret
              exact ⟨ret_bool (by unfold inI; first | (simp; done) | (simp; omega) | (rw [Bool.eq_iff_iff]; simp; omega)), b0.trans (b1.mono b0.size)⟩
            · go_enter Tryz.func67, Tryz.ntmps67
              go_wp2_with (first | (go_at_call 64; go_fit hN; rintro e w1 ⟨rfl, b1⟩; obtain ⟨y0, y1, y2, y3, y4, y5, y6, y7, y8⟩ := NEW.out w1 b1) | (go_at_call 34; go_fit (hM _ _ _); rintro e w4 ⟨rfl, rfl⟩))
              go_ret
              exact ⟨ret_bool (by unfold inI; first | (simp; done) | (simp; omega) | (rw [Bool.eq_iff_iff]; simp; omega)), b0.trans (b1.mono b0.size)⟩
            · go_enter Tryz.func67, Tryz.ntmps67
              go_wp2_with (first | (go_at_call 64; go_fit hN; rintro e w1 ⟨rfl, b1⟩; obtain ⟨y0, y1, y2, y3, y4, y5, y6, y7, y8⟩ := NEW.out w1 b1) | (go_at_call 34; go_fit (hM _ _ _); rintro e w4 ⟨rfl, rfl⟩))
              go_ret
              exact ⟨ret_bool (by unfold inI; first | (simp; done) | (simp; omega) | (rw [Bool.eq_iff_iff]; simp; omega)), b0.trans (b1.mono b0.size)⟩
        · go_enter Tryz.func67, Tryz.ntmps67
          go_wp2_with fail
          go_ret
          exact ⟨ret_bool (by first | (simp; done) | (simp; rfl)), b0⟩
      · go_enter Tryz.func67, Tryz.ntmps67
        go_wp2_with fail
        go_ret
        exact ⟨ret_bool (by first | (simp; done) | (simp; rfl)), b0⟩
    · go_enter Tryz.func67, Tryz.ntmps67
      go_wp2_with fail
      go_ret
      exact ⟨ret_bool (by first | (simp; done) | (simp; rfl)), b0⟩
  · rw [bareT_3]
    obtain ⟨Rn, hRn⟩ : ∃ R, nickT n = R := ⟨_, rfl⟩
    rw [hRn] at hN ⊢
    clear hRn
    cases Rn
    · go_enter Tryz.func67, Tryz.ntmps67
      go_wp2_with (first | (go_at_call 64; go_fit hN; rintro e w1 ⟨rfl, b1⟩; obtain ⟨y0, y1, y2, y3, y4, y5, y6, y7, y8⟩ := NEW.out w1 b1))
      go_ret
      exact ⟨ret_bool (by first | (simp; done) | (simp; rfl)), b0.trans (b1.mono b0.size)⟩
    · skip
      obtain ⟨Rt, hRt⟩ : ∃ R, bodyT t = R := ⟨_, rfl⟩
      rw [hRt] at hB ⊢
      clear hRt
      cases Rt
      · go_enter Tryz.func67, Tryz.ntmps67
        go_wp2_with (first | (go_at_call 64; go_fit hN; rintro e w1 ⟨rfl, b1⟩; obtain ⟨y0, y1, y2, y3, y4, y5, y6, y7, y8⟩ := NEW.out w1 b1) | (go_at_call 35; go_fit (hB _); rintro e w2 ⟨rfl, b2⟩; clear y0 y1 y2 y3 y4 y5 y6 y7 y8; obtain ⟨y0, y1, y2, y3, y4, y5, y6, y7, y8⟩ := NEW.out w2 (b1.trans (b2.mono b1.size))))
        go_ret
        exact ⟨ret_bool (by first | (simp; done) | (simp; rfl)), b0.trans ((b1.trans (b2.mono b1.size)).mono b0.size)⟩
      · skip
        obtain ⟨Ri, hRi⟩ : ∃ R, wordT i = R := ⟨_, rfl⟩
        rw [hRi] at hI ⊢
        clear hRi
        cases Ri
        · go_enter Tryz.func67, Tryz.ntmps67
          go_wp2_with (first | (go_at_call 64; go_fit hN; rintro e w1 ⟨rfl, b1⟩; obtain ⟨y0, y1, y2, y3, y4, y5, y6, y7, y8⟩ := NEW.out w1 b1) | (go_at_call 35; go_fit (hB _); rintro e w2 ⟨rfl, b2⟩; clear y0 y1 y2 y3 y4 y5 y6 y7 y8; obtain ⟨y0, y1, y2, y3, y4, y5, y6, y7, y8⟩ := NEW.out w2 (b1.trans (b2.mono b1.size))) | (go_at_call 83; go_fit (hI _); rintro e w3 ⟨rfl, rfl⟩))
          go_ret
          exact ⟨ret_bool (by first | (simp; done) | (simp; rfl)), b0.trans ((b1.trans (b2.mono b1.size)).mono b0.size)⟩
        · skip
          rcases orE_cases wordT f with ⟨xf, of⟩ | ⟨xf, tf, of⟩ | ⟨xf, tf, of⟩
          all_goals rw [of]
          all_goals clear of
          · subst xf
            go_enter Tryz.func67, Tryz.ntmps67
            go_wp2_with (first | (go_at_call 64; go_fit hN; rintro e w1 ⟨rfl, b1⟩; obtain ⟨y0, y1, y2, y3, y4, y5, y6, y7, y8⟩ := NEW.out w1 b1) | (go_at_call 35; go_fit (hB _); rintro e w2 ⟨rfl, b2⟩; clear y0 y1 y2 y3 y4 y5 y6 y7 y8; obtain ⟨y0, y1, y2, y3, y4, y5, y6, y7, y8⟩ := NEW.out w2 (b1.trans (b2.mono b1.size))) | (go_at_call 83; go_fit (hI _); rintro e w3 ⟨rfl, rfl⟩))
            go_ret
            exact ⟨ret_bool (by first | (simp; done) | (simp; rfl)), b0.trans ((b1.trans (b2.mono b1.size)).mono b0.size)⟩
          · rw [tf] at hF
            clear tf
            go_enter Tryz.func67, Tryz.ntmps67
            go_wp2_with (first | (go_at_call 64; go_fit hN; rintro e w1 ⟨rfl, b1⟩; obtain ⟨y0, y1, y2, y3, y4, y5, y6, y7, y8⟩ := NEW.out w1 b1) | (go_at_call 35; go_fit (hB _); rintro e w2 ⟨rfl, b2⟩; clear y0 y1 y2 y3 y4 y5 y6 y7 y8; obtain ⟨y0, y1, y2, y3, y4, y5, y6, y7, y8⟩ := NEW.out w2 (b1.trans (b2.mono b1.size))) | (go_at_call 83; go_fit (hI _); rintro e w3 ⟨rfl, rfl⟩) | (go_at_call 83; go_fit (hF _); rintro e w3 ⟨rfl, rfl⟩))
            go_ret
            exact ⟨ret_bool (by first | (simp; done) | (simp; rfl)), b0.trans ((b1.trans (b2.mono b1.size)).mono b0.size)⟩
          · rw [tf] at hF
            clear tf
            go_enter Tryz.func67, Tryz.ntmps67
            go_wp2_with (first | (go_at_call 64; go_fit hN; rintro e w1 ⟨rfl, b1⟩; obtain ⟨y0, y1, y2, y3, y4, y5, y6, y7, y8⟩ := NEW.out w1 b1) | (go_at_call 35; go_fit (hB _); rintro e w2 ⟨rfl, b2⟩; clear y0 y1 y2 y3 y4 y5 y6 y7 y8; obtain ⟨y0, y1, y2, y3, y4, y5, y6, y7, y8⟩ := NEW.out w2 (b1.trans (b2.mono b1.size))) | (go_at_call 83; go_fit (hI _); rintro e w3 ⟨rfl, rfl⟩) | (go_at_call 83; go_fit (hF _); rintro e w3 ⟨rfl, rfl⟩))
            go_ret
            exact ⟨ret_bool (by first | (simp; done) | (simp; rfl)), b0.trans ((b1.trans (b2.mono b1.size)).mono b0.size)⟩
  · rw [bareT_4]
    obtain ⟨Rn, hRn⟩ : ∃ R, nickT n = R := ⟨_, rfl⟩
    rw [hRn] at hN ⊢
    clear hRn
    cases Rn
    · go_enter Tryz.func67, Tryz.ntmps67
      go_wp2_with (first | (go_at_call 64; go_fit hN; rintro e w1 ⟨rfl, b1⟩; obtain ⟨y0, y1, y2, y3, y4, y5, y6, y7, y8⟩ := NEW.out w1 b1))
      go_ret
      exact ⟨ret_bool (by first | (simp; done) | (simp; rfl)), b0.trans (b1.mono b0.size)⟩
    · skip
      obtain ⟨Rt, hRt⟩ : ∃ R, bodyT t = R := ⟨_, rfl⟩
      rw [hRt] at hB ⊢
      clear hRt
      cases Rt
      · go_enter Tryz.func67, Tryz.ntmps67
        go_wp2_with (first | (go_at_call 64; go_fit hN; rintro e w1 ⟨rfl, b1⟩; obtain ⟨y0, y1, y2, y3, y4, y5, y6, y7, y8⟩ := NEW.out w1 b1) | (go_at_call 35; go_fit (hB _); rintro e w2 ⟨rfl, b2⟩; clear y0 y1 y2 y3 y4 y5 y6 y7 y8; obtain ⟨y0, y1, y2, y3, y4, y5, y6, y7, y8⟩ := NEW.out w2 (b1.trans (b2.mono b1.size))))
        go_ret
        exact ⟨ret_bool (by first | (simp; done) | (simp; rfl)), b0.trans ((b1.trans (b2.mono b1.size)).mono b0.size)⟩
      · skip
        obtain ⟨Ri, hRi⟩ : ∃ R, wordT i = R := ⟨_, rfl⟩
        rw [hRi] at hI ⊢
        clear hRi
        cases Ri
        · go_enter Tryz.func67, Tryz.ntmps67
          go_wp2_with (first | (go_at_call 64; go_fit hN; rintro e w1 ⟨rfl, b1⟩; obtain ⟨y0, y1, y2, y3, y4, y5, y6, y7, y8⟩ := NEW.out w1 b1) | (go_at_call 35; go_fit (hB _); rintro e w2 ⟨rfl, b2⟩; clear y0 y1 y2 y3 y4 y5 y6 y7 y8; obtain ⟨y0, y1, y2, y3, y4, y5, y6, y7, y8⟩ := NEW.out w2 (b1.trans (b2.mono b1.size))) | (go_at_call 83; go_fit (hI _); rintro e w3 ⟨rfl, rfl⟩))
          go_ret
          exact ⟨ret_bool (by first | (simp; done) | (simp; rfl)), b0.trans ((b1.trans (b2.mono b1.size)).mono b0.size)⟩
        · skip
          rcases noT_cases f with ⟨xf, of⟩ | ⟨xf, of⟩
          all_goals rw [of]
          all_goals clear of
          · subst xf
            go_enter Tryz.func67, Tryz.ntmps67
            go_wp2_with (first | (go_at_call 64; go_fit hN; rintro e w1 ⟨rfl, b1⟩; obtain ⟨y0, y1, y2, y3, y4, y5, y6, y7, y8⟩ := NEW.out w1 b1) | (go_at_call 35; go_fit (hB _); rintro e w2 ⟨rfl, b2⟩; clear y0 y1 y2 y3 y4 y5 y6 y7 y8; obtain ⟨y0, y1, y2, y3, y4, y5, y6, y7, y8⟩ := NEW.out w2 (b1.trans (b2.mono b1.size))) | (go_at_call 83; go_fit (hI _); rintro e w3 ⟨rfl, rfl⟩))
            go_ret
            exact ⟨ret_bool (by first | (simp; done) | (simp; rfl)), b0.trans ((b1.trans (b2.mono b1.size)).mono b0.size)⟩
          · go_enter Tryz.func67, Tryz.ntmps67
            go_wp2_with (first | (go_at_call 64; go_fit hN; rintro e w1 ⟨rfl, b1⟩; obtain ⟨y0, y1, y2, y3, y4, y5, y6, y7, y8⟩ := NEW.out w1 b1) | (go_at_call 35; go_fit (hB _); rintro e w2 ⟨rfl, b2⟩; clear y0 y1 y2 y3 y4 y5 y6 y7 y8; obtain ⟨y0, y1, y2, y3, y4, y5, y6, y7, y8⟩ := NEW.out w2 (b1.trans (b2.mono b1.size))) | (go_at_call 83; go_fit (hI _); rintro e w3 ⟨rfl, rfl⟩))
            go_ret
            exact ⟨ret_bool (by first | (simp; done) | (simp; rfl)), b0.trans ((b1.trans (b2.mono b1.size)).mono b0.size)⟩
  · rw [bareT_15 5 (by omega)]
    rcases noT_cases t with ⟨xt, ot⟩ | ⟨xt, ot⟩
    all_goals rw [ot]
    all_goals clear ot
    · subst xt
      rcases noT_cases i with ⟨xi, oi⟩ | ⟨xi, oi⟩
      all_goals rw [oi]
      all_goals clear oi
      · subst xi
        rcases noT_cases f with ⟨xf, of⟩ | ⟨xf, of⟩
        all_goals rw [of]
        all_goals clear of
        · subst xf
          obtain ⟨Rn, hRn⟩ : ∃ R, nickT n = R := ⟨_, rfl⟩
          rw [hRn] at hN ⊢
          clear hRn
          cases Rn
          · go_enter Tryz.func67, Tryz.ntmps67
            go_wp2_with (first | (go_at_call 64; go_fit hN; rintro e w1 ⟨rfl, b1⟩; obtain ⟨y0, y1, y2, y3, y4, y5, y6, y7, y8⟩ := NEW.out w1 b1))
            go_ret
            exact ⟨ret_bool (by first | (simp; done) | (simp; rfl)), b0.trans (b1.mono b0.size)⟩
          · skip
            go_enter Tryz.func67, Tryz.ntmps67
            go_wp2_with (first | (go_at_call 64; go_fit hN; rintro e w1 ⟨rfl, b1⟩; obtain ⟨y0, y1, y2, y3, y4, y5, y6, y7, y8⟩ := NEW.out w1 b1) | (go_at_call 34; go_fit (hM _ _ _); rintro e w4 ⟨rfl, rfl⟩))
            go_ret
            exact ⟨ret_bool (by unfold inI; simp), b0.trans (b1.mono b0.size)⟩
        · go_enter Tryz.func67, Tryz.ntmps67
          go_wp2_with fail
          go_ret
          exact ⟨ret_bool (by first | (simp; done) | (simp; rfl)), b0⟩
      · go_enter Tryz.func67, Tryz.ntmps67
        go_wp2_with fail
        go_ret
        exact ⟨ret_bool (by first | (simp; done) | (simp; rfl)), b0⟩
    · go_enter Tryz.func67, Tryz.ntmps67
      go_wp2_with fail
      go_ret
      exact ⟨ret_bool (by first | (simp; done) | (simp; rfl)), b0⟩
  · rw [bareT_6]
    rcases noT_cases n with ⟨xn, on⟩ | ⟨xn, on⟩
    all_goals rw [on]
    all_goals clear on
    · subst xn
      rcases noT_cases t with ⟨xt, ot⟩ | ⟨xt, ot⟩
      all_goals rw [ot]
      all_goals clear ot
      · subst xt
        rcases noT_cases i with ⟨xi, oi⟩ | ⟨xi, oi⟩
        all_goals rw [oi]
        all_goals clear oi
        · subst xi
          rcases noT_cases f with ⟨xf, of⟩ | ⟨xf, of⟩
          all_goals rw [of]
          all_goals clear of
          · subst xf
            go_enter Tryz.func67, Tryz.ntmps67
            go_wp2_with (first | (go_at_call 34; go_fit (hM _ _ _); rintro e w4 ⟨rfl, rfl⟩))
            go_ret
            exact ⟨ret_bool (by unfold inI; simp), b0⟩
          · go_enter Tryz.func67, Tryz.ntmps67
            go_wp2_with fail
            go_ret
            exact ⟨ret_bool (by first | (simp; done) | (simp; rfl)), b0⟩
        · go_enter Tryz.func67, Tryz.ntmps67
          go_wp2_with fail
          go_ret
          exact ⟨ret_bool (by first | (simp; done) | (simp; rfl)), b0⟩
      · go_enter Tryz.func67, Tryz.ntmps67
        go_wp2_with fail
        go_ret
        exact ⟨ret_bool (by first | (simp; done) | (simp; rfl)), b0⟩
    · go_enter Tryz.func67, Tryz.ntmps67
      go_wp2_with fail
      go_ret
      exact ⟨ret_bool (by first | (simp; done) | (simp; rfl)), b0⟩
  · rw [bareT_no k ⟨h1, h2, h3, h4, h5, h6⟩]
    have q1 : (k == 1) = false := beq_eq_false_iff_ne.2 h1
    have q2 : (k == 2) = false := beq_eq_false_iff_ne.2 h2
    have q3 : (k == 3) = false := beq_eq_false_iff_ne.2 h3
    have q4 : (k == 4) = false := beq_eq_false_iff_ne.2 h4
    have q5 : (k == 5) = false := beq_eq_false_iff_ne.2 h5
    have q6 : (k == 6) = false := beq_eq_false_iff_ne.2 h6
    go_enter Tryz.func67, Tryz.ntmps67
    go_wp2_with fail
    go_ret
    exact ⟨ret_bool (by first | (simp; done) | (simp; rfl)), b0⟩

set_option maxRecDepth 100000 in
set_option maxHeartbeats 4000000 in
theorem l6EntryOk_any (r : ByteArray) (q k : Int) (u n t i f : ByteArray) (m : Int) (w : World) (hr : r.size ≤ 9223372036854775800) (hu : u.size ≤ 9223372036854775800) (hn : n.size ≤ 9223372036854775800) (ht : t.size ≤ 9223372036854775800) (hi : i.size ≤ 9223372036854775800) (hf : f.size ≤ 9223372036854775800) :
    Calls Tryz.prog 39 #[entV r q k u n t i f m] w fun e w' => e = .returned (.bool (entT r q k u n t i f m)) ∧ Below w.heap.size w w' := by
  have b0 : Below w.heap.size w (w.alloc (.cells #[.string r, .int .i64 q, .int .i64 k, .string u, .string n, .string t, .string i, .string f, .int .i64 m] 37)) := (Below.refl _ w).alloc (Nat.le_refl _) _
  have hR := fun W => l4User_any r W hr
  have hU := fun W => l4User_any u W hu
  have hQ := fun W => l1In_any q 0 9998 W
  have hB := fun W => l6Bare_any r q k u n t i f m W hn ht hi hf
  unfold entT
  have e3 : decide ((0 : Int) ≤ q ∧ q ≤ 9998) = inI q 0 9998 := Bool.decide_and _ _
  rw [e3] at hQ
  clear e3
  obtain ⟨Rr, hRr⟩ : ∃ R, userT r = R := ⟨_, rfl⟩
  rw [hRr] at hR ⊢
  clear hRr
  cases Rr
  · go_enter Tryz.func39, Tryz.ntmps39
    go_wp2_with (first | (go_at_call 33; go_fit (hR _); rintro e w3 ⟨rfl, rfl⟩))
    go_ret
    exact ⟨ret_bool (by simp), b0⟩
  · skip
    obtain ⟨Ru, hRu⟩ : ∃ R, userT u = R := ⟨_, rfl⟩
    rw [hRu] at hU ⊢
    clear hRu
    cases Ru
    · go_enter Tryz.func39, Tryz.ntmps39
      go_wp2_with (first | (go_at_call 33; go_fit (hR _); rintro e w3 ⟨rfl, rfl⟩) | (go_at_call 33; go_fit (hU _); rintro e w3 ⟨rfl, rfl⟩))
      go_ret
      exact ⟨ret_bool (by simp), b0⟩
    · skip
      obtain ⟨Rq, hRq⟩ : ∃ R, inI q 0 9998 = R := ⟨_, rfl⟩
      rw [hRq] at hQ ⊢
      clear hRq
      cases Rq
      · go_enter Tryz.func39, Tryz.ntmps39
        go_wp2_with (first | (go_at_call 33; go_fit (hR _); rintro e w3 ⟨rfl, rfl⟩) | (go_at_call 33; go_fit (hU _); rintro e w3 ⟨rfl, rfl⟩) | (go_at_call 34; go_fit (hQ _); rintro e w3 ⟨rfl, rfl⟩))
        go_ret
        exact ⟨ret_bool (by simp), b0⟩
      · skip
        go_enter Tryz.func39, Tryz.ntmps39
        go_wp2_with (first | (go_at_call 33; go_fit (hR _); rintro e w3 ⟨rfl, rfl⟩) | (go_at_call 33; go_fit (hU _); rintro e w3 ⟨rfl, rfl⟩) | (go_at_call 34; go_fit (hQ _); rintro e w3 ⟨rfl, rfl⟩) | (go_at_call 67; go_fit (hB _); rintro e w1 ⟨rfl, b1⟩))
        go_ret
        exact ⟨ret_bool (by simp), b0.trans (b1.mono b0.size)⟩

end Go.Proofs.YtgjlgddglgffmaaGreatDoor.Hub
