/-
  The law's own markText, beside the rooms' texts.
  The law's own markRankS over ranks of one's own.
  The law's own heldRankS and heldMemberS.
  The law's own markRoom and heldRoom.
-/
import Derived.Test.YtgjlgddglgffmaaGreatDoorRowL
import Derived.Laws.BytesArg
import Derived.Test.YtgjlgddglgffmaaGreatDoorAppT
import Derived.Deep.RegionHeld3
import Derived.Test.YtgjlgddglgffmaaGreatDoorAppW
namespace Go.Proofs.YtgjlgddglgffmaaGreatDoor.Hub
open Go.RowKit
set_option linter.unusedVariables false

theorem mark_cell (w : World) (C : Array Value) (t : TypeId) (i : Nat) : (w.alloc (.cells C t)).cell? ⟨w.heap.size, i, none⟩ = C[i]? := by
  simp [go_sem]
/-- The figures of k ahead of a text. -/
def digF : Nat → Nat → ByteArray → ByteArray
  | 0, _, out => out
  | f + 1, k, out => if k = 0 then out else digF f (k / 10) (strOfNums [48 + (k : Int) % 10] ++ out)
/-- A mark. -/
def markT (k : Nat) : ByteArray := if k = 0 then ⟨#[109, 48]⟩ else ⟨#[109]⟩ ++ digF k k ⟨#[]⟩
theorem strOfNums_one (a : Int) : (strOfNums [a]).size = 1 := by simp [strOfNums, ByteArray.size]

theorem conv_mark (w : World) (a : Int) : (convert 89 9 (.slice (some ⟨w.heap.size, 0, none⟩) 1 1)).run Tryz.prog (w.alloc (.cells #[.int .u8 a] 5)) = .ok (.string (strOfNums [a])) (w.alloc (.cells #[.int .u8 a] 5)) :=
  run_convert_bytes_arg _ 89 5 Tryz.underlying89 Tryz.underlying5 _ _ 1 1 [a] rfl (fun i hi => by
    rw [mark_cell]; obtain rfl : i = 0 := by simpa using hi
    rfl) 9 Tryz.underlying9

set_option maxRecDepth 100000 in
set_option maxHeartbeats 2000000 in
theorem markText_any (k : Nat) (hk : k ≤ 8000000) (w : World) :
    Calls Tryz.prog 61 #[.int .i64 k] w fun e w' => e = .returned (.string (markT k)) ∧ Below w.heap.size w w' := by
  unfold markT
  by_cases h0 : k = 0
  · subst h0
    rw [if_pos rfl]
    go_enter Tryz.func61, Tryz.ntmps61
    go_wp2_with fail
    go_ret
    exact ⟨rfl, Below.refl _ _⟩
  · have h1 : ¬ (k : Int) ≤ 0 := by omega
    rw [if_neg h0]
    obtain ⟨R, hR⟩ : ∃ R, digF k k ⟨#[]⟩ = R := ⟨_, rfl⟩
    rw [hR]
    have HR : Hid (digF k k ⟨#[]⟩ = R) := hR
    clear hR
    have hcv := conv_mark
    go_enter Tryz.func61, Tryz.ntmps61
    go_wp2_with fail
    go_loopw [0, 3] (fun i s wr => ∃ (f m : Nat) (out : ByteArray), i = .int .i64 m ∧ s = .string out ∧ m ≤ f ∧ out.size + m ≤ 8000000 ∧ Hid (digF f m out = R) ∧ Below w.heap.size w wr) (fun i _ _ => (intOf i).toNat)
    case atStart => exact ⟨k, k, ⟨#[]⟩, rfl, rfl, Nat.le_refl _, by show 0 + k ≤ _; omega, HR, Below.refl _ _⟩
    case round =>
      obtain ⟨f, m, out, rfl, rfl, hmf, hsz, HA, bw⟩ := hrel
      by_cases hm : m = 0
      · subst hm
        have hRR : out = R := by rw [← HA.out]; cases f <;> rfl
        subst hRR
        clear HA HR hcv
        go_wp2_with fail
        go_ret
        exact ⟨rfl, bw⟩
      · have hm1 : (0 : Int) < (m : Int) := by omega
        obtain ⟨f', rfl⟩ : ∃ f', f = f' + 1 := ⟨f - 1, by omega⟩
        have HB : Hid (digF f' (m / 10) (strOfNums [48 + (m : Int) % 10] ++ out) = R) := by
          have := HA.out
          rw [digF, if_neg hm] at this
          exact this
        have hq : m / 10 < m := Nat.div_lt_self (by omega) (by omega)
        have hr : m % 10 < 10 := Nat.mod_lt _ (by omega)
        have s1 := strOfNums_one (48 + (m : Int) % 10)
        clear HA HR
        go_wp2_with fail
        refine ⟨⟨f', m / 10, _, rfl, rfl, by omega, ?_, HB, bw.alloc bw.size _⟩, by simp [intOf]; omega⟩
        rw [ByteArray.size_append]
        omega
end Go.Proofs.YtgjlgddglgffmaaGreatDoor.Hub
namespace Go.Proofs.YtgjlgddglgffmaaGreatDoor.Hub
open Go.RowKit
set_option linter.unusedVariables false

set_option maxRecDepth 100000 in
set_option maxHeartbeats 4000000 in
theorem markRankS_any (base : Nat) (v : Value) (n k : Nat) (U : Nat → ByteArray) (R : Nat → Int) (w : World) (hm : OwnK w base v n U R) (hn : k + 2 * n ≤ 8000000) :
    Calls Tryz.prog 28 #[v, .int .i64 k] w fun e w' => e = .returned (.int .i64 ((k + 2 * n : Nat) : Int)) ∧ OwnK w' base v n (fun j => markT (k + 2 * j)) (fun j => ((k + 2 * j + 1 : Nat) : Int)) ∧ w.grownBy w' v.ownBlock := by
  rcases hm.2 with ⟨rfl, rfl⟩ | ⟨g, cap, cur0, rfl, hb, hg0, hc, hM, hs, htk⟩
  · go_enter Tryz.func28, Tryz.ntmps28
    go_wp2_with fail
    go_loop [1, 5] (fun l i => l = .int .i64 k ∧ i = .int .i64 0) (fun _ _ => 0)
    case atStart => exact ⟨rfl, rfl⟩
    case round =>
      obtain ⟨rfl, rfl⟩ := hrel
      go_wp2_with fail
      go_ret
      exact ⟨rfl, OwnL.nil _ _ _ _ _, World.grownBy.refl _ _⟩
  · have hM' : cap ≤ 9223372036854775807 := hM
    clear htk hs hg0 hM
    go_enter Tryz.func28, Tryz.ntmps28
    go_wp2_with fail
    go_loopw [1, 5] (fun l i wr => ∃ m : Nat, m ≤ n ∧ l = .int .i64 ((k + 2 * m : Nat) : Int) ∧ i = .int .i64 m ∧ OwnK wr base (.slice (some ⟨g, 0, none⟩) n cap) n (fun j => if j < m then markT (k + 2 * j) else U j) (fun j => if j < m then ((k + 2 * j + 1 : Nat) : Int) else R j) ∧ w.grownBy wr (some g)) (fun _ i _ => n - (intOf i).toNat)
    case atStart => exact ⟨0, Nat.zero_le _, rfl, rfl, OwnL.congr hm (fun j hj => by simp), World.grownBy.refl _ _⟩
    case round =>
      obtain ⟨m, hmn, rfl, rfl, OR, gw⟩ := hrel
      by_cases hlt : m < n
      · have i1 : (0 : Int) ≤ (m : Int) := by omega
        have i2 : (m : Int) < (n : Int) := by omega
        obtain ⟨kk, hkk⟩ : ∃ kk, kk = k + 2 * m := ⟨_, rfl⟩
        have hk9 : kk ≤ 8000000 - 2 := by omega
        have cM := markText_any kk (by omega) wr
        obtain ⟨T, hT⟩ : ∃ T, markT kk = T := ⟨_, rfl⟩
        rw [hT] at cM
        have HT : Hid (markT kk = T) := hT
        have z1 : IntKind.i64.wrap ((kk : Int) + 1) = ((kk + 1 : Nat) : Int) := by rw [IntKind.wrap_i64]; omega
        have z2 : IntKind.i64.wrap (((kk + 1 : Nat) : Int) + 1) = ((kk + 2 : Nat) : Int) := by rw [IntKind.wrap_i64]; omega
        rw [← hkk]
        have HK : Hid (kk = k + 2 * m) := hkk
        have HO : Hid (OwnK wr base (.slice (some ⟨g, 0, none⟩) n cap) n (fun j => if j < m then markT (k + 2 * j) else U j) (fun j => if j < m then ((k + 2 * j + 1 : Nat) : Int) else R j)) := OR
        clear hT hkk OR hm
        go_wp2_with fail
        go_fit cM
        rintro e w1 ⟨rfl, b1⟩
        have O1 := OwnL.below HO.out b1
        obtain ⟨cur, hbg, hg1, hnc, hcM, hcs, hcur⟩ := OwnL.row O1 (rankC_len _ _)
        obtain ⟨x0, hx0⟩ : ∃ x, w1.cell? ⟨g, m * 2, none⟩ = some x := ⟨_, (cell_of w1 _ _ _ _ hg1).trans (Array.getElem?_eq_getElem (by omega))⟩
        obtain ⟨x1, hx1⟩ : ∃ x, w1.cell? ⟨g, m * 2 + 1, none⟩ = some x := ⟨_, (cell_of w1 _ _ _ _ hg1).trans (Array.getElem?_eq_getElem (by omega))⟩
        have fz : ∀ i, w1.frozen? ⟨g, i, none⟩ = false := fun i => by simp [World.frozen?, hg1]
        have HO1 : Hid (OwnK w1 base (.slice (some ⟨g, 0, none⟩) n cap) n (fun j => if j < m then markT (k + 2 * j) else U j) (fun j => if j < m then ((k + 2 * j + 1 : Nat) : Int) else R j)) := O1
        clear O1 hcur hg1 cM
        go_wp2_with fail
        have h9 := HK.out
        have O2 := OwnL.put (k := m) (i0 := 0) (g' := rankC (fun j => if j < m + 1 then markT (k + 2 * j) else U j) (fun j => if j < m then ((k + 2 * j + 1 : Nat) : Int) else R j)) HO1.out (rankC_len _ _) (rankC_len _ _) (by omega) hlt (by omega) (.string T) (fun j hj i hi => by
          match i, hi with
          | 0, _ =>
            by_cases hjm : j = m
            · subst hjm; simp [rankC, ← h9, HT.out]
            · simp only [rankC, List.getElem?_cons_zero, hjm, false_and, if_false]
              by_cases hj2 : j < m
              · rw [if_pos (by omega), if_pos hj2]
              · rw [if_neg (by omega), if_neg hj2]
          | 1, _ => simp [rankC])
        have O3 := OwnL.put (k := m) (i0 := 1) (g' := rankC (fun j => if j < m + 1 then markT (k + 2 * j) else U j) (fun j => if j < m + 1 then ((k + 2 * j + 1 : Nat) : Int) else R j)) O2 (rankC_len _ _) (rankC_len _ _) (by omega) hlt (by omega) (.int .i64 ((kk : Int) + 1)) (fun j hj i hi => by
          match i, hi with
          | 0, _ => simp [rankC]
          | 1, _ =>
            by_cases hjm : j = m
            · subst hjm; simp [rankC, h9]
            · simp only [rankC, List.getElem?_cons_succ, List.getElem?_cons_zero, hjm, false_and, if_false]
              by_cases hj2 : j < m
              · rw [if_pos (by omega), if_pos hj2]
              · rw [if_neg (by omega), if_neg hj2])
        have gw3 : w.grownBy ((w1.setCell ⟨g, m * 2, none⟩ (.string T)).setCell ⟨g, m * 2 + 1, none⟩ (.int .i64 ((kk : Int) + 1))) (some g) := by
          have bs := ((Below.refl g w1).setCell (p := ⟨g, m * 2, none⟩) (Nat.le_refl _) (.string T)).setCell (p := ⟨g, m * 2 + 1, none⟩) (Nat.le_refl _) (.int .i64 ((kk : Int) + 1))
          refine ⟨(bs.os.trans b1.os).trans gw.os, (bs.tape.trans b1.tape).trans gw.tape, (bs.output.trans b1.output).trans gw.output, Nat.le_trans gw.size (Nat.le_trans b1.size bs.size), fun j hj hne => ?_⟩
          have hjg : j ≠ g := fun e => hne (by rw [e])
          rw [Below.heap_setCell _ _ _ _ (fun e => hjg e), Below.heap_setCell _ _ _ _ (fun e => hjg e), b1.block j (Nat.lt_of_lt_of_le hj gw.size)]
          exact gw.block j hj hne
        refine ⟨⟨m + 1, by omega, ?_, by go_num, O3, gw3⟩, by simp [intOf]; omega⟩
        have h8 : k + 2 * (m + 1) = kk + 2 := by omega
        rw [h8]
        rfl
      · obtain rfl : m = n := by omega
        go_wp2_with fail
        go_ret
        exact ⟨rfl, OwnL.congr OR (fun j hj => by simp only [rankC]; rw [if_pos hj, if_pos hj]), gw⟩
set_option maxRecDepth 100000 in
set_option maxHeartbeats 4000000 in
theorem markMemberS_any (base : Nat) (v : Value) (n k : Nat) (U N : Nat → ByteArray) (R : Nat → Int) (w : World) (hm : OwnM w base v n U N R) (hn : k + 3 * n ≤ 8000000) :
    Calls Tryz.prog 27 #[v, .int .i64 k] w fun e w' => e = .returned (.int .i64 ((k + 3 * n : Nat) : Int)) ∧ OwnM w' base v n (fun j => markT (k + 3 * j)) (fun j => markT (k + 3 * j + 1)) (fun j => ((k + 3 * j + 2 : Nat) : Int)) ∧ w.grownBy w' v.ownBlock := by
  rcases hm.2 with ⟨rfl, rfl⟩ | ⟨g, cap, cur0, rfl, hb, hg0, hc, hM, hs, htk⟩
  · go_enter Tryz.func27, Tryz.ntmps27
    go_wp2_with fail
    go_loop [1, 5] (fun l i => l = .int .i64 k ∧ i = .int .i64 0) (fun _ _ => 0)
    case atStart => exact ⟨rfl, rfl⟩
    case round =>
      obtain ⟨rfl, rfl⟩ := hrel
      go_wp2_with fail
      go_ret
      exact ⟨rfl, OwnL.nil _ _ _ _ _, World.grownBy.refl _ _⟩
  · have hM' : cap ≤ 9223372036854775807 := hM
    clear htk hs hg0 hM
    go_enter Tryz.func27, Tryz.ntmps27
    go_wp2_with fail
    go_loopw [1, 5] (fun l i wr => ∃ m : Nat, m ≤ n ∧ l = .int .i64 ((k + 3 * m : Nat) : Int) ∧ i = .int .i64 m ∧ OwnM wr base (.slice (some ⟨g, 0, none⟩) n cap) n (fun j => if j < m then markT (k + 3 * j) else U j) (fun j => if j < m then markT (k + 3 * j + 1) else N j) (fun j => if j < m then ((k + 3 * j + 2 : Nat) : Int) else R j) ∧ w.grownBy wr (some g)) (fun _ i _ => n - (intOf i).toNat)
    case atStart => exact ⟨0, Nat.zero_le _, rfl, rfl, OwnL.congr hm (fun j hj => by simp), World.grownBy.refl _ _⟩
    case round =>
      obtain ⟨m, hmn, rfl, rfl, OR, gw⟩ := hrel
      by_cases hlt : m < n
      · have i1 : (0 : Int) ≤ (m : Int) := by omega
        have i2 : (m : Int) < (n : Int) := by omega
        obtain ⟨kk, hkk⟩ : ∃ kk, kk = k + 3 * m := ⟨_, rfl⟩
        have hk9 : kk ≤ 8000000 - 3 := by omega
        have cM := markText_any kk (by omega) wr
        have cN := fun W => markText_any (kk + 1) (by omega) W
        obtain ⟨T, hT⟩ : ∃ T, markT kk = T := ⟨_, rfl⟩
        rw [hT] at cM
        have HT : Hid (markT kk = T) := hT
        obtain ⟨T2, hT2⟩ : ∃ T2, markT (kk + 1) = T2 := ⟨_, rfl⟩
        rw [hT2] at cN
        have HT2 : Hid (markT (kk + 1) = T2) := hT2
        have z1 : IntKind.i64.wrap ((kk : Int) + 1) = ((kk + 1 : Nat) : Int) := by rw [IntKind.wrap_i64]; omega
        have z2 : IntKind.i64.wrap (((kk + 1 : Nat) : Int) + 1) = ((kk + 2 : Nat) : Int) := by rw [IntKind.wrap_i64]; omega
        have z3 : IntKind.i64.wrap (((kk + 2 : Nat) : Int) + 1) = ((kk + 3 : Nat) : Int) := by rw [IntKind.wrap_i64]; omega
        rw [← hkk]
        have HK : Hid (kk = k + 3 * m) := hkk
        have HO : Hid (OwnM wr base (.slice (some ⟨g, 0, none⟩) n cap) n (fun j => if j < m then markT (k + 3 * j) else U j) (fun j => if j < m then markT (k + 3 * j + 1) else N j) (fun j => if j < m then ((k + 3 * j + 2 : Nat) : Int) else R j)) := OR
        clear hT hT2 hkk OR hm
        go_wp2_with fail
        go_fit cM
        rintro e w1 ⟨rfl, b1⟩
        have O1 := OwnL.below HO.out b1
        obtain ⟨cur, hbg, hg1, hnc, hcM, hcs, hcur⟩ := OwnL.row O1 (memC_len _ _ _)
        obtain ⟨x0, hx0⟩ : ∃ x, w1.cell? ⟨g, m * 3, none⟩ = some x := ⟨_, (cell_of w1 _ _ _ _ hg1).trans (Array.getElem?_eq_getElem (by omega))⟩
        have fz : w1.frozen? ⟨g, m * 3, none⟩ = false := by simp [World.frozen?, hg1]
        have h9 := HK.out
        have O2 := OwnL.put (k := m) (i0 := 0) (g' := memC (fun j => if j < m + 1 then markT (k + 3 * j) else U j) (fun j => if j < m then markT (k + 3 * j + 1) else N j) (fun j => if j < m then ((k + 3 * j + 2 : Nat) : Int) else R j)) O1 (memC_len _ _ _) (memC_len _ _ _) (by omega) hlt (by omega) (.string T) (fun j hj i hi => by
          match i, hi with
          | 0, _ =>
            by_cases hjm : j = m
            · subst hjm; simp [memC, ← h9, HT.out]
            · simp only [memC, List.getElem?_cons_zero, hjm, false_and, if_false]
              by_cases hj2 : j < m
              · rw [if_pos (by omega), if_pos hj2]
              · rw [if_neg (by omega), if_neg hj2]
          | 1, _ => simp [memC]
          | 2, _ => simp [memC])
        obtain ⟨V1, hV1⟩ : ∃ V1, w1.setCell ⟨g, m * 3, none⟩ (.string T) = V1 := ⟨_, rfl⟩
        have O2 : Hid (OwnM V1 base (.slice (some ⟨g, 0, none⟩) n cap) n (fun j => if j < m + 1 then markT (k + 3 * j) else U j) (fun j => if j < m then markT (k + 3 * j + 1) else N j) (fun j => if j < m then ((k + 3 * j + 2 : Nat) : Int) else R j)) := by rw [← hV1]; exact O2
        have gw1 : w.grownBy V1 (some g) := by
          rw [← hV1]
          have bs := (Below.refl g w1).setCell (p := ⟨g, m * 3, none⟩) (Nat.le_refl _) (.string T)
          refine ⟨(bs.os.trans b1.os).trans gw.os, (bs.tape.trans b1.tape).trans gw.tape, (bs.output.trans b1.output).trans gw.output, Nat.le_trans gw.size (Nat.le_trans b1.size bs.size), fun j hj hne => ?_⟩
          have hjg : j ≠ g := fun e => hne (by rw [e])
          rw [Below.heap_setCell _ _ _ _ (fun e => hjg e), b1.block j (Nat.lt_of_lt_of_le hj gw.size)]
          exact gw.block j hj hne
        have HV1 : Hid (w1.setCell ⟨g, m * 3, none⟩ (.string T) = V1) := hV1
        clear hV1 O1 hcur hg1 cM h9
        go_wp2_with fail
        rw [HV1.out]
        have cN2 : Calls Tryz.prog 61 #[.int .i64 ((kk : Int) + 1)] V1 fun e w' => e = .returned (.string T2) ∧ Below V1.heap.size V1 w' := by have := cN V1; push_cast at this; exact this
        refine cN2.mono ?_
        rintro e w2 ⟨rfl, b2⟩
        have O3 := OwnL.below O2.out b2
        obtain ⟨cur2, hbg2, hg2, hnc2, hcM2, hcs2, hcur2⟩ := OwnL.row O3 (memC_len _ _ _)
        obtain ⟨x1, hx1⟩ : ∃ x, w2.cell? ⟨g, m * 3 + 1, none⟩ = some x := ⟨_, (cell_of w2 _ _ _ _ hg2).trans (Array.getElem?_eq_getElem (by omega))⟩
        obtain ⟨x2, hx2⟩ : ∃ x, w2.cell? ⟨g, m * 3 + 2, none⟩ = some x := ⟨_, (cell_of w2 _ _ _ _ hg2).trans (Array.getElem?_eq_getElem (by omega))⟩
        have fz2 : ∀ i, w2.frozen? ⟨g, i, none⟩ = false := fun i => by simp [World.frozen?, hg2]
        have HO3 : Hid (OwnM w2 base (.slice (some ⟨g, 0, none⟩) n cap) n (fun j => if j < m + 1 then markT (k + 3 * j) else U j) (fun j => if j < m then markT (k + 3 * j + 1) else N j) (fun j => if j < m then ((k + 3 * j + 2 : Nat) : Int) else R j)) := O3
        clear O3 hcur2 hg2 cN cN2
        go_wp2_with fail
        have h9 := HK.out
        have O4 := OwnL.put (k := m) (i0 := 1) (g' := memC (fun j => if j < m + 1 then markT (k + 3 * j) else U j) (fun j => if j < m + 1 then markT (k + 3 * j + 1) else N j) (fun j => if j < m then ((k + 3 * j + 2 : Nat) : Int) else R j)) HO3.out (memC_len _ _ _) (memC_len _ _ _) (by omega) hlt (by omega) (.string T2) (fun j hj i hi => by
          match i, hi with
          | 0, _ => simp [memC]
          | 1, _ =>
            by_cases hjm : j = m
            · subst hjm; simp [memC, ← h9, HT2.out]
            · simp only [memC, List.getElem?_cons_succ, List.getElem?_cons_zero, hjm, false_and, if_false]
              by_cases hj2 : j < m
              · rw [if_pos (by omega), if_pos hj2]
              · rw [if_neg (by omega), if_neg hj2]
          | 2, _ => simp [memC])
        have O5 := OwnL.put (k := m) (i0 := 2) (g' := memC (fun j => if j < m + 1 then markT (k + 3 * j) else U j) (fun j => if j < m + 1 then markT (k + 3 * j + 1) else N j) (fun j => if j < m + 1 then ((k + 3 * j + 2 : Nat) : Int) else R j)) O4 (memC_len _ _ _) (memC_len _ _ _) (by omega) hlt (by omega) (.int .i64 ((kk : Int) + 2)) (fun j hj i hi => by
          match i, hi with
          | 0, _ => simp [memC]
          | 1, _ => simp [memC]
          | 2, _ =>
            by_cases hjm : j = m
            · subst hjm; simp [memC, h9]
            · simp only [memC, List.getElem?_cons_succ, List.getElem?_cons_zero, hjm, false_and, if_false]
              by_cases hj2 : j < m
              · rw [if_pos (by omega), if_pos hj2]
              · rw [if_neg (by omega), if_neg hj2])
        have gw3 : w.grownBy ((w2.setCell ⟨g, m * 3 + 1, none⟩ (.string T2)).setCell ⟨g, m * 3 + 2, none⟩ (.int .i64 ((kk : Int) + 2))) (some g) := by
          have bs := ((Below.refl g w2).setCell (p := ⟨g, m * 3 + 1, none⟩) (Nat.le_refl _) (.string T2)).setCell (p := ⟨g, m * 3 + 2, none⟩) (Nat.le_refl _) (.int .i64 ((kk : Int) + 2))
          refine ⟨(bs.os.trans b2.os).trans gw1.os, (bs.tape.trans b2.tape).trans gw1.tape, (bs.output.trans b2.output).trans gw1.output, Nat.le_trans gw1.size (Nat.le_trans b2.size bs.size), fun j hj hne => ?_⟩
          have hjg : j ≠ g := fun e => hne (by rw [e])
          rw [Below.heap_setCell _ _ _ _ (fun e => hjg e), Below.heap_setCell _ _ _ _ (fun e => hjg e), b2.block j (Nat.lt_of_lt_of_le hj gw1.size)]
          exact gw1.block j hj hne
        refine ⟨⟨m + 1, by omega, ?_, by go_num, O5, gw3⟩, by simp [intOf]; omega⟩
        have h8 : k + 3 * (m + 1) = kk + 3 := by omega
        rw [h8]
        rfl
      · obtain rfl : m = n := by omega
        go_wp2_with fail
        go_ret
        exact ⟨rfl, OwnL.congr OR (fun j hj => by simp only [memC]; rw [if_pos hj, if_pos hj, if_pos hj]), gw⟩
end Go.Proofs.YtgjlgddglgffmaaGreatDoor.Hub
namespace Go.Proofs.YtgjlgddglgffmaaGreatDoor.Hub
open Go.RowKit
set_option linter.unusedVariables false

set_option maxRecDepth 100000 in
set_option maxHeartbeats 4000000 in
theorem heldRankS_any (v : Value) (n k : Nat) (w : World) (hm : RankAt w v n (fun j => markT (k + 2 * j)) (fun j => ((k + 2 * j + 1 : Nat) : Int))) (hn : k + 2 * n ≤ 8000000) :
    Calls Tryz.prog 30 #[v, .int .i64 k] w fun e w' => e = .returned (.int .i64 ((k + 2 * n : Nat) : Int)) ∧ Below w.heap.size w w' := by
  obtain ⟨o, cap, rfl, g1, g2', hc⟩ := hm
  have g2 : cap ≤ 9223372036854775807 := g2'
  have HC := (show Hid _ from hc)
  clear hc g2'
  go_enter Tryz.func30, Tryz.ntmps30
  go_wp2_with fail
  go_loopw [1, 5] (fun l i wr => ∃ m : Nat, m ≤ n ∧ l = .int .i64 ((k + 2 * m : Nat) : Int) ∧ i = .int .i64 m ∧ Below w.heap.size w wr) (fun _ i _ => n - (intOf i).toNat)
  case atStart => exact ⟨0, Nat.zero_le _, rfl, rfl, Below.refl _ _⟩
  case round =>
    obtain ⟨m, hm, rfl, rfl, bw⟩ := hrel
    by_cases hlt : m < n
    · obtain ⟨b, f, ho, hb, c0, c1⟩ := HC.out m hlt
      subst ho
      have i1 : (0 : Int) ≤ (m : Int) := by omega
      have i2 : (m : Int) < (n : Int) := by omega
      obtain ⟨kk, hkk⟩ : ∃ kk, kk = k + 2 * m := ⟨_, rfl⟩
      have hk9 : kk ≤ 8000000 - 2 := by omega
      have z1 : IntKind.i64.wrap ((kk : Int) + 1) = ((kk + 1 : Nat) : Int) := by rw [IntKind.wrap_i64]; omega
      have z2 : IntKind.i64.wrap (((kk + 1 : Nat) : Int) + 1) = ((kk + 2 : Nat) : Int) := by rw [IntKind.wrap_i64]; omega
      have z3 : IntKind.i64.wrap (((kk + 2 : Nat) : Int) + 1) = ((kk + 3 : Nat) : Int) := by rw [IntKind.wrap_i64]; omega
      rw [← hkk] at c0 c1 ⊢
      have cM := fun W => markText_any kk (by omega) W
      have cN := fun W => markText_any (kk + 1) (by omega) W
      obtain ⟨T, hT⟩ : ∃ T, markT kk = T := ⟨_, rfl⟩
      obtain ⟨T2, hT2⟩ : ∃ T2, markT (kk + 1) = T2 := ⟨_, rfl⟩
      rw [hT] at cM c0
      rw [hT2] at cN
      have cN2 : ∀ W, Calls Tryz.prog 61 #[.int .i64 ((kk : Int) + 1)] W fun e w' => e = .returned (.string T2) ∧ Below W.heap.size W w' := fun W => by have := cN W; push_cast at this; exact this
      have NEW : Hid (∀ W : World, Below w.heap.size w W → W.cell? ⟨b, f + m * 2, none⟩ = some (.string T) ∧ W.cell? ⟨b, f + m * 2 + 1, none⟩ = some (.int .i64 ((kk : Int) + 1))) := fun W bb => ⟨(bb.cell (p := ⟨b, f + m * 2, none⟩) hb).trans c0, (bb.cell (p := ⟨b, f + m * 2 + 1, none⟩) hb).trans (c1.trans (by push_cast; rfl))⟩
      have HK : Hid (kk = k + 2 * m) := hkk
      clear c0 c1 hkk hT hT2 cN
      have bwd : Below w.heap.size w wr.drew := bw.drew
      have hTT : (T.toList != T.toList) = false := bne_self_eq_false _
      have hTT2 : (T2.toList != T2.toList) = false := bne_self_eq_false _
      go_wp2_with fail
      go_region_held3 (fun W => W.cell? ⟨b, f + m * 2, none⟩ = some (.string T))
        (first | exact (NEW.out _ b1w).1 | exact (NEW.out _ bwd).1 | go_keep)
        (first
          | (go_at_call 61; refine (cM _).mono ?_; rintro e w1 ⟨rfl, b1⟩; have b1w : Below w.heap.size w w1 := bwd.trans (b1.mono bwd.size)))
      have e2 := (NEW.out w1 b1w).2
      clear cM cN2 NEW
      go_wp2_with fail
      refine ⟨⟨m + 1, by omega, ?_, by go_num, b1w⟩, by simp [intOf]; omega⟩
      have h9 := HK.out
      have h8 : k + 2 * (m + 1) = kk + 2 := by omega
      rw [h8]
      rfl
    · obtain rfl : m = n := by omega
      go_wp2_with fail
      go_ret
      exact ⟨rfl, bw⟩

set_option maxRecDepth 100000 in
set_option maxHeartbeats 4000000 in
theorem heldMemberS_any (v : Value) (n k : Nat) (w : World) (hm : MemAt w v n (fun j => markT (k + 3 * j)) (fun j => markT (k + 3 * j + 1)) (fun j => ((k + 3 * j + 2 : Nat) : Int))) (hn : k + 3 * n ≤ 8000000) :
    Calls Tryz.prog 29 #[v, .int .i64 k] w fun e w' => e = .returned (.int .i64 ((k + 3 * n : Nat) : Int)) ∧ Below w.heap.size w w' := by
  obtain ⟨o, cap, rfl, g1, g2', hc⟩ := hm
  have g2 : cap ≤ 9223372036854775807 := g2'
  have HC := (show Hid _ from hc)
  clear hc g2'
  go_enter Tryz.func29, Tryz.ntmps29
  go_wp2_with fail
  go_loopw [1, 5] (fun l i wr => ∃ m : Nat, m ≤ n ∧ l = .int .i64 ((k + 3 * m : Nat) : Int) ∧ i = .int .i64 m ∧ Below w.heap.size w wr) (fun _ i _ => n - (intOf i).toNat)
  case atStart => exact ⟨0, Nat.zero_le _, rfl, rfl, Below.refl _ _⟩
  case round =>
    obtain ⟨m, hm, rfl, rfl, bw⟩ := hrel
    by_cases hlt : m < n
    · obtain ⟨b, f, ho, hb, c0, c1, c2⟩ := HC.out m hlt
      subst ho
      have i1 : (0 : Int) ≤ (m : Int) := by omega
      have i2 : (m : Int) < (n : Int) := by omega
      obtain ⟨kk, hkk⟩ : ∃ kk, kk = k + 3 * m := ⟨_, rfl⟩
      have hk9 : kk ≤ 8000000 - 3 := by omega
      have z1 : IntKind.i64.wrap ((kk : Int) + 1) = ((kk + 1 : Nat) : Int) := by rw [IntKind.wrap_i64]; omega
      have z2 : IntKind.i64.wrap (((kk + 1 : Nat) : Int) + 1) = ((kk + 2 : Nat) : Int) := by rw [IntKind.wrap_i64]; omega
      have z3 : IntKind.i64.wrap (((kk + 2 : Nat) : Int) + 1) = ((kk + 3 : Nat) : Int) := by rw [IntKind.wrap_i64]; omega
      rw [← hkk] at c0 c1 c2 ⊢
      have cM := fun W => markText_any kk (by omega) W
      have cN := fun W => markText_any (kk + 1) (by omega) W
      obtain ⟨T, hT⟩ : ∃ T, markT kk = T := ⟨_, rfl⟩
      obtain ⟨T2, hT2⟩ : ∃ T2, markT (kk + 1) = T2 := ⟨_, rfl⟩
      rw [hT] at cM c0
      rw [hT2] at cN c1
      have cN2 : ∀ W, Calls Tryz.prog 61 #[.int .i64 ((kk : Int) + 1)] W fun e w' => e = .returned (.string T2) ∧ Below W.heap.size W w' := fun W => by have := cN W; push_cast at this; exact this
      have NEW : Hid (∀ W : World, Below w.heap.size w W → W.cell? ⟨b, f + m * 3, none⟩ = some (.string T) ∧ W.cell? ⟨b, f + m * 3 + 1, none⟩ = some (.string T2) ∧ W.cell? ⟨b, f + m * 3 + 2, none⟩ = some (.int .i64 ((kk : Int) + 2))) := fun W bb => ⟨(bb.cell (p := ⟨b, f + m * 3, none⟩) hb).trans c0, (bb.cell (p := ⟨b, f + m * 3 + 1, none⟩) hb).trans c1, (bb.cell (p := ⟨b, f + m * 3 + 2, none⟩) hb).trans (c2.trans (by push_cast; rfl))⟩
      have HK : Hid (kk = k + 3 * m) := hkk
      clear c0 c1 c2 hkk hT hT2 cN
      have bwd : Below w.heap.size w wr.drew := bw.drew
      have hTT : (T.toList != T.toList) = false := bne_self_eq_false _
      have hTT2 : (T2.toList != T2.toList) = false := bne_self_eq_false _
      go_wp2_with fail
      go_region_held3 (fun W => W.cell? ⟨b, f + m * 3, none⟩ = some (.string T))
        (first | exact (NEW.out _ b1w).1 | exact (NEW.out _ bwd).1 | go_keep)
        (first
          | (go_at_call 61; refine (cM _).mono ?_; rintro e w1 ⟨rfl, b1⟩; have b1w : Below w.heap.size w w1 := bwd.trans (b1.mono bwd.size)))
      have b1d : Below w.heap.size w w1.drew := b1w.drew
      go_wp2_with fail
      go_region_held3 (fun W => W.cell? ⟨b, f + m * 3 + 1, none⟩ = some (.string T2))
        (first | exact (NEW.out _ b2w).2.1 | exact (NEW.out _ b1d).2.1 | go_keep)
        (first
          | (go_at_call 61; refine (cN2 _).mono ?_; rintro e w2 ⟨rfl, b2⟩; have b2w : Below w.heap.size w w2 := b1d.trans (b2.mono b1d.size)))
      have e2 := (NEW.out w2 b2w).2.2
      clear cM cN2 NEW
      go_wp2_with fail
      refine ⟨⟨m + 1, by omega, ?_, by go_num, b2w⟩, by simp [intOf]; omega⟩
      have h9 := HK.out
      have h8 : k + 3 * (m + 1) = kk + 3 := by omega
      rw [h8]
      rfl
    · obtain rfl : m = n := by omega
      go_wp2_with fail
      go_ret
      exact ⟨rfl, bw⟩
end Go.Proofs.YtgjlgddglgffmaaGreatDoor.Hub
namespace Go.Proofs.YtgjlgddglgffmaaGreatDoor.Hub
open Go.RowKit
set_option linter.unusedVariables false

set_option maxRecDepth 100000 in
set_option maxHeartbeats 4000000 in
theorem markRoom_any (base : Nat) (nm sb : ByteArray) (nx : Int) (vm vk : Value) (n : Nat) (U N : Nat → ByteArray) (R : Nat → Int) (z : Nat) (KU : Nat → ByteArray) (KR : Nat → Int) (w : World) (hm : OwnM w base vm n U N R) (hk : OwnK w base vk z KU KR) (hA : Apart vm vk) (hn : 1 + 3 * n + 2 * z ≤ 8000000) :
    Calls Tryz.prog 11 #[roomV nm nx vm vk sb, .int .i64 1] w fun e w' => e = .returned (.int .i64 ((1 + 3 * n + 2 * z : Nat) : Int)) ∧ OwnM w' base vm n (fun j => markT (1 + 3 * j)) (fun j => markT (1 + 3 * j + 1)) (fun j => ((1 + 3 * j + 2 : Nat) : Int)) ∧ OwnK w' base vk z (fun j => markT (1 + 3 * n + 2 * j)) (fun j => ((1 + 3 * n + 2 * j + 1 : Nat) : Int)) ∧ (w'.os = w.os ∧ w'.tape = w.tape ∧ w'.output = w.output ∧ w.heap.size ≤ w'.heap.size ∧ ∀ q, q < w.heap.size → vm.ownBlock ≠ some q → vk.ownBlock ≠ some q → w'.heap[q]? = w.heap[q]?) := by
  obtain ⟨mo, mc, rfl⟩ := OwnL.shape hm
  obtain ⟨ko, kc, rfl⟩ := OwnL.shape hk
  have ML := OwnL.lt hm
  have KL := OwnL.lt hk
  obtain ⟨W1, hW1⟩ : ∃ W1, w.alloc (.cells #[.string nm, .int .i64 nx, .slice mo n mc, .slice ko z kc, .string sb] 33) = W1 := ⟨_, rfl⟩
  have hm1 : OwnM W1 base (.slice mo n mc) n U N R := by rw [← hW1]; exact OwnL.alloc hm _
  have hk1 : OwnK W1 base (.slice ko z kc) z KU KR := by rw [← hW1]; exact OwnL.alloc hk _
  have cA := markMemberS_any base (.slice mo n mc) n 1 U N R W1 hm1 (by omega)
  have cC := fun (W : World) (h : OwnK W base (.slice ko z kc) z KU KR) => markRankS_any base (.slice ko z kc) z (1 + 3 * n) KU KR W h (by omega)
  have e1 : W1.heap[w.heap.size]? = some (.cells #[.string nm, .int .i64 nx, .slice mo n mc, .slice ko z kc, .string sb] 33 (0, 0)) := by rw [← hW1]; exact World.alloc_heap_new w _
  have b1 : Below w.heap.size w W1 := by rw [← hW1]; exact (Below.refl _ w).alloc (Nat.le_refl _) _
  have l1 : w.heap.size < W1.heap.size := by rw [← hW1]; simp
  obtain ⟨u0, u1, u2, u3, u4⟩ := rm_cells e1
  obtain ⟨kk, hkk⟩ : ∃ kk, 1 + 3 * n = kk := ⟨_, rfl⟩
  rw [hkk] at cA
  simp only [hkk] at cC ⊢
  clear hkk
  go_enter Tryz.func11, Tryz.ntmps11
  go_wp2_with fail
  try rw [hW1]
  go_fit cA
  rintro e w2 ⟨rfl, o2, g2⟩
  have e2 := (g2.block w.heap.size l1 (fun e => by have := (ML _ e.symm).2; omega)).trans e1
  obtain ⟨x0, x1, x2, x3, x4⟩ := rm_cells e2
  have hk2 : OwnK w2 base (.slice ko z kc) z KU KR := OwnL.kept hk1 g2 (by
    cases hc : (Value.slice ko z kc).ownBlock with
    | none => exact .inl rfl
    | some q => right; intro e; exact hA q e.symm hc)
  go_wp2_with fail
  refine (cC w2 hk2).mono ?_
  rintro e w3 ⟨rfl, o3, g3⟩
  go_wp2_with fail
  go_ret
  have o2' : OwnM w3 base (.slice mo n mc) n (fun j => markT (1 + 3 * j)) (fun j => markT (1 + 3 * j + 1)) (fun j => ((1 + 3 * j + 2 : Nat) : Int)) := OwnL.kept o2 g3 (by
    cases hc : (Value.slice mo n mc).ownBlock with
    | none => exact .inl rfl
    | some q => right; intro e; exact hA q hc e.symm)
  exact ⟨rfl, o2', o3, g3.os.trans (g2.os.trans b1.os), g3.tape.trans (g2.tape.trans b1.tape), g3.output.trans (g2.output.trans b1.output), Nat.le_trans b1.size (Nat.le_trans g2.size g3.size), fun q hq0 ha hc => (g3.block q (Nat.lt_of_lt_of_le (Nat.lt_of_lt_of_le hq0 b1.size) g2.size) (fun e => hc e.symm)).trans ((g2.block q (Nat.lt_of_lt_of_le hq0 b1.size) (fun e => ha e.symm)).trans (b1.block q hq0))⟩

set_option maxRecDepth 100000 in
set_option maxHeartbeats 4000000 in
theorem heldRoom_any (nm sb : ByteArray) (nx : Int) (vm vk : Value) (n z : Nat) (w : World) (hm : MemAt w vm n (fun j => markT (1 + 3 * j)) (fun j => markT (1 + 3 * j + 1)) (fun j => ((1 + 3 * j + 2 : Nat) : Int))) (hk : RankAt w vk z (fun j => markT (1 + 3 * n + 2 * j)) (fun j => ((1 + 3 * n + 2 * j + 1 : Nat) : Int))) (hn : 1 + 3 * n + 2 * z ≤ 8000000) :
    Calls Tryz.prog 12 #[roomV nm nx vm vk sb, .int .i64 1] w fun e w' => e = .returned (.int .i64 ((1 + 3 * n + 2 * z : Nat) : Int)) ∧ Below w.heap.size w w' := by
  have hm' := hm
  have hk' := hk
  obtain ⟨mo, mc, rfl, -⟩ := hm'
  obtain ⟨ko, kc, rfl, -⟩ := hk'
  obtain ⟨W1, hW1⟩ : ∃ W1, w.alloc (.cells #[.string nm, .int .i64 nx, .slice mo n mc, .slice ko z kc, .string sb] 33) = W1 := ⟨_, rfl⟩
  have b1 : Below w.heap.size w W1 := by rw [← hW1]; exact (Below.refl _ w).alloc (Nat.le_refl _) _
  have cA := heldMemberS_any (.slice mo n mc) n 1 W1 (hm.below b1) (by omega)
  have cC := fun (W : World) (bb : Below w.heap.size w W) => heldRankS_any (.slice ko z kc) z (1 + 3 * n) W (hk.below bb) (by omega)
  have e1 : W1.heap[w.heap.size]? = some (.cells #[.string nm, .int .i64 nx, .slice mo n mc, .slice ko z kc, .string sb] 33 (0, 0)) := by rw [← hW1]; exact World.alloc_heap_new w _
  have l1 : w.heap.size < W1.heap.size := by rw [← hW1]; simp
  obtain ⟨u0, u1, u2, u3, u4⟩ := rm_cells e1
  obtain ⟨kk, hkk⟩ : ∃ kk, kk = 1 + 3 * n := ⟨_, rfl⟩
  rw [← hkk] at cA
  simp only [← hkk] at cC ⊢
  have z1 : ¬ (kk : Int) < 0 := by omega
  obtain ⟨mm, hmm⟩ : ∃ mm, mm = kk + 2 * z := ⟨_, rfl⟩
  simp only [← hmm] at cC ⊢
  have z2 : ¬ (mm : Int) < 0 := by omega
  clear hkk hmm hm hk
  go_enter Tryz.func12, Tryz.ntmps12
  go_wp2_with fail
  try rw [hW1]
  go_fit cA
  rintro e w2 ⟨rfl, b2⟩
  obtain ⟨x0, x1, x2, x3, x4⟩ := rm_cells ((b2.block w.heap.size l1).trans e1)
  have B2 := b1.trans (b2.mono b1.size)
  go_wp2_with fail
  refine (cC w2 B2).mono ?_
  rintro e w3 ⟨rfl, b3⟩
  go_wp2_with fail
  go_ret
  exact ⟨rfl, B2.trans (b3.mono B2.size)⟩
end Go.Proofs.YtgjlgddglgffmaaGreatDoor.Hub
