/-
  The model's l6MembersOk at every room.
-/
import Derived.Test.YtglbjibilllopaaDoorRoomOkS
namespace Go.Proofs.YtglbjibilllopaaDoor.Hub
open Go.RowKit
set_option linter.unusedVariables false

set_option maxRecDepth 100000 in
set_option maxHeartbeats 16000000 in
theorem l6MembersOk_any (nm sb : ByteArray) (nx : Int) (vm vk : Value) (n : Nat) (U N : Nat → ByteArray) (R : Nat → Int) (z : Nat) (KU : Nat → ByteArray) (KR : Nat → Int) (w : World) (hm : MemAt w vm n U N R) (hk : RankAt w vk z KU KR) (hs : ∀ j, j < n → (U j).size ≤ 9223372036854775800 ∧ (N j).size ≤ 9223372036854775800) :
    Calls Tryd.prog 38 #[roomV nm nx vm vk sb] w fun e w' => e = .returned (.bool (memsT n U N R z KU KR)) ∧ Below w.heap.size w w' := by
  obtain ⟨W0, hW0⟩ : ∃ W0, W0 = w.alloc (.cells #[.string nm, .int .i64 nx, vm, vk, .string sb] 31) := ⟨_, rfl⟩
  have b0 : Below w.heap.size w W0 := by rw [hW0]; exact below_alloc w _
  have hw0 : w.heap.size < W0.heap.size := by rw [hW0]; simp
  have RC : Hid (∀ W : World, Below W0.heap.size W0 W → W.cell? ⟨w.heap.size, 0, none⟩ = some (.string nm) ∧ W.cell? ⟨w.heap.size, 1, none⟩ = some (.int .i64 nx) ∧ W.cell? ⟨w.heap.size, 2, none⟩ = some vm ∧ W.cell? ⟨w.heap.size, 3, none⟩ = some vk ∧ W.cell? ⟨w.heap.size, 4, none⟩ = some (.string sb)) := fun W b => by
    have q : ∀ i, W.cell? ⟨w.heap.size, i, none⟩ = (#[.string nm, .int .i64 nx, vm, vk, .string sb] : Array Value)[i]? := fun i => (b.cell (p := ⟨w.heap.size, i, none⟩) hw0).trans (by rw [hW0]; exact room_cell w _ _ i)
    exact ⟨q 0, q 1, q 2, q 3, q 4⟩
  have hm0 := hm.below b0
  have hk0 := hk.below b0
  have CO := fun u W (b : Below W0.heap.size W0 W) => l6Of_any nm sb u nx vm vk n U N R W (hm0.below b)
  have CN := fun u W (b : Below W0.heap.size W0 W) => l6Nick_any nm sb u nx vm vk n U N R W (hm0.below b)
  have CR := fun u W (b : Below W0.heap.size W0 W) => l6Rank_any nm sb u nx vm vk z KU KR W (hk0.below b)
  have vks : ∃ o l c, vk = .slice o l c := by obtain ⟨o, c, h, _⟩ := hk; exact ⟨o, z, c, h⟩
  obtain ⟨o2, l2, c2, rfl⟩ := vks
  obtain ⟨o, cap, rfl, h1, h2', hc⟩ := hm0
  have h2 : cap ≤ 9223372036854775807 := h2'
  clear h2' hm hk hk0
  have HC : Hid (∀ j, j < n → ∃ b f : Nat, o = some ⟨b, f, none⟩ ∧ b < W0.heap.size ∧ W0.cell? ⟨b, f + j * 3, none⟩ = some (.string (U j)) ∧ W0.cell? ⟨b, f + j * 3 + 1, none⟩ = some (.string (N j)) ∧ W0.cell? ⟨b, f + j * 3 + 2, none⟩ = some (.int .i64 (R j))) := hc
  clear hc
  obtain ⟨F, hF⟩ : ∃ F, memsT n U N R z KU KR = F := ⟨_, rfl⟩
  have HF : Hid (memsT n U N R z KU KR = F) := hF
  have HS : Hid (∀ j, j < n → (U j).size ≤ 9223372036854775800 ∧ (N j).size ≤ 9223372036854775800) := hs
  rw [hF]
  clear hF hs
  go_enter Tryd.func38, Tryd.ntmps38
  go_wp2_with fail
  rw [← hW0]
  clear hW0
  obtain ⟨z0, z1, z2, z3, z4⟩ := RC.out W0 (Below.refl _ _)
  go_loopw [3] (fun i wr => ∃ k : Nat, k ≤ n ∧ i = .int .i64 k ∧ Below W0.heap.size W0 wr ∧ Hid (allTo (memOne n U N R z KU KR) k = true)) (fun i _ => n - (intOf i).toNat)
  case atStart => exact ⟨0, Nat.zero_le _, rfl, Below.refl _ _, (rfl : allTo (memOne n U N R z KU KR) 0 = true)⟩
  case round =>
    clear z0 z1 z2 z3 z4
    obtain ⟨k, hk, rfl, bw, HA⟩ := hrel
    obtain ⟨z0, z1, z2, z3, z4⟩ := RC.out wr bw
    by_cases hlt : k < n
    · obtain ⟨b, f, ho, hb, c0, c1, c2⟩ := HC.out k hlt
      subst ho
      have c0r := (bw.cell (p := ⟨b, f + k * 3, none⟩) hb).trans c0
      have c1r := (bw.cell (p := ⟨b, f + k * 3 + 1, none⟩) hb).trans c1
      have c2r := (bw.cell (p := ⟨b, f + k * 3 + 2, none⟩) hb).trans c2
      have i1 : (0 : Int) ≤ (k : Int) := by omega
      have i2 : (k : Int) < (n : Int) := by omega
      obtain ⟨W2, hW2⟩ : ∃ W2, W2 = wr.alloc (.cells #[.string (U k), .string (N k), .int .i64 (R k)] 56) := ⟨_, rfl⟩
      obtain ⟨M, hM⟩ : ∃ M, M = wr.heap.size := ⟨_, rfl⟩
      have b2 : Below wr.heap.size wr W2 := by rw [hW2]; exact below_alloc wr _
      have bW : Below W0.heap.size W0 W2 := bw.trans (b2.mono bw.size)
      have hM2 : M < W2.heap.size := by rw [hW2, hM]; simp
      have MC : Hid (∀ W : World, Below W2.heap.size W2 W → W.cell? ⟨M, 0, none⟩ = some (.string (U k)) ∧ W.cell? ⟨M, 1, none⟩ = some (.string (N k)) ∧ W.cell? ⟨M, 2, none⟩ = some (.int .i64 (R k))) := fun W bb => by
        have q : ∀ i, W.cell? ⟨M, i, none⟩ = (#[.string (U k), .string (N k), .int .i64 (R k)] : Array Value)[i]? := fun i => (bb.cell (p := ⟨M, i, none⟩) hM2).trans (by rw [hW2, hM]; exact room_cell wr _ _ i)
        exact ⟨q 0, q 1, q 2⟩
      have hU := fun W => l4User_any (U k) W (HS.out k hlt).1
      have hN := fun W => l4Nick_any (N k) W (HS.out k hlt).2
      have hI := fun W => l1In_any (R k) 1 3 W
      have e3 : decide ((1 : Int) ≤ R k ∧ R k ≤ 3) = inI (R k) 1 3 := Bool.decide_and _ _
      rw [e3] at hI
      clear e3
      have hO := CO (U k)
      have hP := CN (N k)
      have hQ := CR (U k)
      obtain ⟨fo, hfo⟩ : ∃ fo, firstI n (fun x => (U x).toList == (U k).toList) = fo := ⟨_, rfl⟩
      obtain ⟨fn, hfn⟩ : ∃ fn, firstI n (fun x => (N x).toList == (N k).toList) = fn := ⟨_, rfl⟩
      obtain ⟨rk, hrk⟩ : ∃ rk, rankI z KU KR (U k) = rk := ⟨_, rfl⟩
      have hone : memOne n U N R z KU KR k = (userT (U k) && (nickT (N k) && (inI (R k) 1 3 && (decide (fo = (k : Int)) && (decide (fn = (k : Int)) && decide (rk ≠ 0)))))) := by unfold memOne; rw [hfo, hfn, hrk]
      rw [hfo] at hO
      rw [hfn] at hP
      rw [hrk] at hQ
      have HO : Hid (memOne n U N R z KU KR k = (userT (U k) && (nickT (N k) && (inI (R k) 1 3 && (decide (fo = (k : Int)) && (decide (fn = (k : Int)) && decide (rk ≠ 0))))))) := hone
      clear hone hfo hfn hrk c0 c1 c2
      go_wp2_with fail
      rw [← hW2, ← hM]
      clear hW2 hM b2 c0r c1r c2r z0 z1 z2 z3 z4 CO CN CR
      obtain ⟨y0, y1, y2⟩ := MC.out W2 (Below.refl _ _)
      obtain ⟨z0, z1, z2, z3, z4⟩ := RC.out W2 bW
      cases ht : userT (U k)
      · rw [ht] at hU
        have hRf : F = false := by rw [← HF.out]; unfold memsT; rw [allTo_false (memOne n U N R z KU KR) n k hlt (by rw [HO.out]; rw [ht, Bool.false_and]), Bool.false_and]
        subst hRf
        clear HA HF HC HS HO
        go_wp2_with (first | (go_at_call 35; go_fit (hU _); rintro e w9 ⟨rfl, rfl⟩))
        go_ret
        exact ⟨rfl, b0.trans (bW.mono b0.size)⟩
      · rw [ht] at hU
        cases hn : nickT (N k)
        · rw [hn] at hN
          have hRf : F = false := by rw [← HF.out]; unfold memsT; rw [allTo_false (memOne n U N R z KU KR) n k hlt (by rw [HO.out]; rw [ht, hn, Bool.true_and, Bool.false_and]), Bool.false_and]
          subst hRf
          clear HA HF HC HS HO
          go_wp2_with (first | (go_at_call 35; go_fit (hU _); rintro e w9 ⟨rfl, rfl⟩) | (go_at_call 67; go_fit (hN _); rintro e w1 ⟨rfl, d1⟩; have t1 := bW.trans (d1.mono bW.size); clear y0 y1 y2; obtain ⟨y0, y1, y2⟩ := MC.out w1 d1; clear z0 z1 z2 z3 z4; obtain ⟨z0, z1, z2, z3, z4⟩ := RC.out w1 t1))
          go_ret
          exact ⟨rfl, b0.trans (t1.mono b0.size)⟩
        · rw [hn] at hN
          cases hi : inI (R k) 1 3
          · rw [hi] at hI
            have hRf : F = false := by rw [← HF.out]; unfold memsT; rw [allTo_false (memOne n U N R z KU KR) n k hlt (by rw [HO.out]; rw [ht, hn, hi, Bool.true_and, Bool.true_and, Bool.false_and]), Bool.false_and]
            subst hRf
            clear HA HF HC HS HO
            go_wp2_with (first | (go_at_call 35; go_fit (hU _); rintro e w9 ⟨rfl, rfl⟩) | (go_at_call 67; go_fit (hN _); rintro e w1 ⟨rfl, d1⟩; have t1 := bW.trans (d1.mono bW.size); clear y0 y1 y2; obtain ⟨y0, y1, y2⟩ := MC.out w1 d1; clear z0 z1 z2 z3 z4; obtain ⟨z0, z1, z2, z3, z4⟩ := RC.out w1 t1) | (go_at_call 36; go_fit (hI _); rintro e w9 ⟨rfl, rfl⟩))
            go_ret
            exact ⟨rfl, b0.trans (t1.mono b0.size)⟩
          · rw [hi] at hI
            by_cases hfo : fo = (k : Int)
            · subst hfo
              by_cases hfn : fn = (k : Int)
              · subst hfn
                by_cases hrk : rk = 0
                · have hx : (rk == 0) = true := by rw [hrk]; rfl
                  have hRf : F = false := by rw [← HF.out]; unfold memsT; rw [allTo_false (memOne n U N R z KU KR) n k hlt (by rw [HO.out]; rw [ht, hn, hi, decide_eq_false (by omega : ¬ rk ≠ 0), decide_eq_true rfl]; rfl), Bool.false_and]
                  subst hRf
                  clear HA HF HC HS HO
                  clear hrk
                  go_wp2_with (first | (go_at_call 35; go_fit (hU _); rintro e w9 ⟨rfl, rfl⟩) | (go_at_call 67; go_fit (hN _); rintro e w1 ⟨rfl, d1⟩; have t1 := bW.trans (d1.mono bW.size); clear y0 y1 y2; obtain ⟨y0, y1, y2⟩ := MC.out w1 d1; clear z0 z1 z2 z3 z4; obtain ⟨z0, z1, z2, z3, z4⟩ := RC.out w1 t1) | (go_at_call 36; go_fit (hI _); rintro e w9 ⟨rfl, rfl⟩) | (go_at_call 68; go_fit (hO _ t1); rintro e w2 ⟨rfl, p2⟩; have d2 := d1.trans (p2.mono d1.size); have t2 := bW.trans (d2.mono bW.size); clear y0 y1 y2; obtain ⟨y0, y1, y2⟩ := MC.out w2 d2; clear z0 z1 z2 z3 z4; obtain ⟨z0, z1, z2, z3, z4⟩ := RC.out w2 t2) | (go_at_call 69; go_fit (hP _ t2); rintro e w3 ⟨rfl, p3⟩; have d3 := d2.trans (p3.mono d2.size); have t3 := bW.trans (d3.mono bW.size); clear y0 y1 y2; obtain ⟨y0, y1, y2⟩ := MC.out w3 d3; clear z0 z1 z2 z3 z4; obtain ⟨z0, z1, z2, z3, z4⟩ := RC.out w3 t3) | (go_at_call 70; go_fit (hQ _ t3); rintro e w4 ⟨rfl, p4⟩; have d4 := d3.trans (p4.mono d3.size); have t4 := bW.trans (d4.mono bW.size)))
                  go_ret
                  exact ⟨rfl, b0.trans (t4.mono b0.size)⟩
                · have hx : (rk == 0) = false := beq_eq_false_iff_ne.2 hrk
                  have HB : Hid (allTo (memOne n U N R z KU KR) (k + 1) = true) := (by rw [allTo, HA.out, Bool.true_and, HO.out, ht, hn, hi, decide_eq_true hrk, decide_eq_true rfl]; rfl : allTo (memOne n U N R z KU KR) (k + 1) = true)
                  clear HA HO
                  go_wp2_with (first | (go_at_call 35; go_fit (hU _); rintro e w9 ⟨rfl, rfl⟩) | (go_at_call 67; go_fit (hN _); rintro e w1 ⟨rfl, d1⟩; have t1 := bW.trans (d1.mono bW.size); clear y0 y1 y2; obtain ⟨y0, y1, y2⟩ := MC.out w1 d1; clear z0 z1 z2 z3 z4; obtain ⟨z0, z1, z2, z3, z4⟩ := RC.out w1 t1) | (go_at_call 36; go_fit (hI _); rintro e w9 ⟨rfl, rfl⟩) | (go_at_call 68; go_fit (hO _ t1); rintro e w2 ⟨rfl, p2⟩; have d2 := d1.trans (p2.mono d1.size); have t2 := bW.trans (d2.mono bW.size); clear y0 y1 y2; obtain ⟨y0, y1, y2⟩ := MC.out w2 d2; clear z0 z1 z2 z3 z4; obtain ⟨z0, z1, z2, z3, z4⟩ := RC.out w2 t2) | (go_at_call 69; go_fit (hP _ t2); rintro e w3 ⟨rfl, p3⟩; have d3 := d2.trans (p3.mono d2.size); have t3 := bW.trans (d3.mono bW.size); clear y0 y1 y2; obtain ⟨y0, y1, y2⟩ := MC.out w3 d3; clear z0 z1 z2 z3 z4; obtain ⟨z0, z1, z2, z3, z4⟩ := RC.out w3 t3) | (go_at_call 70; go_fit (hQ _ t3); rintro e w4 ⟨rfl, p4⟩; have d4 := d3.trans (p4.mono d3.size); have t4 := bW.trans (d4.mono bW.size)))
                  go_round
                  case rel => exact ⟨k + 1, by omega, by go_num, t4, HB⟩
                  case measure => simp [intOf]; omega
              · have hx : (fn == (k : Int)) = false := beq_eq_false_iff_ne.2 hfn
                have hRf : F = false := by rw [← HF.out]; unfold memsT; rw [allTo_false (memOne n U N R z KU KR) n k hlt (by rw [HO.out]; rw [ht, hn, hi, decide_eq_false hfn, Bool.false_and, Bool.and_false, Bool.and_false, Bool.and_false, Bool.and_false]), Bool.false_and]
                subst hRf
                clear HA HF HC HS HO
                go_wp2_with (first | (go_at_call 35; go_fit (hU _); rintro e w9 ⟨rfl, rfl⟩) | (go_at_call 67; go_fit (hN _); rintro e w1 ⟨rfl, d1⟩; have t1 := bW.trans (d1.mono bW.size); clear y0 y1 y2; obtain ⟨y0, y1, y2⟩ := MC.out w1 d1; clear z0 z1 z2 z3 z4; obtain ⟨z0, z1, z2, z3, z4⟩ := RC.out w1 t1) | (go_at_call 36; go_fit (hI _); rintro e w9 ⟨rfl, rfl⟩) | (go_at_call 68; go_fit (hO _ t1); rintro e w2 ⟨rfl, p2⟩; have d2 := d1.trans (p2.mono d1.size); have t2 := bW.trans (d2.mono bW.size); clear y0 y1 y2; obtain ⟨y0, y1, y2⟩ := MC.out w2 d2; clear z0 z1 z2 z3 z4; obtain ⟨z0, z1, z2, z3, z4⟩ := RC.out w2 t2) | (go_at_call 69; go_fit (hP _ t2); rintro e w3 ⟨rfl, p3⟩; have d3 := d2.trans (p3.mono d2.size); have t3 := bW.trans (d3.mono bW.size); clear y0 y1 y2; obtain ⟨y0, y1, y2⟩ := MC.out w3 d3; clear z0 z1 z2 z3 z4; obtain ⟨z0, z1, z2, z3, z4⟩ := RC.out w3 t3))
                go_ret
                exact ⟨rfl, b0.trans (t3.mono b0.size)⟩
            · have hx : (fo == (k : Int)) = false := beq_eq_false_iff_ne.2 hfo
              have hRf : F = false := by rw [← HF.out]; unfold memsT; rw [allTo_false (memOne n U N R z KU KR) n k hlt (by rw [HO.out]; rw [ht, hn, hi, decide_eq_false hfo, Bool.false_and, Bool.and_false, Bool.and_false, Bool.and_false]), Bool.false_and]
              subst hRf
              clear HA HF HC HS HO
              go_wp2_with (first | (go_at_call 35; go_fit (hU _); rintro e w9 ⟨rfl, rfl⟩) | (go_at_call 67; go_fit (hN _); rintro e w1 ⟨rfl, d1⟩; have t1 := bW.trans (d1.mono bW.size); clear y0 y1 y2; obtain ⟨y0, y1, y2⟩ := MC.out w1 d1; clear z0 z1 z2 z3 z4; obtain ⟨z0, z1, z2, z3, z4⟩ := RC.out w1 t1) | (go_at_call 36; go_fit (hI _); rintro e w9 ⟨rfl, rfl⟩) | (go_at_call 68; go_fit (hO _ t1); rintro e w2 ⟨rfl, p2⟩; have d2 := d1.trans (p2.mono d1.size); have t2 := bW.trans (d2.mono bW.size); clear y0 y1 y2; obtain ⟨y0, y1, y2⟩ := MC.out w2 d2; clear z0 z1 z2 z3 z4; obtain ⟨z0, z1, z2, z3, z4⟩ := RC.out w2 t2))
              go_ret
              exact ⟨rfl, b0.trans (t2.mono b0.size)⟩
    · obtain rfl : k = n := by omega
      have hR2 : F = decide ((k : Int) ≤ 5) := by
        rw [← HF.out]; unfold memsT; rw [HA.out, Bool.true_and]
        congr 1
        simp only [eq_iff_iff]
        omega
      clear HA HF HC HS
      go_wp2_with fail
      go_ret
      exact ⟨ret_bool (by rw [hR2]), b0.trans (bw.mono b0.size)⟩
end Go.Proofs.YtglbjibilllopaaDoor.Hub
