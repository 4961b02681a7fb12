/-
  The model's l6Ok and RoomOk at every room: roomT.
-/
import Derived.Test.YtglbjibilllopaaDoorRoomMem
namespace Go.Proofs.YtglbjibilllopaaDoor.Hub
open Go.RowKit
set_option linter.unusedVariables false

/-- Nothing but a name. -/
def untT (nx : Int) (n z : Nat) (sb : ByteArray) : Bool := decide (nx = 0) && (decide (n = 0) && (decide (z = 0) && decide (sb.size = 0)))
def roomT (nm : ByteArray) (nx : Int) (sb : ByteArray) (n : Nat) (U N : Nat → ByteArray) (R : Nat → Int) (z : Nat) (KU : Nat → ByteArray) (KR : Nat → Int) : Bool :=
  userT nm && (inI nx 0 9999 && (orE bodyT sb && (memsT n U N R z KU KR && (ranksT z KU KR && (decide (0 < ownersTo KR z) || untT nx n z sb)))))

set_option maxRecDepth 100000 in
set_option maxHeartbeats 16000000 in
theorem l6Ok_any (nm sb : ByteArray) (nx : Int) (vm vk : Value) (n : Nat) (U N : Nat → ByteArray) (R : Nat → Int) (z : Nat) (KU : Nat → ByteArray) (KR : Nat → Int) (w : World) (hm : MemAt w vm n U N R) (hk : RankAt w vk z KU KR) (hnm : nm.size ≤ 9223372036854775800) (hsb : sb.size ≤ 9223372036854775800) (hs : ∀ j, j < n → (U j).size ≤ 9223372036854775800 ∧ (N j).size ≤ 9223372036854775800) (hz : ∀ j, j < z → (KU j).size ≤ 9223372036854775800) :
    Calls Tryd.prog 17 #[roomV nm nx vm vk sb] w fun e w' => e = .returned (.bool (roomT nm nx sb n U N R z KU KR)) ∧ Below w.heap.size w w' := by
  obtain ⟨W0, hW0⟩ : ∃ W0, W0 = w.alloc (.cells #[.string nm, .int .i64 nx, vm, vk, .string sb] 31) := ⟨_, rfl⟩
  have b0 : Below w.heap.size w W0 := by rw [hW0]; exact below_alloc w _
  have hw0 : w.heap.size < W0.heap.size := by rw [hW0]; simp
  have RC : Hid (∀ W : World, Below W0.heap.size W0 W → W.cell? ⟨w.heap.size, 0, none⟩ = some (.string nm) ∧ W.cell? ⟨w.heap.size, 1, none⟩ = some (.int .i64 nx) ∧ W.cell? ⟨w.heap.size, 2, none⟩ = some vm ∧ W.cell? ⟨w.heap.size, 3, none⟩ = some vk ∧ W.cell? ⟨w.heap.size, 4, none⟩ = some (.string sb)) := fun W b => by
    have q : ∀ i, W.cell? ⟨w.heap.size, i, none⟩ = (#[.string nm, .int .i64 nx, vm, vk, .string sb] : Array Value)[i]? := fun i => (b.cell (p := ⟨w.heap.size, i, none⟩) hw0).trans (by rw [hW0]; exact room_cell w _ _ i)
    exact ⟨q 0, q 1, q 2, q 3, q 4⟩
  have hm0 := hm.below b0
  have hk0 := hk.below b0
  have hU := fun W => l4User_any nm W hnm
  have hI := fun W => l1In_any nx 0 9999 W
  have hB := fun W => l5Body_any sb W hsb
  have hM := fun W (b : Below W0.heap.size W0 W) => l6MembersOk_any nm sb nx vm vk n U N R z KU KR W (hm0.below b) (hk0.below b) hs
  have hK := fun W (b : Below W0.heap.size W0 W) => l6RanksOk_any nm sb nx vm vk z KU KR W (hk0.below b) hz
  have hO := fun W (b : Below W0.heap.size W0 W) => l6Owners_any nm sb nx vm vk z KU KR W (hk0.below b)
  have e3 : decide ((0 : Int) ≤ nx ∧ nx ≤ 9999) = inI nx 0 9999 := Bool.decide_and _ _
  rw [e3] at hI
  clear e3
  have vms : ∃ o c, vm = .slice o n c := by obtain ⟨o, c, h, _⟩ := hm; exact ⟨o, c, h⟩
  have vks : ∃ o c, vk = .slice o z c := by obtain ⟨o, c, h, _⟩ := hk; exact ⟨o, c, h⟩
  obtain ⟨o, c, rfl⟩ := vms
  obtain ⟨o2, c2, rfl⟩ := vks
  clear hm hk hm0 hk0
  obtain ⟨z0, z1, z2, z3, z4⟩ := RC.out W0 (Below.refl _ _)
  unfold roomT
  obtain ⟨Ru, hRu⟩ : ∃ Rb, userT nm = Rb := ⟨_, rfl⟩
  rw [hRu] at hU ⊢
  clear hRu
  cases Ru
  · go_enter Tryd.func17, Tryd.ntmps17
    go_wp2_with fail
    rw [← hW0]
    clear hW0
    go_wp2_with (first | (go_at_call 35; go_fit (hU _); rintro e w9 ⟨rfl, rfl⟩))
    go_ret
    exact ⟨ret_bool (by first | (simp; done) | (simp; omega)), b0.trans ((Below.refl _ _).mono b0.size)⟩
  · skip
    obtain ⟨Ri, hRi⟩ : ∃ Rb, inI nx 0 9999 = Rb := ⟨_, rfl⟩
    rw [hRi] at hI ⊢
    clear hRi
    cases Ri
    · go_enter Tryd.func17, Tryd.ntmps17
      go_wp2_with fail
      rw [← hW0]
      clear hW0
      go_wp2_with (first | (go_at_call 35; go_fit (hU _); rintro e w9 ⟨rfl, rfl⟩) | (go_at_call 36; go_fit (hI _); rintro e w9 ⟨rfl, rfl⟩))
      go_ret
      exact ⟨ret_bool (by first | (simp; done) | (simp; omega)), b0.trans ((Below.refl _ _).mono b0.size)⟩
    · skip
      rcases orE_cases bodyT sb with ⟨xf, of⟩ | ⟨xf, tf, of⟩ | ⟨xf, tf, of⟩
      all_goals rw [of]
      all_goals clear of
      · subst xf
        have t1 := Below.refl W0.heap.size W0
        obtain ⟨Rm, hRm⟩ : ∃ Rb, memsT n U N R z KU KR = Rb := ⟨_, rfl⟩
        rw [hRm] at hM ⊢
        clear hRm
        cases Rm
        · go_enter Tryd.func17, Tryd.ntmps17
          go_wp2_with fail
          rw [← hW0]
          clear hW0
          go_wp2_with (first | (go_at_call 35; go_fit (hU _); rintro e w9 ⟨rfl, rfl⟩) | (go_at_call 36; go_fit (hI _); rintro e w9 ⟨rfl, rfl⟩) | (go_at_call 38; go_fit (hM _ t1); rintro e w2 ⟨rfl, p2⟩; have t2 := (t1).trans (p2.mono (t1).size); clear z0 z1 z2 z3 z4; obtain ⟨z0, z1, z2, z3, z4⟩ := RC.out w2 t2))
          go_ret
          exact ⟨ret_bool (by first | (simp; done) | (simp; omega)), b0.trans (t2.mono b0.size)⟩
        · skip
          obtain ⟨Rk, hRk⟩ : ∃ Rb, ranksT z KU KR = Rb := ⟨_, rfl⟩
          rw [hRk] at hK ⊢
          clear hRk
          cases Rk
          · go_enter Tryd.func17, Tryd.ntmps17
            go_wp2_with fail
            rw [← hW0]
            clear hW0
            go_wp2_with (first | (go_at_call 35; go_fit (hU _); rintro e w9 ⟨rfl, rfl⟩) | (go_at_call 36; go_fit (hI _); rintro e w9 ⟨rfl, rfl⟩) | (go_at_call 38; go_fit (hM _ t1); rintro e w2 ⟨rfl, p2⟩; have t2 := (t1).trans (p2.mono (t1).size); clear z0 z1 z2 z3 z4; obtain ⟨z0, z1, z2, z3, z4⟩ := RC.out w2 t2) | (go_at_call 39; go_fit (hK _ t2); rintro e w3 ⟨rfl, p3⟩; have t3 := t2.trans (p3.mono t2.size); clear z0 z1 z2 z3 z4; obtain ⟨z0, z1, z2, z3, z4⟩ := RC.out w3 t3))
            go_ret
            exact ⟨ret_bool (by first | (simp; done) | (simp; omega)), b0.trans (t3.mono b0.size)⟩
          · skip
            by_cases ho : 0 < ownersTo KR z
            · have ho2 : (0 : Int) < ((ownersTo KR z : Nat) : Int) := by omega
              rw [decide_eq_true ho]
              go_enter Tryd.func17, Tryd.ntmps17
              go_wp2_with fail
              rw [← hW0]
              clear hW0
              go_wp2_with (first | (go_at_call 35; go_fit (hU _); rintro e w9 ⟨rfl, rfl⟩) | (go_at_call 36; go_fit (hI _); rintro e w9 ⟨rfl, rfl⟩) | (go_at_call 38; go_fit (hM _ t1); rintro e w2 ⟨rfl, p2⟩; have t2 := (t1).trans (p2.mono (t1).size); clear z0 z1 z2 z3 z4; obtain ⟨z0, z1, z2, z3, z4⟩ := RC.out w2 t2) | (go_at_call 39; go_fit (hK _ t2); rintro e w3 ⟨rfl, p3⟩; have t3 := t2.trans (p3.mono t2.size); clear z0 z1 z2 z3 z4; obtain ⟨z0, z1, z2, z3, z4⟩ := RC.out w3 t3) | (go_at_call 40; go_fit (hO _ t3); rintro e w4 ⟨rfl, p4⟩; have t4 := t3.trans (p4.mono t3.size); clear z0 z1 z2 z3 z4; obtain ⟨z0, z1, z2, z3, z4⟩ := RC.out w4 t4))
              go_ret
              exact ⟨ret_bool (by first | (simp; done) | (simp; omega)), b0.trans (t4.mono b0.size)⟩
            · have ho2 : ¬ ((0 : Int) < ((ownersTo KR z : Nat) : Int)) := by omega
              rw [decide_eq_false ho]
              obtain ⟨q, hq⟩ : ∃ q : Int, ((ownersTo KR z : Nat) : Int) = q := ⟨_, rfl⟩
              rw [hq] at hO ho2
              clear ho hq
              unfold untT
              by_cases h1 : nx = 0
              · have e1 : (nx == 0) = true := by rw [h1]; rfl
                rw [decide_eq_true h1]
                clear h1
                by_cases h2 : n = 0
                · have e2 : ((n : Int) == 0) = true := by rw [h2]; rfl
                  rw [decide_eq_true h2]
                  clear h2
                  by_cases h3 : z = 0
                  · have e4 : ((z : Int) == 0) = true := by rw [h3]; rfl
                    rw [decide_eq_true h3]
                    clear h3
                    have hsb0 : decide ((⟨#[]⟩ : ByteArray).size = 0) = true := rfl
                    rw [hsb0]
                    clear hsb0
                    go_enter Tryd.func17, Tryd.ntmps17
                    go_wp2_with fail
                    rw [← hW0]
                    clear hW0
                    go_wp2_with (first | (go_at_call 35; go_fit (hU _); rintro e w9 ⟨rfl, rfl⟩) | (go_at_call 36; go_fit (hI _); rintro e w9 ⟨rfl, rfl⟩) | (go_at_call 38; go_fit (hM _ t1); rintro e w2 ⟨rfl, p2⟩; have t2 := (t1).trans (p2.mono (t1).size); clear z0 z1 z2 z3 z4; obtain ⟨z0, z1, z2, z3, z4⟩ := RC.out w2 t2) | (go_at_call 39; go_fit (hK _ t2); rintro e w3 ⟨rfl, p3⟩; have t3 := t2.trans (p3.mono t2.size); clear z0 z1 z2 z3 z4; obtain ⟨z0, z1, z2, z3, z4⟩ := RC.out w3 t3) | (go_at_call 40; go_fit (hO _ t3); rintro e w4 ⟨rfl, p4⟩; have t4 := t3.trans (p4.mono t3.size); clear z0 z1 z2 z3 z4; obtain ⟨z0, z1, z2, z3, z4⟩ := RC.out w4 t4))
                    go_ret
                    exact ⟨ret_bool (by first | (simp; done) | (simp; omega)), b0.trans (t4.mono b0.size)⟩
                  · have e4 : ((z : Int) == 0) = false := beq_eq_false_iff_ne.2 (by omega)
                    rw [decide_eq_false h3]
                    clear h3
                    go_enter Tryd.func17, Tryd.ntmps17
                    go_wp2_with fail
                    rw [← hW0]
                    clear hW0
                    go_wp2_with (first | (go_at_call 35; go_fit (hU _); rintro e w9 ⟨rfl, rfl⟩) | (go_at_call 36; go_fit (hI _); rintro e w9 ⟨rfl, rfl⟩) | (go_at_call 38; go_fit (hM _ t1); rintro e w2 ⟨rfl, p2⟩; have t2 := (t1).trans (p2.mono (t1).size); clear z0 z1 z2 z3 z4; obtain ⟨z0, z1, z2, z3, z4⟩ := RC.out w2 t2) | (go_at_call 39; go_fit (hK _ t2); rintro e w3 ⟨rfl, p3⟩; have t3 := t2.trans (p3.mono t2.size); clear z0 z1 z2 z3 z4; obtain ⟨z0, z1, z2, z3, z4⟩ := RC.out w3 t3) | (go_at_call 40; go_fit (hO _ t3); rintro e w4 ⟨rfl, p4⟩; have t4 := t3.trans (p4.mono t3.size); clear z0 z1 z2 z3 z4; obtain ⟨z0, z1, z2, z3, z4⟩ := RC.out w4 t4))
                    go_ret
                    exact ⟨ret_bool (by first | (simp; done) | (simp; omega)), b0.trans (t4.mono b0.size)⟩
                · have e2 : ((n : Int) == 0) = false := beq_eq_false_iff_ne.2 (by omega)
                  rw [decide_eq_false h2]
                  clear h2
                  go_enter Tryd.func17, Tryd.ntmps17
                  go_wp2_with fail
                  rw [← hW0]
                  clear hW0
                  go_wp2_with (first | (go_at_call 35; go_fit (hU _); rintro e w9 ⟨rfl, rfl⟩) | (go_at_call 36; go_fit (hI _); rintro e w9 ⟨rfl, rfl⟩) | (go_at_call 38; go_fit (hM _ t1); rintro e w2 ⟨rfl, p2⟩; have t2 := (t1).trans (p2.mono (t1).size); clear z0 z1 z2 z3 z4; obtain ⟨z0, z1, z2, z3, z4⟩ := RC.out w2 t2) | (go_at_call 39; go_fit (hK _ t2); rintro e w3 ⟨rfl, p3⟩; have t3 := t2.trans (p3.mono t2.size); clear z0 z1 z2 z3 z4; obtain ⟨z0, z1, z2, z3, z4⟩ := RC.out w3 t3) | (go_at_call 40; go_fit (hO _ t3); rintro e w4 ⟨rfl, p4⟩; have t4 := t3.trans (p4.mono t3.size); clear z0 z1 z2 z3 z4; obtain ⟨z0, z1, z2, z3, z4⟩ := RC.out w4 t4))
                  go_ret
                  exact ⟨ret_bool (by first | (simp; done) | (simp; omega)), b0.trans (t4.mono b0.size)⟩
              · have e1 : (nx == 0) = false := beq_eq_false_iff_ne.2 h1
                rw [decide_eq_false h1]
                clear h1
                go_enter Tryd.func17, Tryd.ntmps17
                go_wp2_with fail
                rw [← hW0]
                clear hW0
                go_wp2_with (first | (go_at_call 35; go_fit (hU _); rintro e w9 ⟨rfl, rfl⟩) | (go_at_call 36; go_fit (hI _); rintro e w9 ⟨rfl, rfl⟩) | (go_at_call 38; go_fit (hM _ t1); rintro e w2 ⟨rfl, p2⟩; have t2 := (t1).trans (p2.mono (t1).size); clear z0 z1 z2 z3 z4; obtain ⟨z0, z1, z2, z3, z4⟩ := RC.out w2 t2) | (go_at_call 39; go_fit (hK _ t2); rintro e w3 ⟨rfl, p3⟩; have t3 := t2.trans (p3.mono t2.size); clear z0 z1 z2 z3 z4; obtain ⟨z0, z1, z2, z3, z4⟩ := RC.out w3 t3) | (go_at_call 40; go_fit (hO _ t3); rintro e w4 ⟨rfl, p4⟩; have t4 := t3.trans (p4.mono t3.size); clear z0 z1 z2 z3 z4; obtain ⟨z0, z1, z2, z3, z4⟩ := RC.out w4 t4))
                go_ret
                exact ⟨ret_bool (by first | (simp; done) | (simp; omega)), b0.trans (t4.mono b0.size)⟩
      · rw [tf] at hB
        clear tf
        have hsz : ¬ sb.size = 0 := by intro h; rw [size_zero sb h] at xf; simp at xf
        obtain ⟨Rm, hRm⟩ : ∃ Rb, memsT n U N R z KU KR = Rb := ⟨_, rfl⟩
        rw [hRm] at hM ⊢
        clear hRm
        cases Rm
        · go_enter Tryd.func17, Tryd.ntmps17
          go_wp2_with fail
          rw [← hW0]
          clear hW0
          go_wp2_with (first | (go_at_call 35; go_fit (hU _); rintro e w9 ⟨rfl, rfl⟩) | (go_at_call 36; go_fit (hI _); rintro e w9 ⟨rfl, rfl⟩) | (go_at_call 37; go_fit (hB _); rintro e w1 ⟨rfl, t1⟩; clear z0 z1 z2 z3 z4; obtain ⟨z0, z1, z2, z3, z4⟩ := RC.out w1 t1) | (go_at_call 38; go_fit (hM _ t1); rintro e w2 ⟨rfl, p2⟩; have t2 := (t1).trans (p2.mono (t1).size); clear z0 z1 z2 z3 z4; obtain ⟨z0, z1, z2, z3, z4⟩ := RC.out w2 t2))
          go_ret
          exact ⟨ret_bool (by first | (simp; done) | (simp; omega)), b0.trans (t2.mono b0.size)⟩
        · skip
          obtain ⟨Rk, hRk⟩ : ∃ Rb, ranksT z KU KR = Rb := ⟨_, rfl⟩
          rw [hRk] at hK ⊢
          clear hRk
          cases Rk
          · go_enter Tryd.func17, Tryd.ntmps17
            go_wp2_with fail
            rw [← hW0]
            clear hW0
            go_wp2_with (first | (go_at_call 35; go_fit (hU _); rintro e w9 ⟨rfl, rfl⟩) | (go_at_call 36; go_fit (hI _); rintro e w9 ⟨rfl, rfl⟩) | (go_at_call 37; go_fit (hB _); rintro e w1 ⟨rfl, t1⟩; clear z0 z1 z2 z3 z4; obtain ⟨z0, z1, z2, z3, z4⟩ := RC.out w1 t1) | (go_at_call 38; go_fit (hM _ t1); rintro e w2 ⟨rfl, p2⟩; have t2 := (t1).trans (p2.mono (t1).size); clear z0 z1 z2 z3 z4; obtain ⟨z0, z1, z2, z3, z4⟩ := RC.out w2 t2) | (go_at_call 39; go_fit (hK _ t2); rintro e w3 ⟨rfl, p3⟩; have t3 := t2.trans (p3.mono t2.size); clear z0 z1 z2 z3 z4; obtain ⟨z0, z1, z2, z3, z4⟩ := RC.out w3 t3))
            go_ret
            exact ⟨ret_bool (by first | (simp; done) | (simp; omega)), b0.trans (t3.mono b0.size)⟩
          · skip
            by_cases ho : 0 < ownersTo KR z
            · have ho2 : (0 : Int) < ((ownersTo KR z : Nat) : Int) := by omega
              rw [decide_eq_true ho]
              go_enter Tryd.func17, Tryd.ntmps17
              go_wp2_with fail
              rw [← hW0]
              clear hW0
              go_wp2_with (first | (go_at_call 35; go_fit (hU _); rintro e w9 ⟨rfl, rfl⟩) | (go_at_call 36; go_fit (hI _); rintro e w9 ⟨rfl, rfl⟩) | (go_at_call 37; go_fit (hB _); rintro e w1 ⟨rfl, t1⟩; clear z0 z1 z2 z3 z4; obtain ⟨z0, z1, z2, z3, z4⟩ := RC.out w1 t1) | (go_at_call 38; go_fit (hM _ t1); rintro e w2 ⟨rfl, p2⟩; have t2 := (t1).trans (p2.mono (t1).size); clear z0 z1 z2 z3 z4; obtain ⟨z0, z1, z2, z3, z4⟩ := RC.out w2 t2) | (go_at_call 39; go_fit (hK _ t2); rintro e w3 ⟨rfl, p3⟩; have t3 := t2.trans (p3.mono t2.size); clear z0 z1 z2 z3 z4; obtain ⟨z0, z1, z2, z3, z4⟩ := RC.out w3 t3) | (go_at_call 40; go_fit (hO _ t3); rintro e w4 ⟨rfl, p4⟩; have t4 := t3.trans (p4.mono t3.size); clear z0 z1 z2 z3 z4; obtain ⟨z0, z1, z2, z3, z4⟩ := RC.out w4 t4))
              go_ret
              exact ⟨ret_bool (by first | (simp; done) | (simp; omega)), b0.trans (t4.mono b0.size)⟩
            · have ho2 : ¬ ((0 : Int) < ((ownersTo KR z : Nat) : Int)) := by omega
              rw [decide_eq_false ho]
              obtain ⟨q, hq⟩ : ∃ q : Int, ((ownersTo KR z : Nat) : Int) = q := ⟨_, rfl⟩
              rw [hq] at hO ho2
              clear ho hq
              unfold untT
              by_cases h1 : nx = 0
              · have e1 : (nx == 0) = true := by rw [h1]; rfl
                rw [decide_eq_true h1]
                clear h1
                by_cases h2 : n = 0
                · have e2 : ((n : Int) == 0) = true := by rw [h2]; rfl
                  rw [decide_eq_true h2]
                  clear h2
                  by_cases h3 : z = 0
                  · have e4 : ((z : Int) == 0) = true := by rw [h3]; rfl
                    rw [decide_eq_true h3]
                    clear h3
                    rw [decide_eq_false hsz]
                    go_enter Tryd.func17, Tryd.ntmps17
                    go_wp2_with fail
                    rw [← hW0]
                    clear hW0
                    go_wp2_with (first | (go_at_call 35; go_fit (hU _); rintro e w9 ⟨rfl, rfl⟩) | (go_at_call 36; go_fit (hI _); rintro e w9 ⟨rfl, rfl⟩) | (go_at_call 37; go_fit (hB _); rintro e w1 ⟨rfl, t1⟩; clear z0 z1 z2 z3 z4; obtain ⟨z0, z1, z2, z3, z4⟩ := RC.out w1 t1) | (go_at_call 38; go_fit (hM _ t1); rintro e w2 ⟨rfl, p2⟩; have t2 := (t1).trans (p2.mono (t1).size); clear z0 z1 z2 z3 z4; obtain ⟨z0, z1, z2, z3, z4⟩ := RC.out w2 t2) | (go_at_call 39; go_fit (hK _ t2); rintro e w3 ⟨rfl, p3⟩; have t3 := t2.trans (p3.mono t2.size); clear z0 z1 z2 z3 z4; obtain ⟨z0, z1, z2, z3, z4⟩ := RC.out w3 t3) | (go_at_call 40; go_fit (hO _ t3); rintro e w4 ⟨rfl, p4⟩; have t4 := t3.trans (p4.mono t3.size); clear z0 z1 z2 z3 z4; obtain ⟨z0, z1, z2, z3, z4⟩ := RC.out w4 t4))
                    go_ret
                    exact ⟨ret_bool (by first | (simp; done) | (simp; omega)), b0.trans (t4.mono b0.size)⟩
                  · have e4 : ((z : Int) == 0) = false := beq_eq_false_iff_ne.2 (by omega)
                    rw [decide_eq_false h3]
                    clear h3
                    go_enter Tryd.func17, Tryd.ntmps17
                    go_wp2_with fail
                    rw [← hW0]
                    clear hW0
                    go_wp2_with (first | (go_at_call 35; go_fit (hU _); rintro e w9 ⟨rfl, rfl⟩) | (go_at_call 36; go_fit (hI _); rintro e w9 ⟨rfl, rfl⟩) | (go_at_call 37; go_fit (hB _); rintro e w1 ⟨rfl, t1⟩; clear z0 z1 z2 z3 z4; obtain ⟨z0, z1, z2, z3, z4⟩ := RC.out w1 t1) | (go_at_call 38; go_fit (hM _ t1); rintro e w2 ⟨rfl, p2⟩; have t2 := (t1).trans (p2.mono (t1).size); clear z0 z1 z2 z3 z4; obtain ⟨z0, z1, z2, z3, z4⟩ := RC.out w2 t2) | (go_at_call 39; go_fit (hK _ t2); rintro e w3 ⟨rfl, p3⟩; have t3 := t2.trans (p3.mono t2.size); clear z0 z1 z2 z3 z4; obtain ⟨z0, z1, z2, z3, z4⟩ := RC.out w3 t3) | (go_at_call 40; go_fit (hO _ t3); rintro e w4 ⟨rfl, p4⟩; have t4 := t3.trans (p4.mono t3.size); clear z0 z1 z2 z3 z4; obtain ⟨z0, z1, z2, z3, z4⟩ := RC.out w4 t4))
                    go_ret
                    exact ⟨ret_bool (by first | (simp; done) | (simp; omega)), b0.trans (t4.mono b0.size)⟩
                · have e2 : ((n : Int) == 0) = false := beq_eq_false_iff_ne.2 (by omega)
                  rw [decide_eq_false h2]
                  clear h2
                  go_enter Tryd.func17, Tryd.ntmps17
                  go_wp2_with fail
                  rw [← hW0]
                  clear hW0
                  go_wp2_with (first | (go_at_call 35; go_fit (hU _); rintro e w9 ⟨rfl, rfl⟩) | (go_at_call 36; go_fit (hI _); rintro e w9 ⟨rfl, rfl⟩) | (go_at_call 37; go_fit (hB _); rintro e w1 ⟨rfl, t1⟩; clear z0 z1 z2 z3 z4; obtain ⟨z0, z1, z2, z3, z4⟩ := RC.out w1 t1) | (go_at_call 38; go_fit (hM _ t1); rintro e w2 ⟨rfl, p2⟩; have t2 := (t1).trans (p2.mono (t1).size); clear z0 z1 z2 z3 z4; obtain ⟨z0, z1, z2, z3, z4⟩ := RC.out w2 t2) | (go_at_call 39; go_fit (hK _ t2); rintro e w3 ⟨rfl, p3⟩; have t3 := t2.trans (p3.mono t2.size); clear z0 z1 z2 z3 z4; obtain ⟨z0, z1, z2, z3, z4⟩ := RC.out w3 t3) | (go_at_call 40; go_fit (hO _ t3); rintro e w4 ⟨rfl, p4⟩; have t4 := t3.trans (p4.mono t3.size); clear z0 z1 z2 z3 z4; obtain ⟨z0, z1, z2, z3, z4⟩ := RC.out w4 t4))
                  go_ret
                  exact ⟨ret_bool (by first | (simp; done) | (simp; omega)), b0.trans (t4.mono b0.size)⟩
              · have e1 : (nx == 0) = false := beq_eq_false_iff_ne.2 h1
                rw [decide_eq_false h1]
                clear h1
                go_enter Tryd.func17, Tryd.ntmps17
                go_wp2_with fail
                rw [← hW0]
                clear hW0
                go_wp2_with (first | (go_at_call 35; go_fit (hU _); rintro e w9 ⟨rfl, rfl⟩) | (go_at_call 36; go_fit (hI _); rintro e w9 ⟨rfl, rfl⟩) | (go_at_call 37; go_fit (hB _); rintro e w1 ⟨rfl, t1⟩; clear z0 z1 z2 z3 z4; obtain ⟨z0, z1, z2, z3, z4⟩ := RC.out w1 t1) | (go_at_call 38; go_fit (hM _ t1); rintro e w2 ⟨rfl, p2⟩; have t2 := (t1).trans (p2.mono (t1).size); clear z0 z1 z2 z3 z4; obtain ⟨z0, z1, z2, z3, z4⟩ := RC.out w2 t2) | (go_at_call 39; go_fit (hK _ t2); rintro e w3 ⟨rfl, p3⟩; have t3 := t2.trans (p3.mono t2.size); clear z0 z1 z2 z3 z4; obtain ⟨z0, z1, z2, z3, z4⟩ := RC.out w3 t3) | (go_at_call 40; go_fit (hO _ t3); rintro e w4 ⟨rfl, p4⟩; have t4 := t3.trans (p4.mono t3.size); clear z0 z1 z2 z3 z4; obtain ⟨z0, z1, z2, z3, z4⟩ := RC.out w4 t4))
                go_ret
                exact ⟨ret_bool (by first | (simp; done) | (simp; omega)), b0.trans (t4.mono b0.size)⟩
      · rw [tf] at hB
        clear tf
        go_enter Tryd.func17, Tryd.ntmps17
        go_wp2_with fail
        rw [← hW0]
        clear hW0
        go_wp2_with (first | (go_at_call 35; go_fit (hU _); rintro e w9 ⟨rfl, rfl⟩) | (go_at_call 36; go_fit (hI _); rintro e w9 ⟨rfl, rfl⟩) | (go_at_call 37; go_fit (hB _); rintro e w1 ⟨rfl, t1⟩; clear z0 z1 z2 z3 z4; obtain ⟨z0, z1, z2, z3, z4⟩ := RC.out w1 t1))
        go_ret
        exact ⟨ret_bool (by first | (simp; done) | (simp; omega)), b0.trans (t1.mono b0.size)⟩

end Go.Proofs.YtglbjibilllopaaDoor.Hub
