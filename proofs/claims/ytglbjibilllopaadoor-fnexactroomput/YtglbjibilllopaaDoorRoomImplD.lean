/-
  impl.RoomOk at every room: roomT, as the model's.
-/
import Derived.Test.YtglbjibilllopaaDoorRoomImplC
namespace Go.Proofs.YtglbjibilllopaaDoor.Hub
open Go.RowKit
set_option linter.unusedVariables false

theorem find_none (p : Nat → Bool) : ∀ f k, (∀ t, k ≤ t → t < k + f → p t = false) → findFrom p f k = -1
  | 0, _, _ => rfl
  | f + 1, k, h => by rw [findFrom, h k (Nat.le_refl _) (by omega)]; exact find_none p f (k + 1) (fun t h1 h2 => h t (by omega) (by omega))
theorem find_some (p : Nat → Bool) (i : Nat) (hi : p i = true) : ∀ f k, k ≤ i → i < k + f → (∀ t, k ≤ t → t < i → p t = false) → findFrom p f k = (i : Int)
  | 0, k, h1, h2, _ => by omega
  | f + 1, k, h1, h2, h3 => by
    rw [findFrom]
    by_cases e : k = i
    · subst e; rw [if_pos hi]
    · rw [h3 k (Nat.le_refl _) (by omega)]; exact find_some p i hi f (k + 1) (by omega) (by omega) (fun t g1 g2 => h3 t (by omega) g2)
theorem find_cases (p : Nat → Bool) : ∀ f k, (∀ t, k ≤ t → t < k + f → p t = false) ∨ ∃ i, k ≤ i ∧ i < k + f ∧ p i = true ∧ ∀ t, k ≤ t → t < i → p t = false
  | 0, k => .inl fun t h1 h2 => by omega
  | f + 1, k => by
    cases hk : p k
    · rcases find_cases p f (k + 1) with h | ⟨i, h1, h2, h3, h4⟩
      · refine .inl fun t h1 h2 => ?_
        by_cases e : t = k
        · subst e; exact hk
        · exact h t (by omega) (by omega)
      · refine .inr ⟨i, by omega, by omega, h3, fun t g1 g2 => ?_⟩
        by_cases e : t = k
        · subst e; exact hk
        · exact h4 t (by omega) g2
    · exact .inr ⟨k, Nat.le_refl _, by omega, hk, fun t g1 g2 => by omega⟩
/-- The first one is at j just if none is ahead of j. -/
theorem first_same (p : Nat → Bool) (n j : Nat) (hj : j < n) (hp : p j = true) : decide (firstI n p = (j : Int)) = decide (firstI j p < 0) := by
  unfold firstI
  rcases find_cases p j 0 with h | ⟨i, h1, h2, h3, h4⟩
  · rw [find_none p j 0 h, find_some p j hp n 0 (by omega) (by omega) (fun t g1 g2 => h t g1 (by omega))]; simp
  · rw [find_some p i h3 j 0 h1 h2 h4, find_some p i h3 n 0 h1 (by omega) h4]
    rw [decide_eq_false (by omega), decide_eq_false (by omega)]
def inT (U : Nat → ByteArray) (z : Nat) (KU : Nat → ByteArray) (KR : Nat → Int) (j : Nat) : Bool := decide (rankI z KU KR (U j) ≠ 0)
theorem allTo_and (p q r : Nat → Bool) : ∀ n, (∀ j, j < n → r j = (p j && q j)) → allTo r n = (allTo p n && allTo q n)
  | 0, _ => rfl
  | n + 1, h => by
    rw [allTo, allTo, allTo, allTo_and p q r n (fun j hj => h j (by omega)), h n (by omega)]
    cases allTo p n <;> cases allTo q n <;> cases p n <;> cases q n <;> rfl
theorem mems_eq (n : Nat) (U N : Nat → ByteArray) (R : Nat → Int) (z : Nat) (KU : Nat → ByteArray) (KR : Nat → Int) : memsT n U N R z KU KR = (memsT2 n U N R && allTo (inT U z KU KR) n) := by
  unfold memsT memsT2
  rw [allTo_and (memOne2 U N R) (inT U z KU KR) (memOne n U N R z KU KR) n (fun j hj => by
    unfold memOne memOne2 inT
    rw [first_same (fun x => (U x).toList == (U j).toList) n j hj (by simp), first_same (fun x => (N x).toList == (N j).toList) n j hj (by simp)]
    cases userT (U j) <;> cases nickT (N j) <;> cases inI (R j) 1 3 <;> cases decide (firstI j (fun x => (U x).toList == (U j).toList) < 0) <;> cases decide (firstI j (fun x => (N x).toList == (N j).toList) < 0) <;> rfl)]
  cases allTo (memOne2 U N R) n <;> cases allTo (inT U z KU KR) n <;> cases decide (n ≤ 5) <;> rfl
theorem room_eq (nm : ByteArray) (nx : Int) (sb : ByteArray) (n : Nat) (U N : Nat → ByteArray) (R : Nat → Int) (z : Nat) (KU : Nat → ByteArray) (KR : Nat → Int) :
    roomT nm nx sb n U N R z KU KR = (userT nm && (inI nx 0 9999 && (orE bodyT sb && (ranksT z KU KR && (memsT2 n U N R && (allTo (inT U z KU KR) n && (decide (0 < ownersTo KR z) || untT nx n z sb))))))) := by
  unfold roomT
  rw [mems_eq]
  cases userT nm <;> cases inI nx 0 9999 <;> cases orE bodyT sb <;> cases memsT2 n U N R <;> cases allTo (inT U z KU KR) n <;> cases ranksT z KU KR <;> rfl

set_option maxRecDepth 100000 in
set_option maxHeartbeats 16000000 in
theorem roomOk_any (nm sb : ByteArray) (nx : Int) (vm vk : Value) (n : Nat) (U N : Nat → ByteArray) (R : Nat → Int) (z : Nat) (KU : Nat → ByteArray) (KR : Nat → Int) (w : World) (hT : Tabs w) (hm : MemAt w vm n U N R) (hk : RankAt w vk z KU KR) (hnm : nm.size ≤ 9223372036854775800) (hsb : sb.size ≤ 9223372036854775800) (hs : ∀ j, j < n → (U j).size ≤ 9223372036854775800 ∧ (N j).size ≤ 9223372036854775800) (hz : ∀ j, j < z → (KU j).size ≤ 9223372036854775800) :
    Calls Tryd.prog 21 #[roomV nm nx vm vk sb] w fun e w' => e = .returned (.bool (roomT nm nx sb n U N R z KU KR)) ∧ Below w.heap.size w w' := by
  rw [room_eq]
  obtain ⟨W0, hW0⟩ : ∃ W0, W0 = w.alloc (.cells #[.string nm, .int .i64 nx, vm, vk, .string sb] 31) := ⟨_, rfl⟩
  obtain ⟨B, hB0⟩ : ∃ B, B = w.heap.size := ⟨_, rfl⟩
  have b0 : Below w.heap.size w W0 := by rw [hW0]; exact below_alloc w _
  have hw0 : B < W0.heap.size := by rw [hW0, hB0]; simp
  have RC : Hid (∀ W : World, Below W0.heap.size W0 W → W.cell? ⟨B, 0, none⟩ = some (.string nm) ∧ W.cell? ⟨B, 1, none⟩ = some (.int .i64 nx) ∧ W.cell? ⟨B, 2, none⟩ = some vm ∧ W.cell? ⟨B, 3, none⟩ = some vk ∧ W.cell? ⟨B, 4, none⟩ = some (.string sb)) := fun W b => by
    have q : ∀ i, W.cell? ⟨B, i, none⟩ = (#[.string nm, .int .i64 nx, vm, vk, .string sb] : Array Value)[i]? := fun i => (b.cell (p := ⟨B, i, none⟩) hw0).trans (by rw [hW0, hB0]; exact room_cell w _ _ i)
    exact ⟨q 0, q 1, q 2, q 3, q 4⟩
  have hT0 := Utf8Tabs_below hT b0
  have hm0 := hm.below b0
  have hk0 := hk.below b0
  have hU := fun W => isUser_any nm W hnm
  have hI := fun W => isBetween_any nx 0 9999 W
  have hB := fun W (b : Below W0.heap.size W0 W) => isBody_any sb W hsb (Utf8Tabs_below hT0 b)
  have hM := fun W (b : Below W0.heap.size W0 W) => membersOk_any vm n U N R W (Utf8Tabs_below hT0 b) (hm0.below b) hs
  have hK := fun W (b : Below W0.heap.size W0 W) => ranksOk_any vk z KU KR W (hk0.below b) hz
  have hO := fun W (b : Below W0.heap.size W0 W) => countOwners_any vk z KU KR W (hk0.below b)
  have hQ := fun u (hA : Asc z KU) (h6 : z ≤ 6) W (b : Below W0.heap.size W0 W) => rankOf_any u vk z KU KR W (hk0.below b) hA h6
  have vks : ∃ o c, vk = .slice o z c := by obtain ⟨o, c, h, _⟩ := hk; exact ⟨o, c, h⟩
  obtain ⟨o2, c2, rfl⟩ := vks
  obtain ⟨o, cap, rfl, g1, g2', hc⟩ := hm
  have g2 : cap ≤ 9223372036854775807 := g2'
  clear g2' hk hm0 hk0 hT hT0
  have HC : Hid (∀ j, j < n → ∃ b f : Nat, o = some ⟨b, f, none⟩ ∧ b < w.heap.size ∧ w.cell? ⟨b, f + j * 3, none⟩ = some (.string (U j)) ∧ w.cell? ⟨b, f + j * 3 + 1, none⟩ = some (.string (N j)) ∧ w.cell? ⟨b, f + j * 3 + 2, none⟩ = some (.int .i64 (R j))) := hc
  clear hc
  have hX := fun W => isUntouched_any nm sb nx o o2 n cap z c2 W
  obtain ⟨z0, z1, z2, z3, z4⟩ := RC.out W0 (Below.refl _ _)
  obtain ⟨Ru, hRu⟩ : ∃ Rb, userT nm = Rb := ⟨_, rfl⟩
  rw [hRu] at hU ⊢
  cases Ru
  · go_enter Tryd.func21, Tryd.ntmps21
    go_wp2_with fail
    rw [← hW0, ← hB0]
    clear hW0 hB0
    go_wp2_with (first | (go_at_call 45; go_fit (hU _); rintro e W0 ⟨rfl, rfl⟩))
    go_ret
    exact ⟨ret_bool (by simp), b0.trans ((Below.refl _ _).mono b0.size)⟩
  · skip
    clear hRu
    obtain ⟨Ri, hRi⟩ : ∃ Rb, inI nx 0 9999 = Rb := ⟨_, rfl⟩
    rw [hRi] at hI ⊢
    cases Ri
    · go_enter Tryd.func21, Tryd.ntmps21
      go_wp2_with fail
      rw [← hW0, ← hB0]
      clear hW0 hB0
      go_wp2_with (first | (go_at_call 45; go_fit (hU _); rintro e W0 ⟨rfl, rfl⟩) | (go_at_call 46; go_fit (hI _); rintro e W0 ⟨rfl, rfl⟩))
      go_ret
      exact ⟨ret_bool (by simp), b0.trans ((Below.refl _ _).mono b0.size)⟩
    · skip
      clear hRi
      rcases orE_cases bodyT sb with ⟨xf, of⟩ | ⟨xf, tf, of⟩ | ⟨xf, tf, of⟩
      all_goals rw [of]
      all_goals clear of
      · subst xf
        have t1 := Below.refl W0.heap.size W0
        obtain ⟨Rk, hRk⟩ : ∃ Rb, ranksT z KU KR = Rb := ⟨_, rfl⟩
        rw [hRk] at hK ⊢
        cases Rk
        · go_enter Tryd.func21, Tryd.ntmps21
          go_wp2_with fail
          rw [← hW0, ← hB0]
          clear hW0 hB0
          go_wp2_with (first | (go_at_call 45; go_fit (hU _); rintro e W0 ⟨rfl, rfl⟩) | (go_at_call 46; go_fit (hI _); rintro e W0 ⟨rfl, rfl⟩) | (go_at_call 48; go_fit (hK _ t1); rintro e w2 ⟨rfl, p2⟩; have t2 := t1.trans (p2.mono t1.size); clear z0 z1 z2 z3 z4; obtain ⟨z0, z1, z2, z3, z4⟩ := RC.out w2 t2))
          go_ret
          exact ⟨ret_bool (by simp), b0.trans (t2.mono b0.size)⟩
        · skip
          have hAsc := asc_of z KU KR hRk
          have hz6 : z ≤ 6 := by unfold ranksT at hRk; rw [Bool.and_eq_true] at hRk; exact of_decide_eq_true hRk.2
          clear hRk
          obtain ⟨Rm, hRm⟩ : ∃ Rb, memsT2 n U N R = Rb := ⟨_, rfl⟩
          rw [hRm] at hM ⊢
          cases Rm
          · go_enter Tryd.func21, Tryd.ntmps21
            go_wp2_with fail
            rw [← hW0, ← hB0]
            clear hW0 hB0
            go_wp2_with (first | (go_at_call 45; go_fit (hU _); rintro e W0 ⟨rfl, rfl⟩) | (go_at_call 46; go_fit (hI _); rintro e W0 ⟨rfl, rfl⟩) | (go_at_call 48; go_fit (hK _ t1); rintro e w2 ⟨rfl, p2⟩; have t2 := t1.trans (p2.mono t1.size); clear z0 z1 z2 z3 z4; obtain ⟨z0, z1, z2, z3, z4⟩ := RC.out w2 t2) | (go_at_call 49; go_fit (hM _ t2); rintro e w3 ⟨rfl, p3⟩; have t3 := t2.trans (p3.mono t2.size); clear z0 z1 z2 z3 z4; obtain ⟨z0, z1, z2, z3, z4⟩ := RC.out w3 t3))
            go_ret
            exact ⟨ret_bool (by simp), b0.trans (t3.mono b0.size)⟩
          · skip
            clear hRm
            have HA9 : Hid (Asc z KU) := hAsc
            clear hAsc
            obtain ⟨F, hF⟩ : ∃ F, (allTo (inT U z KU KR) n && (decide (0 < ownersTo KR z) || untT nx n z (⟨#[]⟩ : ByteArray))) = F := ⟨_, rfl⟩
            have HF : Hid ((allTo (inT U z KU KR) n && (decide (0 < ownersTo KR z) || untT nx n z (⟨#[]⟩ : ByteArray))) = F) := hF
            rw [hF]
            clear hF
            simp only [Bool.true_and]
            go_enter Tryd.func21, Tryd.ntmps21
            go_wp2_with fail
            rw [← hW0, ← hB0]
            clear hW0 hB0
            go_wp2_with (first | (go_at_call 45; go_fit (hU _); rintro e W0 ⟨rfl, rfl⟩) | (go_at_call 46; go_fit (hI _); rintro e W0 ⟨rfl, rfl⟩) | (go_at_call 48; go_fit (hK _ t1); rintro e w2 ⟨rfl, p2⟩; have t2 := t1.trans (p2.mono t1.size); clear z0 z1 z2 z3 z4; obtain ⟨z0, z1, z2, z3, z4⟩ := RC.out w2 t2) | (go_at_call 49; go_fit (hM _ t2); rintro e w3 ⟨rfl, p3⟩; have t3 := t2.trans (p3.mono t2.size); clear z0 z1 z2 z3 z4; obtain ⟨z0, z1, z2, z3, z4⟩ := RC.out w3 t3))
            go_loopw [4, 35] (fun _ i wr => ∃ k : Nat, k ≤ n ∧ i = .int .i64 k ∧ Below W0.heap.size W0 wr ∧ Hid (allTo (inT U z KU KR) k = true)) (fun _ i _ => n - (intOf i).toNat)
            case atStart => exact ⟨0, Nat.zero_le _, rfl, t3, (rfl : allTo (inT U z KU KR) 0 = true)⟩
            case round =>
              clear z0 z1 z2 z3 z4
              obtain ⟨k, hk, rfl, bw, HA⟩ := hrel
              by_cases hlt : k < n
              · obtain ⟨b, f, ho, hb, c0, c1, c2⟩ := HC.out k hlt
                subst ho
                have bw0 := b0.trans (bw.mono b0.size)
                have c0r := (bw0.cell (p := ⟨b, f + k * 3, none⟩) hb).trans c0
                have c1r := (bw0.cell (p := ⟨b, f + k * 3 + 1, none⟩) hb).trans c1
                have c2r := (bw0.cell (p := ⟨b, f + k * 3 + 2, none⟩) hb).trans c2
                have i1 : (0 : Int) ≤ (k : Int) := by omega
                have i2 : (k : Int) < (n : Int) := by omega
                have b2 : Below wr.heap.size wr (wr.alloc (.cells #[.string (U k), .string (N k), .int .i64 (R k)] 56)) := below_alloc wr _
                have bW : Below W0.heap.size W0 (wr.alloc (.cells #[.string (U k), .string (N k), .int .i64 (R k)] 56)) := bw.trans (b2.mono bw.size)
                obtain ⟨z0, z1, z2, z3, z4⟩ := RC.out _ bW
                have hq := hQ (U k) HA9.out hz6 _ bW
                obtain ⟨rk, hrk⟩ : ∃ rk, rankI z KU KR (U k) = rk := ⟨_, rfl⟩
                rw [hrk] at hq
                have HI : Hid (inT U z KU KR k = decide (rk ≠ 0)) := (by unfold inT; rw [hrk] : inT U z KU KR k = decide (rk ≠ 0))
                clear hrk c0 c1 c2
                by_cases h0 : rk = 0
                · have hx : (rk == 0) = true := by rw [h0]; rfl
                  have hRf : F = false := by rw [← HF.out, allTo_false (inT U z KU KR) n k hlt (by rw [HI.out, decide_eq_false (by omega)]), Bool.false_and]
                  subst hRf
                  clear HA HF HC HI h0
                  go_wp2_with (go_at_call 50; go_fit hq; rintro e w5 ⟨rfl, p5⟩; have t5 := bW.trans (p5.mono bW.size))
                  go_ret
                  exact ⟨rfl, b0.trans (t5.mono b0.size)⟩
                · have hx : (rk == 0) = false := beq_eq_false_iff_ne.2 h0
                  have HB : Hid (allTo (inT U z KU KR) (k + 1) = true) := (by rw [allTo, HA.out, Bool.true_and, HI.out, decide_eq_true h0] : allTo (inT U z KU KR) (k + 1) = true)
                  clear HA HI h0
                  go_wp2_with (go_at_call 50; go_fit hq; rintro e w5 ⟨rfl, p5⟩; have t5 := bW.trans (p5.mono bW.size))
                  go_round
                  case rel => exact ⟨k + 1, by omega, by go_num, t5, HB⟩
                  case measure => simp [intOf]; omega
              · obtain rfl : k = n := by omega
                have hF2 : F = (decide (0 < ownersTo KR z) || untT nx k z (⟨#[]⟩ : ByteArray)) := by rw [← HF.out, HA.out, Bool.true_and]
                clear HA HF HC
                subst hF2
                obtain ⟨z0, z1, z2, z3, z4⟩ := RC.out wr bw
                by_cases ho : 0 < ownersTo KR z
                · have ho2 : (0 : Int) < ((ownersTo KR z : Nat) : Int) := by omega
                  go_wp2_with (first | (go_at_call 51; go_fit (hO _ bw); rintro e w4 ⟨rfl, p4⟩; have t4 := bw.trans (p4.mono bw.size); clear z0 z1 z2 z3 z4; obtain ⟨z0, z1, z2, z3, z4⟩ := RC.out w4 t4) | (go_at_call 52; go_fit (hX _); rintro e w5 ⟨rfl, p5⟩; have t5 := t4.trans (p5.mono t4.size)))
                  go_ret
                  exact ⟨ret_bool (by rw [decide_eq_true ho]; simp), b0.trans (t4.mono b0.size)⟩
                · have ho2 : ¬ ((0 : Int) < ((ownersTo KR z : Nat) : Int)) := by omega
                  obtain ⟨q, hq⟩ : ∃ q : Int, ((ownersTo KR z : Nat) : Int) = q := ⟨_, rfl⟩
                  rw [hq] at hO ho2
                  have ho3 : decide (0 < q) = false := decide_eq_false ho2
                  clear hq
                  go_wp2_with (first | (go_at_call 51; go_fit (hO _ bw); rintro e w4 ⟨rfl, p4⟩; have t4 := bw.trans (p4.mono bw.size); clear z0 z1 z2 z3 z4; obtain ⟨z0, z1, z2, z3, z4⟩ := RC.out w4 t4) | (go_at_call 52; go_fit (hX _); rintro e w5 ⟨rfl, p5⟩; have t5 := t4.trans (p5.mono t4.size)))
                  go_ret
                  exact ⟨ret_bool (by rw [decide_eq_false ho]; simp), b0.trans (t5.mono b0.size)⟩
      · rw [tf] at hB
        clear tf
        obtain ⟨Rk, hRk⟩ : ∃ Rb, ranksT z KU KR = Rb := ⟨_, rfl⟩
        rw [hRk] at hK ⊢
        cases Rk
        · go_enter Tryd.func21, Tryd.ntmps21
          go_wp2_with fail
          rw [← hW0, ← hB0]
          clear hW0 hB0
          go_wp2_with (first | (go_at_call 45; go_fit (hU _); rintro e W0 ⟨rfl, rfl⟩) | (go_at_call 46; go_fit (hI _); rintro e W0 ⟨rfl, rfl⟩) | (go_at_call 47; go_fit (hB _ (Below.refl _ _)); rintro e w1 ⟨rfl, t1⟩; clear z0 z1 z2 z3 z4; obtain ⟨z0, z1, z2, z3, z4⟩ := RC.out w1 t1) | (go_at_call 48; go_fit (hK _ t1); rintro e w2 ⟨rfl, p2⟩; have t2 := t1.trans (p2.mono t1.size); clear z0 z1 z2 z3 z4; obtain ⟨z0, z1, z2, z3, z4⟩ := RC.out w2 t2))
          go_ret
          exact ⟨ret_bool (by simp), b0.trans (t2.mono b0.size)⟩
        · skip
          have hAsc := asc_of z KU KR hRk
          have hz6 : z ≤ 6 := by unfold ranksT at hRk; rw [Bool.and_eq_true] at hRk; exact of_decide_eq_true hRk.2
          clear hRk
          obtain ⟨Rm, hRm⟩ : ∃ Rb, memsT2 n U N R = Rb := ⟨_, rfl⟩
          rw [hRm] at hM ⊢
          cases Rm
          · go_enter Tryd.func21, Tryd.ntmps21
            go_wp2_with fail
            rw [← hW0, ← hB0]
            clear hW0 hB0
            go_wp2_with (first | (go_at_call 45; go_fit (hU _); rintro e W0 ⟨rfl, rfl⟩) | (go_at_call 46; go_fit (hI _); rintro e W0 ⟨rfl, rfl⟩) | (go_at_call 47; go_fit (hB _ (Below.refl _ _)); rintro e w1 ⟨rfl, t1⟩; clear z0 z1 z2 z3 z4; obtain ⟨z0, z1, z2, z3, z4⟩ := RC.out w1 t1) | (go_at_call 48; go_fit (hK _ t1); rintro e w2 ⟨rfl, p2⟩; have t2 := t1.trans (p2.mono t1.size); clear z0 z1 z2 z3 z4; obtain ⟨z0, z1, z2, z3, z4⟩ := RC.out w2 t2) | (go_at_call 49; go_fit (hM _ t2); rintro e w3 ⟨rfl, p3⟩; have t3 := t2.trans (p3.mono t2.size); clear z0 z1 z2 z3 z4; obtain ⟨z0, z1, z2, z3, z4⟩ := RC.out w3 t3))
            go_ret
            exact ⟨ret_bool (by simp), b0.trans (t3.mono b0.size)⟩
          · skip
            clear hRm
            have HA9 : Hid (Asc z KU) := hAsc
            clear hAsc
            obtain ⟨F, hF⟩ : ∃ F, (allTo (inT U z KU KR) n && (decide (0 < ownersTo KR z) || untT nx n z sb)) = F := ⟨_, rfl⟩
            have HF : Hid ((allTo (inT U z KU KR) n && (decide (0 < ownersTo KR z) || untT nx n z sb)) = F) := hF
            rw [hF]
            clear hF
            simp only [Bool.true_and]
            go_enter Tryd.func21, Tryd.ntmps21
            go_wp2_with fail
            rw [← hW0, ← hB0]
            clear hW0 hB0
            go_wp2_with (first | (go_at_call 45; go_fit (hU _); rintro e W0 ⟨rfl, rfl⟩) | (go_at_call 46; go_fit (hI _); rintro e W0 ⟨rfl, rfl⟩) | (go_at_call 47; go_fit (hB _ (Below.refl _ _)); rintro e w1 ⟨rfl, t1⟩; clear z0 z1 z2 z3 z4; obtain ⟨z0, z1, z2, z3, z4⟩ := RC.out w1 t1) | (go_at_call 48; go_fit (hK _ t1); rintro e w2 ⟨rfl, p2⟩; have t2 := t1.trans (p2.mono t1.size); clear z0 z1 z2 z3 z4; obtain ⟨z0, z1, z2, z3, z4⟩ := RC.out w2 t2) | (go_at_call 49; go_fit (hM _ t2); rintro e w3 ⟨rfl, p3⟩; have t3 := t2.trans (p3.mono t2.size); clear z0 z1 z2 z3 z4; obtain ⟨z0, z1, z2, z3, z4⟩ := RC.out w3 t3))
            go_loopw [4, 35] (fun _ i wr => ∃ k : Nat, k ≤ n ∧ i = .int .i64 k ∧ Below W0.heap.size W0 wr ∧ Hid (allTo (inT U z KU KR) k = true)) (fun _ i _ => n - (intOf i).toNat)
            case atStart => exact ⟨0, Nat.zero_le _, rfl, t3, (rfl : allTo (inT U z KU KR) 0 = true)⟩
            case round =>
              clear z0 z1 z2 z3 z4
              obtain ⟨k, hk, rfl, bw, HA⟩ := hrel
              by_cases hlt : k < n
              · obtain ⟨b, f, ho, hb, c0, c1, c2⟩ := HC.out k hlt
                subst ho
                have bw0 := b0.trans (bw.mono b0.size)
                have c0r := (bw0.cell (p := ⟨b, f + k * 3, none⟩) hb).trans c0
                have c1r := (bw0.cell (p := ⟨b, f + k * 3 + 1, none⟩) hb).trans c1
                have c2r := (bw0.cell (p := ⟨b, f + k * 3 + 2, none⟩) hb).trans c2
                have i1 : (0 : Int) ≤ (k : Int) := by omega
                have i2 : (k : Int) < (n : Int) := by omega
                have b2 : Below wr.heap.size wr (wr.alloc (.cells #[.string (U k), .string (N k), .int .i64 (R k)] 56)) := below_alloc wr _
                have bW : Below W0.heap.size W0 (wr.alloc (.cells #[.string (U k), .string (N k), .int .i64 (R k)] 56)) := bw.trans (b2.mono bw.size)
                obtain ⟨z0, z1, z2, z3, z4⟩ := RC.out _ bW
                have hq := hQ (U k) HA9.out hz6 _ bW
                obtain ⟨rk, hrk⟩ : ∃ rk, rankI z KU KR (U k) = rk := ⟨_, rfl⟩
                rw [hrk] at hq
                have HI : Hid (inT U z KU KR k = decide (rk ≠ 0)) := (by unfold inT; rw [hrk] : inT U z KU KR k = decide (rk ≠ 0))
                clear hrk c0 c1 c2
                by_cases h0 : rk = 0
                · have hx : (rk == 0) = true := by rw [h0]; rfl
                  have hRf : F = false := by rw [← HF.out, allTo_false (inT U z KU KR) n k hlt (by rw [HI.out, decide_eq_false (by omega)]), Bool.false_and]
                  subst hRf
                  clear HA HF HC HI h0
                  go_wp2_with (go_at_call 50; go_fit hq; rintro e w5 ⟨rfl, p5⟩; have t5 := bW.trans (p5.mono bW.size))
                  go_ret
                  exact ⟨rfl, b0.trans (t5.mono b0.size)⟩
                · have hx : (rk == 0) = false := beq_eq_false_iff_ne.2 h0
                  have HB : Hid (allTo (inT U z KU KR) (k + 1) = true) := (by rw [allTo, HA.out, Bool.true_and, HI.out, decide_eq_true h0] : allTo (inT U z KU KR) (k + 1) = true)
                  clear HA HI h0
                  go_wp2_with (go_at_call 50; go_fit hq; rintro e w5 ⟨rfl, p5⟩; have t5 := bW.trans (p5.mono bW.size))
                  go_round
                  case rel => exact ⟨k + 1, by omega, by go_num, t5, HB⟩
                  case measure => simp [intOf]; omega
              · obtain rfl : k = n := by omega
                have hF2 : F = (decide (0 < ownersTo KR z) || untT nx k z sb) := by rw [← HF.out, HA.out, Bool.true_and]
                clear HA HF HC
                subst hF2
                obtain ⟨z0, z1, z2, z3, z4⟩ := RC.out wr bw
                by_cases ho : 0 < ownersTo KR z
                · have ho2 : (0 : Int) < ((ownersTo KR z : Nat) : Int) := by omega
                  go_wp2_with (first | (go_at_call 51; go_fit (hO _ bw); rintro e w4 ⟨rfl, p4⟩; have t4 := bw.trans (p4.mono bw.size); clear z0 z1 z2 z3 z4; obtain ⟨z0, z1, z2, z3, z4⟩ := RC.out w4 t4) | (go_at_call 52; go_fit (hX _); rintro e w5 ⟨rfl, p5⟩; have t5 := t4.trans (p5.mono t4.size)))
                  go_ret
                  exact ⟨ret_bool (by rw [decide_eq_true ho]; simp), b0.trans (t4.mono b0.size)⟩
                · have ho2 : ¬ ((0 : Int) < ((ownersTo KR z : Nat) : Int)) := by omega
                  obtain ⟨q, hq⟩ : ∃ q : Int, ((ownersTo KR z : Nat) : Int) = q := ⟨_, rfl⟩
                  rw [hq] at hO ho2
                  have ho3 : decide (0 < q) = false := decide_eq_false ho2
                  clear hq
                  go_wp2_with (first | (go_at_call 51; go_fit (hO _ bw); rintro e w4 ⟨rfl, p4⟩; have t4 := bw.trans (p4.mono bw.size); clear z0 z1 z2 z3 z4; obtain ⟨z0, z1, z2, z3, z4⟩ := RC.out w4 t4) | (go_at_call 52; go_fit (hX _); rintro e w5 ⟨rfl, p5⟩; have t5 := t4.trans (p5.mono t4.size)))
                  go_ret
                  exact ⟨ret_bool (by rw [decide_eq_false ho]; simp), b0.trans (t5.mono b0.size)⟩
      · rw [tf] at hB
        clear tf
        go_enter Tryd.func21, Tryd.ntmps21
        go_wp2_with fail
        rw [← hW0, ← hB0]
        clear hW0 hB0
        go_wp2_with (first | (go_at_call 45; go_fit (hU _); rintro e W0 ⟨rfl, rfl⟩) | (go_at_call 46; go_fit (hI _); rintro e W0 ⟨rfl, rfl⟩) | (go_at_call 47; go_fit (hB _ (Below.refl _ _)); rintro e w1 ⟨rfl, t1⟩; clear z0 z1 z2 z3 z4; obtain ⟨z0, z1, z2, z3, z4⟩ := RC.out w1 t1))
        go_ret
        exact ⟨ret_bool (by simp), b0.trans (t1.mono b0.size)⟩
end Go.Proofs.YtglbjibilllopaaDoor.Hub
