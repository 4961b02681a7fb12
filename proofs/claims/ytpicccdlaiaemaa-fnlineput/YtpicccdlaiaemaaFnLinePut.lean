/-
  For every slice of bytes the law FnLinePut returns true: of a drawn line and a drawn text impl.LinePut answers as spec.LinePut; of a line that is ok the text is last, Base as it was, and LineSent one more, or it was too much. No condition: the law itself passes slices of more than 1048576 bytes by.
-/
import Derived.Test.YtpicccdlaiaemaaRows
import Derived.Test.YtpicccdlaiaemaaLineLawP
import Derived.ProofKit
import Derived.OpenShut
import Derived.ShutString
import Derived.Carry
namespace Go.Proofs.Ytpicccdlaiaemaa.fnLinePut
open Go.ChangeShapes Go.WideShapes Go.ChangeAt Go.RowKit
open Go.ChangeMaps (open_string shut_string)
set_option linter.unusedVariables false

theorem lineT_more {b g : Int} {n : Nat} {S : Nat → ByteArray} {s : ByteArray} (h : Hub.lineT b g false n S = true) (h7 : n < 8) (hs : s.size ≤ 3000) : Hub.lineT b g false (n + 1) (Hub.putS n S s) = true := by
  obtain ⟨h1, h2, h3, h4, _⟩ := Hub.lineT_parts h
  have hsm : ∀ k, k ≤ n → Hub.smallTo (Hub.putS n S s) k = true := by
    intro k
    induction k with
    | zero => intro _; rfl
    | succ k ih =>
      intro hk
      refine Hub.smallTo_step _ k (ih (by omega)) ?_
      have : Hub.putS n S s k = S k := if_neg (by omega)
      rw [this]
      exact Hub.smallTo_at S n h1 k (by omega)
  have hl : Hub.smallTo (Hub.putS n S s) (n + 1) = true := Hub.smallTo_step _ n (hsm n (Nat.le_refl _)) (by
    have : Hub.putS n S s n = s := if_pos rfl
    rw [this]; exact hs)
  unfold Hub.lineT Hub.inB
  rw [hl, decide_eq_true h2, decide_eq_true h3, decide_eq_true (by omega : n + 1 ≤ 8)]
  rfl

set_option maxRecDepth 100000 in
set_option maxHeartbeats 16000000 in
theorem walk (v1 : Value) (n1 : Nat) (w : World) (hb1 : Hub.BytesAt w.heap.size w v1 n1) :
    Calls Try.prog 4 #[v1] w fun e w' => e = .returned (.bool true) ∧ Below w.heap.size w w' := by
  obtain ⟨oo, cc, rfl⟩ := Hub.bytes_shape hb1
  by_cases hbig : (1048576 : Int) < (n1 : Int)
  · go_enter Try.func4, Try.ntmps4
    go_wp2_with fail
    go_ret
    exact ⟨rfl, Below.refl _ _⟩
  · have cD := Hub.drawLinePut_any _ n1 w hb1
    clear hb1
    go_enter Try.func4, Try.ntmps4
    go_wp2_with fail
    go_fit cD
    rintro e w1 ⟨b, g, o, q, n, S, s, rfl, hs, hm, hn9, hS, hb, hg, c1⟩
    obtain ⟨o1, c1', rfl⟩ := hm.shape
    clear cD
    obtain ⟨X3, hX3⟩ : ∃ X3, X3 = w1.heap.size := ⟨_, rfl⟩
    obtain ⟨W2, hW2⟩ : ∃ W2, W2 = w1.alloc (.cells #[.int .i64 b, .slice o1 n c1', .int .i64 g, .bool o] 28) := ⟨_, rfl⟩
    have b2 : Below w1.heap.size w1 W2 := by rw [hW2]; exact Hub.below_alloc _ _
    have c2 := c1.trans (b2.mono c1.size)
    have s2 : W2.heap.size = X3 + 1 := by rw [hW2, hX3]; simp
    have e3 : W2.heap[X3]? = some (.cells #[.int .i64 b, .slice o1 n c1', .int .i64 g, .bool o] 28 (0, 0)) := by rw [hW2, hX3]; exact World.alloc_heap_new _ _
    have HM : Hid (Hub.StrAt W2 (.slice o1 n c1') n S) := hm.below b2
    have HS : Hid (∀ j, j < n → (S j).size ≤ 9223372036854775807) := fun j hj => by have := hS j hj; omega
    have hn : n ≤ 1048576 := by omega
    have NEW3 : Hid (∀ W : World, Below W2.heap.size W2 W → W.cell? ⟨X3, 0, none⟩ = some (.int .i64 b) ∧ W.cell? ⟨X3, 1, none⟩ = some (.slice o1 n c1') ∧ W.cell? ⟨X3, 2, none⟩ = some (.int .i64 g) ∧ W.cell? ⟨X3, 3, none⟩ = some (.bool o)) := fun W bb => by
      have q := (bb.block X3 (by omega)).trans e3
      exact ⟨Hub.cell_of _ _ _ _ _ q, Hub.cell_of _ _ _ _ _ q, Hub.cell_of _ _ _ _ _ q, Hub.cell_of _ _ _ _ _ q⟩
    have IM := fun W (bb : Below W2.heap.size W2 W) => Hub.linePut_any b g o (.slice o1 n c1') n S s W (HM.out.below bb) hn (by omega) HS.out
    have SP := fun W (bb : Below W2.heap.size W2 W) => Hub.specLinePut_any b g o (.slice o1 n c1') n S s W (HM.out.below bb) hn (by omega) HS.out
    have OK := fun W (bb : Below W2.heap.size W2 W) => Hub.lineOk_any b g o (.slice o1 n c1') n S W (HM.out.below bb) hn HS.out
    have SO := fun W (bb : Below W2.heap.size W2 W) => Hub.specLineOk_any b g o (.slice o1 n c1') n S W (HM.out.below bb) hn HS.out
    obtain ⟨T, hT⟩ : ∃ T, Hub.lineT b g o n S = T := ⟨_, rfl⟩
    obtain ⟨b', hb'⟩ : ∃ b', Hub.putB b g o n S s = b' := ⟨_, rfl⟩
    obtain ⟨g', hg'⟩ : ∃ g', Hub.putG b g o n S s = g' := ⟨_, rfl⟩
    obtain ⟨o', ho'⟩ : ∃ o', Hub.putO b g o n S s = o' := ⟨_, rfl⟩
    obtain ⟨n', hn'⟩ : ∃ n', Hub.putN b g o n S s = n' := ⟨_, rfl⟩
    obtain ⟨S', hS'⟩ : ∃ S', Hub.putS n S s = S' := ⟨_, rfl⟩
    simp only [hb', hg', ho', hn', hS'] at IM SP
    rw [hT] at OK SO
    have hok : Hub.putOk b g o n S s = T := by unfold Hub.putOk; rw [hT, decide_eq_true (by omega : s.size ≤ 3000), Bool.and_true]
    have HT : Hid (Hub.lineT b g o n S = T) := hT
    have HBB : Hid ((if T then b else 0) = b') := by rw [← hb', ← hok]; rfl
    have HGG : Hid ((if T then g else 0) = g') := by rw [← hg', ← hok]; rfl
    have HOO : Hid ((T && Hub.putFull o n) = o') := by rw [← ho', ← hok]; rfl
    have HNN : Hid ((if T then (if Hub.putFull o n then 0 else n + 1) else 0) = n') := by rw [← hn', ← hok]; rfl
    have HSS : Hid (Hub.putS n S s = S') := hS'
    clear hT hb' hg' ho' hn' hm hS e3 hok hS'
    have cI := IM W2 (Below.refl _ _)
    go_wp2_with fail
    rw [← hW2, ← hX3]
    clear hW2 hX3 b2
    go_fit cI
    rintro e w3 ⟨⟨q2, rfl, hm2⟩, b3⟩
    obtain ⟨o2, c2', rfl⟩ := hm2.shape
    clear cI IM
    obtain ⟨X4, hX4⟩ : ∃ X4, X4 = w3.heap.size := ⟨_, rfl⟩
    obtain ⟨W4, hW4⟩ : ∃ W4, W4 = w3.alloc (.cells #[.int .i64 b', .slice o2 n' c2', .int .i64 g', .bool o'] 28) := ⟨_, rfl⟩
    have b4' : Below w3.heap.size w3 W4 := by rw [hW4]; exact Hub.below_alloc _ _
    have b4 := b3.trans (b4'.mono b3.size)
    have s4 : W4.heap.size = X4 + 1 := by rw [hW4, hX4]; simp
    have lX4 : W2.heap.size ≤ X4 := by have := b3.size; omega
    have e4 : W4.heap[X4]? = some (.cells #[.int .i64 b', .slice o2 n' c2', .int .i64 g', .bool o'] 28 (0, 0)) := by rw [hW4, hX4]; exact World.alloc_heap_new _ _
    have HM2 : Hid (Hub.Own W4 W2.heap.size (.slice o2 n' c2') n' S') := hm2.below b4'
    have NEW4 : Hid (∀ W : World, Below W4.heap.size W4 W → (W.cell? ⟨X3, 0, none⟩ = some (.int .i64 b) ∧ W.cell? ⟨X3, 1, none⟩ = some (.slice o1 n c1') ∧ W.cell? ⟨X3, 2, none⟩ = some (.int .i64 g) ∧ W.cell? ⟨X3, 3, none⟩ = some (.bool o)) ∧ W.cell? ⟨X4, 0, none⟩ = some (.int .i64 b') ∧ W.cell? ⟨X4, 1, none⟩ = some (.slice o2 n' c2') ∧ W.cell? ⟨X4, 2, none⟩ = some (.int .i64 g') ∧ W.cell? ⟨X4, 3, none⟩ = some (.bool o')) := fun W bb => by
      have q := (bb.block X4 (by omega)).trans e4
      exact ⟨NEW3.out W (b4.trans (bb.mono (by omega))), Hub.cell_of _ _ _ _ _ q, Hub.cell_of _ _ _ _ _ q, Hub.cell_of _ _ _ _ _ q, Hub.cell_of _ _ _ _ _ q⟩
    have c4 := c2.trans (b4.mono c2.size)
    clear hm2
    go_wp2_with fail
    rw [← hW4, ← hX4]
    clear hW4 hX4 b4' b3 e4
    have BD : Below W4.heap.size W4 W4.drew := (Below.refl W4.heap.size W4).drew
    have SP4 := fun W (bb : Below W4.heap.size W4 W) => SP W (b4.trans (bb.mono (by omega)))
    have OK4 := fun W (bb : Below W4.heap.size W4 W) => OK W (b4.trans (bb.mono (by omega)))
    have SO4 := fun W (bb : Below W4.heap.size W4 W) => SO W (b4.trans (bb.mono (by omega)))
    clear SP OK SO
    have hTT : (T != T) = false := bne_self_eq_false T
    have hTE : (T == T) = true := beq_self_eq_true T
    obtain ⟨⟨x0, x1, x2, x3⟩, y0, y1, y2, y3⟩ := NEW4.out W4 (Below.refl _ _)
    go_region_held3 (fun W => (W.cell? ⟨X3, 0, none⟩ = some (.int .i64 b) ∧ W.cell? ⟨X3, 1, none⟩ = some (.slice o1 n c1') ∧ W.cell? ⟨X3, 2, none⟩ = some (.int .i64 g) ∧ W.cell? ⟨X3, 3, none⟩ = some (.bool o)) ∧ W.cell? ⟨X4, 0, none⟩ = some (.int .i64 b') ∧ W.cell? ⟨X4, 1, none⟩ = some (.slice o2 n' c2') ∧ W.cell? ⟨X4, 2, none⟩ = some (.int .i64 g') ∧ W.cell? ⟨X4, 3, none⟩ = some (.bool o'))
      (first | go_keep | exact NEW4.out _ b9 | exact NEW4.out _ b8 | exact NEW4.out _ b7 | exact NEW4.out _ b6 | exact NEW4.out _ b5)
      (first
        | (go_at_call 14; refine (SP4 W4.drew BD).mono ?_; rintro e w5 ⟨⟨q5, rfl, hm5⟩, p5⟩; have b5 : Below W4.heap.size W4 w5 := BD.trans (p5.mono BD.size); have cE := Hub.hbLine_same b' g' o' (.slice o2 n' c2') q5 n' S' w5 (HM2.out.below b5).strAt hm5.strAt; clear hm5 p5)
        | (go_at_call 13; refine cE.mono ?_; rintro e w6 ⟨rfl, p6⟩; have b6 : Below W4.heap.size W4 w6 := b5.trans (p6.mono b5.size); clear cE p6)
        | (go_at_call 15; refine (OK4 _ b8).mono ?_; rintro e w9 ⟨rfl, pLL⟩; have b9 : Below W4.heap.size W4 w9 := b8.trans (pLL.mono b8.size); clear pLL)
        | (go_at_call 15; refine (OK4 _ b6).mono ?_; rintro e w7 ⟨rfl, pLL⟩; have b7 : Below W4.heap.size W4 w7 := b6.trans (pLL.mono b6.size); clear pLL)
        | (go_at_call 16; refine (SO4 w7 b7).mono ?_; rintro e w8 ⟨rfl, p8⟩; have b8 : Below W4.heap.size W4 w8 := b7.trans (p8.mono b7.size); clear p8))
    clear x0 x1 x2 x3 y0 y1 y2 y3
    have c9 := c4.trans (b9.mono (by have := c4.size; omega))
    have s9 := b9.size
    cases T
    · have BE : Below W4.heap.size W4 w9.drew := b9.drew
      simp only [Bool.not_false]
      obtain ⟨⟨x0, x1, x2, x3⟩, y0, y1, y2, y3⟩ := NEW4.out w9 b9
      have e9w : (false == false) = true := rfl
      go_wp2_with fail
      go_region_held3 (fun W => (W.cell? ⟨X3, 0, none⟩ = some (.int .i64 b) ∧ W.cell? ⟨X3, 1, none⟩ = some (.slice o1 n c1') ∧ W.cell? ⟨X3, 2, none⟩ = some (.int .i64 g) ∧ W.cell? ⟨X3, 3, none⟩ = some (.bool o)) ∧ W.cell? ⟨X4, 0, none⟩ = some (.int .i64 b') ∧ W.cell? ⟨X4, 1, none⟩ = some (.slice o2 n' c2') ∧ W.cell? ⟨X4, 2, none⟩ = some (.int .i64 g') ∧ W.cell? ⟨X4, 3, none⟩ = some (.bool o'))
        (first | go_keep | exact NEW4.out _ d8 | exact NEW4.out _ d7 | exact NEW4.out _ d6 | exact NEW4.out _ d5)
        (first
          | (go_at_call 14; refine (SP4 w9.drew BE).mono ?_; rintro e v5 ⟨⟨q5, rfl, hm5⟩, p5⟩; have d5 : Below W4.heap.size W4 v5 := BE.trans (p5.mono BE.size); have cE := Hub.hbLine_same b' g' o' (.slice o2 n' c2') q5 n' S' v5 (HM2.out.below d5).strAt hm5.strAt; clear hm5 p5)
          | (go_at_call 13; refine cE.mono ?_; rintro e v6 ⟨rfl, p6⟩; have d6 : Below W4.heap.size W4 v6 := d5.trans (p6.mono d5.size); clear cE p6)
          | (go_at_call 15; refine (OK4 v6 d6).mono ?_; rintro e v7 ⟨rfl, p7⟩; have d7 : Below W4.heap.size W4 v7 := d6.trans (p7.mono d6.size); clear p7)
          | (go_at_call 16; refine (SO4 v7 d7).mono ?_; rintro e v8 ⟨rfl, p8⟩; have d8 : Below W4.heap.size W4 v8 := d7.trans (p8.mono d7.size); clear p8))
      have cF := c4.trans (d8.mono (by have := c4.size; omega))
      clear x0 x1 x2 x3 y0 y1 y2 y3
      go_wp2_with fail
      go_ret
      exact ⟨rfl, cF⟩
    · have eb : b' = b := by rw [← HBB.out]; rfl
      have eg : g' = g := by rw [← HGG.out]; rfl
      have eo : o' = Hub.putFull o n := by rw [← HOO.out]; rfl
      have en : n' = if Hub.putFull o n then 0 else n + 1 := by rw [← HNN.out]; rfl
      subst eb eg
      have HEO : Hid (o' = Hub.putFull o n) := eo
      have HEN : Hid (n' = if Hub.putFull o n then 0 else n + 1) := en
      clear eo en HBB HGG HOO HNN SP4 OK4 SO4
      simp only [Bool.not_true]
      obtain ⟨⟨x0, x1, x2, x3⟩, y0, y1, y2, y3⟩ := NEW4.out w9 b9
      cases hF : Hub.putFull o n
      · obtain rfl : o' = false := by rw [HEO.out, hF]
        have hn1 : n' = n + 1 := by rw [HEN.out, hF]; rfl
        have hoo : o = false ∧ n < 8 := by
          unfold Hub.putFull at hF
          rw [Bool.or_eq_false_iff, decide_eq_false_iff_not] at hF
          exact ⟨hF.1, by omega⟩
        obtain ⟨rfl, hn8⟩ := hoo
        clear hF HEO HEN
        obtain ⟨gg, cg, hv, hbg, hlg⟩ := World.ownsRow.form HM2.out (by omega)
        injection hv with hv1 hv2 hv3
        subst hv1 hv3
        clear hv2
        have hcap : n' ≤ c2' ∧ c2' ≤ 9223372036854775807 := by
          obtain ⟨oq, cq, hq, hq1, hq2, _⟩ := HM2.out.strAt
          injection hq with _ _ hq3
          subst hq3
          exact ⟨hq1, hq2.1⟩
        have hcell : ∀ W, Below W4.heap.size W4 W → W.cell? ⟨gg, n, none⟩ = some (.string s) := fun W bb => by
          have h1 := World.ownsRow.cellAt (HM2.out.below bb) n (by omega)
          rw [h1, Hub.strVs_at S' n' n (by omega), ← HSS.out]
          have : Hub.putS n S s n = s := if_pos rfl
          rw [this]
        have NEW9 : Hid (∀ W : World, Below W4.heap.size W4 W → ((W.cell? ⟨X3, 0, none⟩ = some (.int .i64 b') ∧ W.cell? ⟨X3, 1, none⟩ = some (.slice o1 n c1') ∧ W.cell? ⟨X3, 2, none⟩ = some (.int .i64 g') ∧ W.cell? ⟨X3, 3, none⟩ = some (.bool false)) ∧ W.cell? ⟨X4, 0, none⟩ = some (.int .i64 b') ∧ W.cell? ⟨X4, 1, none⟩ = some (.slice (some ⟨gg, 0, none⟩) n' c2') ∧ W.cell? ⟨X4, 2, none⟩ = some (.int .i64 g') ∧ W.cell? ⟨X4, 3, none⟩ = some (.bool false)) ∧ W.cell? ⟨gg, n, none⟩ = some (.string s)) := fun W bb => ⟨NEW4.out W bb, hcell W bb⟩
        have k0 := hcell w9 b9
        have HLT : Hid (Hub.lineT b' g' false n' S' = true) := by rw [← HSS.out, hn1]; exact lineT_more HT.out hn8 (by omega)
        have hSS : ∀ j, j < n' → (S' j).size ≤ 9223372036854775807 := fun j hj => by
          have := Hub.smallTo_at S' n' (Hub.lineT_parts HLT.out).1 j hj
          omega
        have OX := fun W (bb : Below W4.heap.size W4 W) => Hub.lineOk_any b' g' false (.slice (some ⟨gg, 0, none⟩) n' c2') n' S' W (HM2.out.below bb).strAt (by omega) hSS
        rw [HLT.out] at OX
        have SX := fun W (bb : Below W4.heap.size W4 W) => Hub.lineSent_any b' g' false (.slice (some ⟨gg, 0, none⟩) n' c2') n' S' W (HM2.out.below bb).strAt (by omega) hSS
        have SL := fun W (bb : Below W4.heap.size W4 W) => Hub.lineSent_any b' g' false (.slice o1 n c1') n S W (HM.out.below (b4.trans (bb.mono (by omega)))) hn HS.out
        obtain ⟨_, hbr, _, _, _⟩ := Hub.lineT_parts HT.out
        have hz1 : Hub.sentT b' g' false n' S' = (b' + (n' : Int)) % 256 := by unfold Hub.sentT; rw [HLT.out, if_pos rfl]
        have hz2 : Hub.sentT b' g' false n S = (b' + (n : Int)) % 256 := by unfold Hub.sentT; rw [HT.out, if_pos rfl]
        rw [hz1] at SX
        rw [hz2] at SL
        obtain ⟨zx, hzx⟩ : ∃ zx, (b' + (n' : Int)) % 256 = zx := ⟨_, rfl⟩
        obtain ⟨zl, hzl⟩ : ∃ zl, (b' + (n : Int)) % 256 = zl := ⟨_, rfl⟩
        rw [hzx] at SX
        rw [hzl] at SL
        have hzz : (zl + 1) % 256 = zx := by omega
        have hzr : 0 ≤ zl ∧ zl ≤ 255 := by omega
        have ew : IntKind.i64.wrap (zl + 1) = zl + 1 := by rw [IntKind.wrap_i64]; omega
        have ew2 : IntKind.i64.wrap ((n : Int) + 1) = (n : Int) + 1 := by rw [IntKind.wrap_i64]; omega
        have er : (zl + 1).tmod 256 = zx := by rw [Int.tmod_eq_emod_of_nonneg (by omega)]; exact hzz
        have HT8 := fun W (bb : Below W4.heap.size W4 W) => Hub.hbTexts_same (.slice (some ⟨gg, 0, none⟩) n c2') (.slice o1 n c1') n S W (by
            have ho := HM2.out.below bb
            refine ⟨some ⟨gg, 0, none⟩, c2', rfl, by omega, ⟨hcap.2, fun e => by cases e⟩, fun j hj => ⟨gg, 0, rfl, (World.ownsRow.form ho (by omega)).elim fun g2 h2 => h2.elim fun _ h3 => by
              have he := h3.1
              injection he with he1
              injection he1 with he2
              injection he2 with he3
              rw [he3]; exact h3.2.2, ?_⟩⟩
            rw [Nat.zero_add, World.ownsRow.cellAt ho j (by omega), Hub.strVs_at S' n' j (by omega), ← HSS.out]
            have : Hub.putS n S s j = S j := if_neg (by omega)
            rw [this]) (HM.out.below (b4.trans (bb.mono (by omega))))
        have i1 : (0 : Int) ≤ (n : Int) := by omega
        have i2 : (n : Int) < (n' : Int) := by omega
        have i4 : ((n' : Int) == (n : Int) + 1) = true := by simp; omega
        have i3 : (n : Int) ≤ (c2' : Int) := by omega
        have BE : Below W4.heap.size W4 w9.drew := b9.drew
        clear hzx hzl hz1 hz2 hcell hSS hcap hzz hbg hlg hbr hn1
        go_wp2_with fail
        go_region_held3 (fun W => ((W.cell? ⟨X3, 0, none⟩ = some (.int .i64 b') ∧ W.cell? ⟨X3, 1, none⟩ = some (.slice o1 n c1') ∧ W.cell? ⟨X3, 2, none⟩ = some (.int .i64 g') ∧ W.cell? ⟨X3, 3, none⟩ = some (.bool false)) ∧ W.cell? ⟨X4, 0, none⟩ = some (.int .i64 b') ∧ W.cell? ⟨X4, 1, none⟩ = some (.slice (some ⟨gg, 0, none⟩) n' c2') ∧ W.cell? ⟨X4, 2, none⟩ = some (.int .i64 g') ∧ W.cell? ⟨X4, 3, none⟩ = some (.bool false)) ∧ W.cell? ⟨gg, n, none⟩ = some (.string s))
          (first | go_keep | exact NEW9.out _ d4 | exact NEW9.out _ d3 | exact NEW9.out _ d2 | exact NEW9.out _ d1)
          (first
            | (go_at_call 15; refine (OX w9.drew BE).mono ?_; rintro e v1 ⟨rfl, p1⟩; have d1 : Below W4.heap.size W4 v1 := BE.trans (p1.mono BE.size); clear p1)
            | (go_at_call 17; refine (HT8 v1 d1).mono ?_; rintro e v2 ⟨rfl, p2⟩; have d2 : Below W4.heap.size W4 v2 := d1.trans (p2.mono d1.size); clear p2)
            | (go_at_call 18; refine (SL v3 d3).mono ?_; rintro e v4 ⟨rfl, p4⟩; have d4 : Below W4.heap.size W4 v4 := d3.trans (p4.mono d3.size); clear p4)
            | (go_at_call 18; refine (SX v2 d2).mono ?_; rintro e v3 ⟨rfl, p3⟩; have d3 : Below W4.heap.size W4 v3 := d2.trans (p3.mono d2.size); clear p3))
        have cF := c4.trans (d4.mono (by have := c4.size; omega))
        clear x0 x1 x2 x3 y0 y1 y2 y3 k0
        go_wp2_with fail
        go_ret
        exact ⟨rfl, cF⟩
      · obtain rfl : o' = true := by rw [HEO.out, hF]
        obtain rfl : n' = 0 := by rw [HEN.out, hF]; rfl
        have hoo : o = true ∨ (o = false ∧ n = 8) := by
          unfold Hub.putFull at hF
          have hl := (Hub.lineT_parts HT.out).2.2.2.1
          cases o
          · right
            refine ⟨rfl, ?_⟩
            have := of_decide_eq_true (by simpa using hF : decide (8 ≤ n) = true)
            omega
          · exact .inl rfl
        clear hF HEO HEN
        rcases hoo with rfl | ⟨rfl, rfl⟩
        · go_wp2_with fail
          go_ret
          exact ⟨rfl, c9⟩
        · go_wp2_with fail
          go_ret
          exact ⟨rfl, c9⟩

theorem own : ownKnob Try.prog.godebug = none := by kernel_rfl
theorem laidOut : laidOutB Try.prog = true := by kernel_rfl
set_option maxRecDepth 100000 in
theorem lifted (os : Os) (started : os.Started) (H : Type) (enc : TypeId × Value → H) :
    ReturnsInHanded {} Try.checked os 4 .any (Rows.fnLinePutSpec.pre6 enc Try.prog Try.f4 Rows.fnLinePutRow.domain false) (Rows.fnLinePutSpec.post enc Try.prog Try.f4 false true false false) := by
  refine returnsInHanded_of_change (C := Try.checked) own started (by kernel_rfl) Try.func4
    (ChangeSpec.witness6 (enc := enc) (C := Try.checked) false ⟨#[], #[.slice none 0 0], []⟩ 8 (by kernel_rfl) (by kernel_rfl) (by kernel_rfl) (by kernel_rfl)) ?_
  intro W base args ds gs before hval0 hW hcnd _
  have hval : ∀ (j : Nat) t v, Try.f4.params[j]? = some t → args[j]? = some v → Value.okWide Try.prog W .any base t v := hval0
  have hW' := hW
  obtain ⟨p, q, hA0, hV, rfl, hfz, hnd⟩ := hW
  have hA : DataW.TrodAll enc Try.prog W 0 (fun _ => true) true Try.f4.params.toList args.toList ds p := hA0
  rw [Try.params4] at hA hval
  obtain ⟨v0, vs0, d0, ds0, p0, q_0, hargs, rfl, rfl, h0, r0⟩ := trodAll_cons hA
  obtain ⟨rfl, rfl, rfl⟩ := trodAll_nil r0
  obtain rfl : args = #[v0] := by cases args; simp_all
  obtain ⟨rfl, rfl⟩ := trodVars_none hV
  obtain ⟨n0, hb0⟩ := Hub.open_bytes (hval 0 22 v0 rfl rfl) h0
  clear hA0 hval0
  simp only [List.append_nil] at hW'
  have hlt0 := hW'.lt
  refine (walk v0 n0 W hb0).mono fun e W' ⟨he, bel⟩ => ?_
  subst he
  exact ⟨_, rfl, _, _, _, [], _, [], hW', trodAll_mk1 (shut_bool Try.underlying4 _), (trodAll_cons_mk (Below.trod laidOut (by kernel_rfl) (of_decide_eq_true (by kernel_rfl)) h0 bel (fun x hx => hlt0 x (by simp [hx]))) trodAll_mk0), rfl, bel.frame _, fun h => by cases h⟩

theorem over : Rows.fnLinePutRow.holds Try.pinned (OpenSpec.ofChange Rows.fnLinePutSpec) :=
  OpenClaim.holds_of_wide 4 Try.f4 rfl rfl rfl rfl rfl rfl rfl ⟨rfl, rfl, rfl, rfl, rfl⟩ rfl rfl rfl rfl rfl (by kernel_rfl) Try.func4 (by kernel_rfl)
    (of_decide_eq_true (by kernel_rfl)) (by unfold Func.isWrapper; first | (rw [if_pos (by decide +kernel)]; kernel_rfl) | (rw [if_neg (by decide +kernel)]; exact ⟨rfl, rfl⟩))
    (fun os started H enc _ => lifted os started H enc)
theorem proved : Rows.FnLinePutSaid := over
#print axioms proved
end Go.Proofs.Ytpicccdlaiaemaa.fnLinePut

namespace Go.Proofs.Ytpicccdlaiaemaa
/-- The statement. -/
theorem fnLinePut_holds : Rows.FnLinePutSaid := fnLinePut.proved
end Go.Proofs.Ytpicccdlaiaemaa
