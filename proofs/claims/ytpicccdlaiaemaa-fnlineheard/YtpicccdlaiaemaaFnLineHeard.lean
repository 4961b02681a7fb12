/-
  For every slice of bytes the law FnLineHeard returns true: of a drawn line impl.LineHeard answers as spec.LineHeard; of one that is ok Got is one more, round 256, and behind 256 of them it is the line again. No condition: the law itself passes slices of more than 1048576 bytes by.
-/
import Derived.Test.YtpicccdlaiaemaaRows
import Derived.Test.YtpicccdlaiaemaaLineLaw
import Derived.ProofKit
import Derived.OpenShut
import Derived.ShutString
import Derived.Carry
namespace Go.Proofs.Ytpicccdlaiaemaa.fnLineHeard
open Go.ChangeShapes Go.WideShapes Go.ChangeAt Go.RowKit
open Go.ChangeMaps (open_string shut_string)
set_option linter.unusedVariables false

/-- A line that is ok is so whatever count it has. -/
theorem lineT_got {b g : Int} {o : Bool} {n : Nat} {S : Nat → ByteArray} (h : Hub.lineT b g o n S = true) (g2 : Int) (h0 : 0 ≤ g2) (h1 : g2 ≤ 255) : Hub.lineT b g2 o n S = true := by
  unfold Hub.lineT at h ⊢
  rw [Bool.and_eq_true, Bool.and_eq_true, Bool.and_eq_true] at h ⊢
  refine ⟨h.1, h.2.1, ?_, h.2.2.2⟩
  unfold Hub.inB
  exact decide_eq_true ⟨h0, h1⟩

set_option maxRecDepth 100000 in
set_option maxHeartbeats 8000000 in
theorem walk (v1 : Value) (n1 : Nat) (w : World) (hb1 : Hub.BytesAt w.heap.size w v1 n1) :
    Calls Try.prog 6 #[v1] w fun e w' => e = .returned (.bool true) ∧ Below w.heap.size w w' := by
  obtain ⟨oo, cc, rfl⟩ := Hub.bytes_shape hb1
  by_cases hbig : (1048576 : Int) < (n1 : Int)
  · go_enter Try.func6, Try.ntmps6
    go_wp2_with fail
    go_ret
    exact ⟨rfl, Below.refl _ _⟩
  · have cD := Hub.drawLineHeard_any _ n1 w hb1
    clear hb1
    go_enter Try.func6, Try.ntmps6
    go_wp2_with fail
    go_fit cD
    rintro e w1 ⟨b, g, o, q, n, S, rfl, hm, hn9, hS, hb, hg, c1⟩
    obtain ⟨o1, c1', rfl⟩ := hm.shape
    clear cD
    obtain ⟨X3, hX3⟩ : ∃ X3, X3 = w1.heap.size := ⟨_, rfl⟩
    obtain ⟨W2, hW2⟩ : ∃ W2, W2 = w1.alloc (.cells #[.int .i64 b, .slice o1 n c1', .int .i64 g, .bool o] 28) := ⟨_, rfl⟩
    have b2 : Below w1.heap.size w1 W2 := by rw [hW2]; exact Hub.below_alloc _ _
    have c2 := c1.trans (b2.mono c1.size)
    have s2 : W2.heap.size = X3 + 1 := by rw [hW2, hX3]; simp
    have e3 : W2.heap[X3]? = some (.cells #[.int .i64 b, .slice o1 n c1', .int .i64 g, .bool o] 28 (0, 0)) := by rw [hW2, hX3]; exact World.alloc_heap_new _ _
    have HM : Hid (Hub.StrAt W2 (.slice o1 n c1') n S) := hm.below b2
    have HS : Hid (∀ j, j < n → (S j).size ≤ 9223372036854775807) := fun j hj => by have := hS j hj; omega
    have hn : n ≤ 1048576 := by omega
    have NEW3 : Hid (∀ W : World, Below W2.heap.size W2 W → W.cell? ⟨X3, 0, none⟩ = some (.int .i64 b) ∧ W.cell? ⟨X3, 1, none⟩ = some (.slice o1 n c1') ∧ W.cell? ⟨X3, 2, none⟩ = some (.int .i64 g) ∧ W.cell? ⟨X3, 3, none⟩ = some (.bool o)) := fun W bb => by
      have q := (bb.block X3 (by omega)).trans e3
      exact ⟨Hub.cell_of _ _ _ _ _ q, Hub.cell_of _ _ _ _ _ q, Hub.cell_of _ _ _ _ _ q, Hub.cell_of _ _ _ _ _ q⟩
    have IM := fun W (bb : Below W2.heap.size W2 W) => Hub.lineHeard_any b g o (.slice o1 n c1') n S W (HM.out.below bb) hn HS.out
    have SP := fun W (bb : Below W2.heap.size W2 W) => Hub.specLineHeard_any b g o (.slice o1 n c1') n S W (HM.out.below bb) hn HS.out
    have OK := fun W (bb : Below W2.heap.size W2 W) => Hub.lineOk_any b g o (.slice o1 n c1') n S W (HM.out.below bb) hn HS.out
    obtain ⟨T, hT⟩ : ∃ T, Hub.lineT b g o n S = T := ⟨_, rfl⟩
    obtain ⟨b', hb'⟩ : ∃ b', Hub.hearB b g o n S = b' := ⟨_, rfl⟩
    obtain ⟨g', hg'⟩ : ∃ g', Hub.hearG b g o n S = g' := ⟨_, rfl⟩
    obtain ⟨o', ho'⟩ : ∃ o', Hub.hearO b g o n S = o' := ⟨_, rfl⟩
    obtain ⟨n', hn'⟩ : ∃ n', Hub.hearN b g o n S = n' := ⟨_, rfl⟩
    simp only [hb', hg', ho', hn'] at IM SP
    rw [hT] at OK
    have HT : Hid (Hub.lineT b g o n S = T) := hT
    have HBB : Hid (Hub.hearB b g o n S = b') := hb'
    have HGG : Hid (Hub.hearG b g o n S = g') := hg'
    have HOO : Hid (Hub.hearO b g o n S = o') := ho'
    have HNN : Hid (Hub.hearN b g o n S = n') := hn'
    clear hT hb' hg' ho' hn' hm hS e3
    have cI := IM W2 (Below.refl _ _)
    go_wp2_with fail
    rw [← hW2, ← hX3]
    clear hW2 hX3 b2
    go_fit cI
    rintro e w3 ⟨⟨q2, rfl, hm2⟩, b3⟩
    obtain ⟨o2, c2', rfl⟩ := hm2.shape
    clear cI
    obtain ⟨X4, hX4⟩ : ∃ X4, X4 = w3.heap.size := ⟨_, rfl⟩
    obtain ⟨W4, hW4⟩ : ∃ W4, W4 = w3.alloc (.cells #[.int .i64 b', .slice o2 n' c2', .int .i64 g', .bool o'] 28) := ⟨_, rfl⟩
    have b4' : Below w3.heap.size w3 W4 := by rw [hW4]; exact Hub.below_alloc _ _
    have b4 := b3.trans (b4'.mono b3.size)
    have s4 : W4.heap.size = X4 + 1 := by rw [hW4, hX4]; simp
    have lX4 : W2.heap.size ≤ X4 := by have := b3.size; omega
    have e4 : W4.heap[X4]? = some (.cells #[.int .i64 b', .slice o2 n' c2', .int .i64 g', .bool o'] 28 (0, 0)) := by rw [hW4, hX4]; exact World.alloc_heap_new _ _
    have HM2 : Hid (Hub.StrAt W4 (.slice o2 n' c2') n' S) := (hm2.below b4').strAt
    have NEW4 : Hid (∀ W : World, Below W4.heap.size W4 W → (W.cell? ⟨X3, 0, none⟩ = some (.int .i64 b) ∧ W.cell? ⟨X3, 1, none⟩ = some (.slice o1 n c1') ∧ W.cell? ⟨X3, 2, none⟩ = some (.int .i64 g) ∧ W.cell? ⟨X3, 3, none⟩ = some (.bool o)) ∧ W.cell? ⟨X4, 0, none⟩ = some (.int .i64 b') ∧ W.cell? ⟨X4, 1, none⟩ = some (.slice o2 n' c2') ∧ W.cell? ⟨X4, 2, none⟩ = some (.int .i64 g') ∧ W.cell? ⟨X4, 3, none⟩ = some (.bool o')) := fun W bb => by
      have q := (bb.block X4 (by omega)).trans e4
      exact ⟨NEW3.out W (b4.trans (bb.mono (by omega))), Hub.cell_of _ _ _ _ _ q, Hub.cell_of _ _ _ _ _ q, Hub.cell_of _ _ _ _ _ q, Hub.cell_of _ _ _ _ _ q⟩
    have c4 := c2.trans (b4.mono c2.size)
    clear hm2
    go_wp2_with fail
    rw [← hW4, ← hX4]
    clear hW4 hX4 b4' b3
    have BD : Below W4.heap.size W4 W4.drew := (Below.refl W4.heap.size W4).drew
    have SP4 := fun W (bb : Below W4.heap.size W4 W) => SP W (b4.trans (bb.mono (by omega)))
    have OK4 := fun W (bb : Below W4.heap.size W4 W) => OK W (b4.trans (bb.mono (by omega)))
    obtain ⟨⟨x0, x1, x2, x3⟩, y0, y1, y2, y3⟩ := NEW4.out W4 (Below.refl _ _)
    go_region_held3 (fun W => (W.cell? ⟨X3, 0, none⟩ = some (.int .i64 b) ∧ W.cell? ⟨X3, 1, none⟩ = some (.slice o1 n c1') ∧ W.cell? ⟨X3, 2, none⟩ = some (.int .i64 g) ∧ W.cell? ⟨X3, 3, none⟩ = some (.bool o)) ∧ W.cell? ⟨X4, 0, none⟩ = some (.int .i64 b') ∧ W.cell? ⟨X4, 1, none⟩ = some (.slice o2 n' c2') ∧ W.cell? ⟨X4, 2, none⟩ = some (.int .i64 g') ∧ W.cell? ⟨X4, 3, none⟩ = some (.bool o'))
      (first | go_keep | exact NEW4.out _ b7 | exact NEW4.out _ b6 | exact NEW4.out _ b5)
      (first
        | (go_at_call 24; refine (SP4 W4.drew BD).mono ?_; rintro e w5 ⟨⟨q5, rfl, hm5⟩, p5⟩; have b5 : Below W4.heap.size W4 w5 := BD.trans (p5.mono BD.size); have cE := Hub.hbLine_same b' g' o' (.slice o2 n' c2') q5 n' S w5 (HM2.out.below b5) hm5.strAt; clear hm5 p5)
        | (go_at_call 13; refine cE.mono ?_; rintro e w6 ⟨rfl, p6⟩; have b6 : Below W4.heap.size W4 w6 := b5.trans (p6.mono b5.size); clear cE p6)
        | (go_at_call 15; refine (OK4 w6 b6).mono ?_; rintro e w7 ⟨rfl, p7⟩; have b7 : Below W4.heap.size W4 w7 := b6.trans (p7.mono b6.size); clear p7))
    clear x0 x1 x2 x3 y0 y1 y2 y3
    have c7 := c4.trans (b7.mono (by have := c4.size; omega))
    have s7 := b7.size
    cases T
    · have BE : Below W4.heap.size W4 w7.drew := b7.drew
      obtain ⟨⟨x0, x1, x2, x3⟩, y0, y1, y2, y3⟩ := NEW4.out w7 b7
      go_wp2_with fail
      go_region_held3 (fun W => (W.cell? ⟨X3, 0, none⟩ = some (.int .i64 b) ∧ W.cell? ⟨X3, 1, none⟩ = some (.slice o1 n c1') ∧ W.cell? ⟨X3, 2, none⟩ = some (.int .i64 g) ∧ W.cell? ⟨X3, 3, none⟩ = some (.bool o)) ∧ W.cell? ⟨X4, 0, none⟩ = some (.int .i64 b') ∧ W.cell? ⟨X4, 1, none⟩ = some (.slice o2 n' c2') ∧ W.cell? ⟨X4, 2, none⟩ = some (.int .i64 g') ∧ W.cell? ⟨X4, 3, none⟩ = some (.bool o'))
        (first | go_keep | exact NEW4.out _ d6 | exact NEW4.out _ d5)
        (first
          | (go_at_call 24; refine (SP4 w7.drew BE).mono ?_; rintro e w8 ⟨⟨q8, rfl, hm8⟩, p8⟩; have d5 : Below W4.heap.size W4 w8 := BE.trans (p8.mono BE.size); have cE := Hub.hbLine_same b' g' o' (.slice o2 n' c2') q8 n' S w8 (HM2.out.below d5) hm8.strAt; clear hm8 p8)
          | (go_at_call 13; refine cE.mono ?_; rintro e w9 ⟨rfl, p9⟩; have d6 : Below W4.heap.size W4 w9 := d5.trans (p9.mono d5.size); clear cE p9))
      have cF := c4.trans (d6.mono (by have := c4.size; omega))
      clear x0 x1 x2 x3 y0 y1 y2 y3
      go_wp2_with fail
      go_ret
      exact ⟨rfl, cF⟩
    · have eb : b' = b := by rw [← HBB.out]; unfold Hub.hearB; rw [HT.out]; rfl
      have eg : g' = (g + 1) % 256 := by rw [← HGG.out]; unfold Hub.hearG; rw [HT.out]; rfl
      have eo : o' = o := by rw [← HOO.out]; unfold Hub.hearO; rw [HT.out]; rfl
      have en : n' = n := by rw [← HNN.out]; unfold Hub.hearN; rw [HT.out]; rfl
      subst eb eg eo en
      clear HBB HGG HOO HNN IM SP SP4 OK OK4 b5 b6 w5 w6
      simp only [Bool.not_true]
      obtain ⟨X5, hX5⟩ : ∃ X5, X5 = w7.heap.size := ⟨_, rfl⟩
      obtain ⟨W8, hW8⟩ : ∃ W8, W8 = w7.alloc (.cells #[.int .i64 b', .slice o2 n' c2', .int .i64 ((g + 1) % 256), .bool o'] 28) := ⟨_, rfl⟩
      have b8' : Below w7.heap.size w7 W8 := by rw [hW8]; exact Hub.below_alloc _ _
      have b8 : Below W4.heap.size W4 W8 := b7.trans (b8'.mono b7.size)
      have s8 : W8.heap.size = X5 + 1 := by rw [hW8, hX5]; simp
      have lX5 : W4.heap.size ≤ X5 := by omega
      have e5 : W8.heap[X5]? = some (.cells #[.int .i64 b', .slice o2 n' c2', .int .i64 ((g + 1) % 256), .bool o'] 28 (0, 0)) := by rw [hW8, hX5]; exact World.alloc_heap_new _ _
      have HM8 : Hid (Hub.StrAt W8 (.slice o2 n' c2') n' S) := HM2.out.below b8
      have b8X : Below X5 w7 W8 := by rw [hX5]; exact b8'
      obtain ⟨_, y0, y1, y2, y3⟩ := NEW4.out w7 b7
      go_wp2_with fail
      rw [← hW8, ← hX5]
      clear hW8 hX5 y0 y1 y2 y3 b8'
      go_loopw [6] (fun i wr => ∃ (k : Nat) (q : Value), 1 ≤ k ∧ k ≤ 256 ∧ i = .int .i64 k ∧ Below X5 W8 wr ∧ X5 + 1 ≤ wr.heap.size ∧ wr.heap[X5]? = some (.cells #[.int .i64 b', q, .int .i64 ((g + k) % 256), .bool o'] 28 (0, 0)) ∧ Hub.StrAt wr q n' S) (fun i _ => 256 - (intOf i).toNat)
      case atStart => exact ⟨1, .slice o2 n' c2', by omega, by omega, rfl, Below.refl _ _, by omega, e5, HM8.out⟩
      case round =>
        obtain ⟨k, q, hk1, hk2, rfl, bw, zw, eX, hq⟩ := hrel
        obtain ⟨o9, c9, rfl⟩ := hq.shape
        have EX : Hid (wr.heap[X5]? = some (.cells #[.int .i64 b', .slice o9 n' c9, .int .i64 ((g + k) % 256), .bool o'] 28 (0, 0))) := eX
        have x0 : wr.cell? ⟨X5, 0, none⟩ = some (.int .i64 b') := Hub.cell_of _ _ _ _ _ eX
        have x1 : wr.cell? ⟨X5, 1, none⟩ = some (.slice o9 n' c9) := Hub.cell_of _ _ _ _ _ eX
        have x2 : wr.cell? ⟨X5, 2, none⟩ = some (.int .i64 ((g + k) % 256)) := Hub.cell_of _ _ _ _ _ eX
        have x3 : wr.cell? ⟨X5, 3, none⟩ = some (.bool o') := Hub.cell_of _ _ _ _ _ eX
        have HQ : Hid (Hub.StrAt wr (.slice o9 n' c9) n' S) := hq
        clear hq eX
        by_cases hk : k < 256
        · have hg2 : 0 ≤ (g + k) % 256 ∧ (g + k) % 256 ≤ 255 := by omega
          have hL2 := lineT_got HT.out ((g + k) % 256) hg2.1 hg2.2
          have cI := Hub.lineHeard_any b' ((g + k) % 256) o' (.slice o9 n' c9) n' S wr HQ.out hn HS.out
          unfold Hub.hearB Hub.hearG Hub.hearO Hub.hearN at cI
          rw [hL2] at cI
          simp only [if_true, Bool.true_and] at cI
          rw [show ((g + (k : Int)) % 256 + 1) % 256 = (g + ((k + 1 : Nat) : Int)) % 256 by omega] at cI
          clear hL2
          generalize hgk : (g + ((k + 1 : Nat) : Int)) % 256 = gk at cI
          have HGK : Hid ((g + ((k + 1 : Nat) : Int)) % 256 = gk) := hgk
          clear hgk
          go_wp2_with fail
          go_fit cI
          rintro e w9 ⟨⟨q9, rfl, hm9⟩, p9⟩
          obtain ⟨o10, c10, rfl⟩ := hm9.shape
          have e9 := (p9.block X5 (by omega)).trans EX.out
          have z9 := p9.size
          have u0 : w9.cell? ⟨X5, 0, none⟩ = some (.int .i64 b') := Hub.cell_of _ _ _ _ _ e9
          have u1 : w9.cell? ⟨X5, 1, none⟩ = some (.slice o9 n' c9) := Hub.cell_of _ _ _ _ _ e9
          have u2 : w9.cell? ⟨X5, 2, none⟩ = some (.int .i64 ((g + k) % 256)) := Hub.cell_of _ _ _ _ _ e9
          have u3 : w9.cell? ⟨X5, 3, none⟩ = some (.bool o') := Hub.cell_of _ _ _ _ _ e9
          have uf : ∀ i, w9.frozen? ⟨X5, i, none⟩ = false := fun i => by simp [World.frozen?, e9]
          have bw9 : Below X5 W8 w9 := bw.trans (p9.mono (by omega))
          have HM9 : Hid (Hub.Own w9 wr.heap.size (.slice o10 n' c10) n' S) := hm9
          have E9 : Hid (w9.heap[X5]? = some (.cells #[.int .i64 b', .slice o9 n' c9, .int .i64 ((g + k) % 256), .bool o'] 28 (0, 0))) := e9
          clear hm9 p9 e9 cI x0 x1 x2 x3 HQ EX
          go_wp2_with fail
          obtain ⟨st, bl⟩ := Hub.four HM9.out bw9 (R := X5) (by omega) (by omega) (.int .i64 b') (.slice o10 n' c10) (.int .i64 gk) (.bool o')
          have h4 := Hub.set_heap _ X5 3 _ _ _ (.bool o') (Hub.set_heap _ X5 2 _ _ _ (.int .i64 gk) (Hub.set_heap _ X5 1 _ _ _ (.slice o10 n' c10) (Hub.set_heap w9 X5 0 _ _ _ (.int .i64 b') E9.out)))
          have hsz := (((((Below.refl 0 w9).setCell (p := ⟨X5, 0, none⟩) (Nat.zero_le _) (.int .i64 b')).setCell (p := ⟨X5, 1, none⟩) (Nat.zero_le _) (.slice o10 n' c10)).setCell (p := ⟨X5, 2, none⟩) (Nat.zero_le _) (.int .i64 gk)).setCell (p := ⟨X5, 3, none⟩) (Nat.zero_le _) (.bool o')).size
          have h5 : ((((w9.setCell ⟨X5, 0, none⟩ (.int .i64 b')).setCell ⟨X5, 1, none⟩ (.slice o10 n' c10)).setCell ⟨X5, 2, none⟩ (.int .i64 gk)).setCell ⟨X5, 3, none⟩ (.bool o')).heap[X5]? = some (.cells #[.int .i64 b', .slice o10 n' c10, .int .i64 ((g + ((k + 1 : Nat) : Int)) % 256), .bool o'] 28 (0, 0)) := by rw [HGK.out]; exact h4
          clear h4
          go_round
          case rel => exact ⟨k + 1, _, by omega, by omega, by go_num, bl, by omega, h5, st.strAt⟩
          case measure => simp [intOf]; omega
        · obtain rfl : k = 256 := by omega
          have gz : (g + ((256 : Nat) : Int)) % 256 = g := by omega
          rw [gz] at x2
          have bF : Below W4.heap.size W4 wr := b8.trans (bw.mono lX5)
          have cE := Hub.hbLine_same b' g o' (.slice o9 n' c9) (.slice o1 n' c1') n' S wr HQ.out (HM.out.below (b4.trans (bF.mono (by omega))))
          obtain ⟨⟨z0, z1, z2, z3⟩, _, _, y2, _⟩ := NEW4.out wr bF
          have e1 : IntKind.i64.wrap (g + 1) = g + 1 := by rw [IntKind.wrap_i64]; omega
          have cF := c4.trans (bF.mono (by have := c4.size; omega))
          go_wp2_with fail
          go_fit cE
          rintro e w9 ⟨rfl, p9⟩
          have cG := cF.trans (p9.mono (by have := cF.size; omega))
          go_wp2_with fail
          go_ret
          exact ⟨rfl, cG⟩

theorem own : ownKnob Try.prog.godebug = none := by kernel_rfl
theorem laidOut : laidOutB Try.prog = true := by kernel_rfl
set_option maxRecDepth 100000 in
theorem lifted (os : Os) (started : os.Started) (H : Type) (enc : TypeId × Value → H) :
    ReturnsInHanded {} Try.checked os 6 .any (Rows.fnLineHeardSpec.pre6 enc Try.prog Try.f6 Rows.fnLineHeardRow.domain false) (Rows.fnLineHeardSpec.post enc Try.prog Try.f6 false true false false) := by
  refine returnsInHanded_of_change (C := Try.checked) own started (by kernel_rfl) Try.func6
    (ChangeSpec.witness6 (enc := enc) (C := Try.checked) false ⟨#[], #[.slice none 0 0], []⟩ 8 (by kernel_rfl) (by kernel_rfl) (by kernel_rfl) (by kernel_rfl)) ?_
  intro W base args ds gs before hval0 hW hcnd _
  have hval : ∀ (j : Nat) t v, Try.f6.params[j]? = some t → args[j]? = some v → Value.okWide Try.prog W .any base t v := hval0
  have hW' := hW
  obtain ⟨p, q, hA0, hV, rfl, hfz, hnd⟩ := hW
  have hA : DataW.TrodAll enc Try.prog W 0 (fun _ => true) true Try.f6.params.toList args.toList ds p := hA0
  rw [Try.params6] at hA hval
  obtain ⟨v0, vs0, d0, ds0, p0, q_0, hargs, rfl, rfl, h0, r0⟩ := trodAll_cons hA
  obtain ⟨rfl, rfl, rfl⟩ := trodAll_nil r0
  obtain rfl : args = #[v0] := by cases args; simp_all
  obtain ⟨rfl, rfl⟩ := trodVars_none hV
  obtain ⟨n0, hb0⟩ := Hub.open_bytes (hval 0 22 v0 rfl rfl) h0
  clear hA0 hval0
  simp only [List.append_nil] at hW'
  have hlt0 := hW'.lt
  refine (walk v0 n0 W hb0).mono fun e W' ⟨he, bel⟩ => ?_
  subst he
  exact ⟨_, rfl, _, _, _, [], _, [], hW', trodAll_mk1 (shut_bool Try.underlying4 _), (trodAll_cons_mk (Below.trod laidOut (by kernel_rfl) (of_decide_eq_true (by kernel_rfl)) h0 bel (fun x hx => hlt0 x (by simp [hx]))) trodAll_mk0), rfl, bel.frame _, fun h => by cases h⟩

theorem over : Rows.fnLineHeardRow.holds Try.pinned (OpenSpec.ofChange Rows.fnLineHeardSpec) :=
  OpenClaim.holds_of_wide 6 Try.f6 rfl rfl rfl rfl rfl rfl rfl ⟨rfl, rfl, rfl, rfl, rfl⟩ rfl rfl rfl rfl rfl (by kernel_rfl) Try.func6 (by kernel_rfl)
    (of_decide_eq_true (by kernel_rfl)) (by unfold Func.isWrapper; first | (rw [if_pos (by decide +kernel)]; kernel_rfl) | (rw [if_neg (by decide +kernel)]; exact ⟨rfl, rfl⟩))
    (fun os started H enc _ => lifted os started H enc)
theorem proved : Rows.FnLineHeardSaid := over
#print axioms proved
end Go.Proofs.Ytpicccdlaiaemaa.fnLineHeard

namespace Go.Proofs.Ytpicccdlaiaemaa
/-- The statement. -/
theorem fnLineHeard_holds : Rows.FnLineHeardSaid := fnLineHeard.proved
end Go.Proofs.Ytpicccdlaiaemaa
