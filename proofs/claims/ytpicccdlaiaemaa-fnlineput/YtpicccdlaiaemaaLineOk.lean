/-
  Whether a line is ok: one plain function, which both the program's LineOk and the model's reckon at every line.
-/
import Derived.Test.YtpicccdlaiaemaaLineBase
import Derived.Laws.EntriesVeiled
import Derived.Shelf.Abstract
namespace Go.Proofs.Ytpicccdlaiaemaa.Hub
open Go.RowKit
set_option linter.unusedVariables false

def inB (n : Int) : Bool := decide (0 ≤ n ∧ n ≤ 255)
/-- Each of the first k texts has at most 3000 bytes. -/
def smallTo (S : Nat → ByteArray) : Nat → Bool
  | 0 => true
  | k + 1 => smallTo S k && decide ((S k).size ≤ 3000)
theorem smallTo_false (S : Nat → ByteArray) : ∀ (n k : Nat), k < n → ¬ (S k).size ≤ 3000 → smallTo S n = false
  | 0, _, h, _ => absurd h (by omega)
  | n + 1, k, h, hp => by
    rw [smallTo]
    by_cases hk : k = n
    · subst hk; simp [hp]
    · rw [smallTo_false S n k (by omega) hp, Bool.false_and]
theorem smallTo_step (S : Nat → ByteArray) (k : Nat) (h : smallTo S k = true) (hp : (S k).size ≤ 3000) : smallTo S (k + 1) = true := by
  rw [smallTo, h]; simp [hp]
theorem smallTo_at (S : Nat → ByteArray) : ∀ (n : Nat), smallTo S n = true → ∀ k, k < n → (S k).size ≤ 3000
  | 0, _, k, h => absurd h (by omega)
  | n + 1, hA, k, h => by
    rw [smallTo, Bool.and_eq_true, decide_eq_true_eq] at hA
    by_cases hk : k = n
    · subst hk; exact hA.2
    · exact smallTo_at S n hA.1 k (by omega)
/-- Whether a line is ok. -/
def lineT (b g : Int) (o : Bool) (n : Nat) (S : Nat → ByteArray) : Bool := smallTo S n && (inB b && (inB g && (decide (n ≤ 8) && (!o || decide (n = 0)))))

set_option maxHeartbeats 400000 in
theorem l1In_any (n : Int) (w : World) :
    Calls Try.prog 48 #[.int .i64 n, .int .i64 0, .int .i64 255] w fun e w' => e = .returned (.bool (inB n)) ∧ w' = w := by
  rcases (by omega : n < 0 ∨ (0 ≤ n ∧ n ≤ 255) ∨ 255 < n) with h | h | h
  · have hr : inB n = false := decide_eq_false (by omega)
    rw [hr]
    go_enter Try.func48, Try.ntmps48
    go_wp2
    go_ret
    first | exact ⟨rfl, rfl⟩ | exact ⟨by congr 2; simp; omega, rfl⟩
  · have hr : inB n = true := decide_eq_true h
    rw [hr]
    go_enter Try.func48, Try.ntmps48
    go_wp2
    go_ret
    first | exact ⟨rfl, rfl⟩ | exact ⟨by congr 2; simp; omega, rfl⟩
  · have hr : inB n = false := decide_eq_false (by omega)
    rw [hr]
    go_enter Try.func48, Try.ntmps48
    go_wp2
    go_ret
    first | exact ⟨rfl, rfl⟩ | exact ⟨by congr 2; simp; omega, rfl⟩
set_option maxHeartbeats 400000 in
theorem isBetween_any (n : Int) (w : World) :
    Calls Try.prog 50 #[.int .i64 n, .int .i64 0, .int .i64 255] w fun e w' => e = .returned (.bool (inB n)) ∧ w' = w := by
  rcases (by omega : n < 0 ∨ (0 ≤ n ∧ n ≤ 255) ∨ 255 < n) with h | h | h
  · have hr : inB n = false := decide_eq_false (by omega)
    rw [hr]
    go_enter Try.func50, Try.ntmps50
    go_wp2
    go_ret
    first | exact ⟨rfl, rfl⟩ | exact ⟨by congr 2; simp; omega, rfl⟩
  · have hr : inB n = true := decide_eq_true h
    rw [hr]
    go_enter Try.func50, Try.ntmps50
    go_wp2
    go_ret
    first | exact ⟨rfl, rfl⟩ | exact ⟨by congr 2; simp; omega, rfl⟩
  · have hr : inB n = false := decide_eq_false (by omega)
    rw [hr]
    go_enter Try.func50, Try.ntmps50
    go_wp2
    go_ret
    first | exact ⟨rfl, rfl⟩ | exact ⟨by congr 2; simp; omega, rfl⟩
set_option maxHeartbeats 400000 in
theorem isCount_any (n : Int) (w : World) :
    Calls Try.prog 37 #[.int .i64 n] w fun e w' => e = .returned (.bool (inB n)) ∧ w' = w := by
  go_enter Try.func37, Try.ntmps37
  go_wp2_with (go_at_call 50; refine (isBetween_any n _).mono ?_; rintro e w' ⟨rfl, rfl⟩)
  go_ret
  exact ⟨rfl, rfl⟩
set_option maxHeartbeats 400000 in
theorem isTooMuch_any (s : ByteArray) (w : World) (hs : s.size ≤ 9223372036854775807) :
    Calls Try.prog 30 #[.string s] w fun e w' => e = .returned (.bool (decide (3000 < s.size))) ∧ w' = w := by
  by_cases h : 3000 < s.size
  · have h' : (3000 : Int) < (s.size : Int) := by omega
    rw [decide_eq_true h]
    go_enter Try.func30, Try.ntmps30
    go_wp2
    go_ret
    first | exact ⟨rfl, rfl⟩ | exact ⟨by congr 2; simp; omega, rfl⟩
  · have h' : ¬ (3000 : Int) < (s.size : Int) := by omega
    rw [decide_eq_false h]
    go_enter Try.func30, Try.ntmps30
    go_wp2
    go_ret
    first | exact ⟨rfl, rfl⟩ | exact ⟨by congr 2; simp; omega, rfl⟩

set_option maxRecDepth 100000 in
set_option maxHeartbeats 4000000 in
theorem l9Ok_any (b g : Int) (o : Bool) (q : Value) (n : Nat) (S : Nat → ByteArray) (w : World) (hm : StrAt w q n S) (hn : n ≤ 1048576) (hs : ∀ j, j < n → (S j).size ≤ 9223372036854775807) :
    Calls Try.prog 35 #[lineV b q g o] w fun e w' => e = .returned (.bool (lineT b g o n S)) ∧ Below w.heap.size w w' := by
  have b0 := below_alloc w (.cells #[.int .i64 b, q, .int .i64 g, .bool o] 28)
  have hm1 := hm.below b0
  clear hm
  obtain ⟨o1, cap, rfl, g1, g2', hc⟩ := hm1
  have g2 : cap ≤ 9223372036854775807 := g2'.1
  clear g2'
  obtain ⟨W, hW⟩ : ∃ W, W = w.alloc (.cells #[.int .i64 b, .slice o1 n cap, .int .i64 g, .bool o] 28) := ⟨_, rfl⟩
  obtain ⟨B, hB⟩ : ∃ B, B = w.heap.size := ⟨_, rfl⟩
  have x0 : W.cell? ⟨B, 0, none⟩ = some (.int .i64 b) := by rw [hW, hB]; exact line_cell w _ _ 0
  have x1 : W.cell? ⟨B, 1, none⟩ = some (.slice o1 n cap) := by rw [hW, hB]; exact line_cell w _ _ 1
  have x2 : W.cell? ⟨B, 2, none⟩ = some (.int .i64 g) := by rw [hW, hB]; exact line_cell w _ _ 2
  have x3 : W.cell? ⟨B, 3, none⟩ = some (.bool o) := by rw [hW, hB]; exact line_cell w _ _ 3
  rw [← hW] at hc b0
  have HC : Hid (∀ j, j < n → ∃ b f : Nat, o1 = some ⟨b, f, none⟩ ∧ b < W.heap.size ∧ W.cell? ⟨b, f + j, none⟩ = some (.string (S j))) := hc
  have HS : Hid (∀ j, j < n → (S j).size ≤ 9223372036854775807) := hs
  clear hc hs
  obtain ⟨R, hR⟩ : ∃ R, lineT b g o n S = R := ⟨_, rfl⟩
  rw [hR]
  have HR : Hid (lineT b g o n S = R) := hR
  clear hR
  go_enter Try.func35, Try.ntmps35
  go_wp2_with fail
  rw [← hW, ← hB]
  clear hW hB
  go_loop [3] (fun i => ∃ k : Nat, k ≤ n ∧ i = .int .i64 k ∧ Hid (smallTo S k = true)) (fun i => n - (intOf i).toNat)
  case atStart => exact ⟨0, Nat.zero_le _, rfl, (rfl : smallTo S 0 = true)⟩
  case round =>
    obtain ⟨k, hk, rfl, HA⟩ := hrel
    by_cases hlt : k < n
    · obtain ⟨bb, f, ho, hb, c0⟩ := HC.out k hlt
      subst ho
      have i1 : (0 : Int) ≤ (k : Int) := by omega
      have i2 : (k : Int) < (n : Int) := by omega
      have hsk := HS.out k hlt
      by_cases hbig : (3000 : Int) < ((S k).size : Int)
      · have hRf : R = false := by
          rw [← HR.out]; unfold lineT; rw [smallTo_false S n k hlt (by omega)]; rfl
        subst hRf
        clear HR HA
        go_wp2_with fail
        go_ret
        exact ⟨rfl, b0⟩
      · go_wp2_with fail
        exact ⟨⟨k + 1, by omega, rfl, smallTo_step S k HA.out (by omega)⟩, by simp [intOf]; omega⟩
    · obtain rfl : k = n := by omega
      have HRR : Hid (R = (inB b && (inB g && (decide (k ≤ 8) && (!o || decide (k = 0)))))) := by show R = _; rw [← HR.out]; unfold lineT; rw [HA.out]; rfl
      clear HR HA
      have cb := fun w => l1In_any b w
      have cg := fun w => l1In_any g w
      cases hb : inB b
      · have hr : R = false := by rw [HRR.out, hb]; rfl
        subst hr
        rw [hb] at cb
        clear HRR hb
        go_wp2_with fail
        go_fit (cb _)
        rintro e w' ⟨rfl, rfl⟩
        go_wp2_with fail
        go_ret
        exact ⟨rfl, b0⟩
      · rw [hb] at cb
        cases hg : inB g
        · have hr : R = false := by rw [HRR.out, hb, hg]; rfl
          subst hr
          rw [hg] at cg
          clear HRR hb hg
          go_wp2_with fail
          go_fit (cb _)
          rintro e w' ⟨rfl, rfl⟩
          go_wp2_with fail
          go_fit (cg _)
          rintro e w' ⟨rfl, rfl⟩
          go_wp2_with fail
          go_ret
          exact ⟨rfl, b0⟩
        · rw [hg] at cg
          have hr0 : R = (decide (k ≤ 8) && (!o || decide (k = 0))) := by rw [HRR.out, hb, hg]; rfl
          clear HRR hb hg
          by_cases h8 : (k : Int) ≤ 8
          · rw [decide_eq_true (by omega : k ≤ 8)] at hr0
            cases o
            · obtain rfl : R = true := hr0
              go_wp2_with fail
              go_fit (cb _)
              rintro e w' ⟨rfl, rfl⟩
              go_wp2_with fail
              go_fit (cg _)
              rintro e w' ⟨rfl, rfl⟩
              go_wp2_with fail
              go_ret
              exact ⟨rfl, b0⟩
            · by_cases hz : k = 0
              · subst hz
                obtain rfl : R = true := hr0
                go_wp2_with fail
                go_fit (cb _)
                rintro e w' ⟨rfl, rfl⟩
                go_wp2_with fail
                go_fit (cg _)
                rintro e w' ⟨rfl, rfl⟩
                go_wp2_with fail
                go_ret
                exact ⟨rfl, b0⟩
              · have hz' : ((k : Int) == 0) = false := by simp; omega
                rw [decide_eq_false hz] at hr0
                obtain rfl : R = false := hr0
                go_wp2_with fail
                go_fit (cb _)
                rintro e w' ⟨rfl, rfl⟩
                go_wp2_with fail
                go_fit (cg _)
                rintro e w' ⟨rfl, rfl⟩
                go_wp2_with fail
                go_ret
                exact ⟨rfl, b0⟩
          · rw [decide_eq_false (by omega : ¬ k ≤ 8)] at hr0
            obtain rfl : R = false := hr0
            go_wp2_with fail
            go_fit (cb _)
            rintro e w' ⟨rfl, rfl⟩
            go_wp2_with fail
            go_fit (cg _)
            rintro e w' ⟨rfl, rfl⟩
            go_wp2_with fail
            go_ret
            exact ⟨rfl, b0⟩
set_option maxHeartbeats 400000 in
theorem specLineOk_any (b g : Int) (o : Bool) (q : Value) (n : Nat) (S : Nat → ByteArray) (w : World) (hm : StrAt w q n S) (hn : n ≤ 1048576) (hs : ∀ j, j < n → (S j).size ≤ 9223372036854775807) :
    Calls Try.prog 16 #[lineV b q g o] w fun e w' => e = .returned (.bool (lineT b g o n S)) ∧ Below w.heap.size w w' := by
  have b0 := below_alloc w (.cells #[.int .i64 b, q, .int .i64 g, .bool o] 28)
  have c := l9Ok_any b g o q n S _ (hm.below b0) hn hs
  obtain ⟨o1, cap1, rfl⟩ := hm.shape
  clear hm hs
  go_enter Try.func16, Try.ntmps16
  go_wp2_with fail
  go_fit c
  rintro e w1 ⟨rfl, b1⟩
  have b2 := b0.trans (b1.mono b0.size)
  clear c b0 b1
  go_wp2_with fail
  go_ret
  exact ⟨rfl, b2⟩

set_option maxRecDepth 100000 in
set_option maxHeartbeats 2000000 in
theorem indexFunc_any (q : Value) (n : Nat) (S : Nat → ByteArray) (w : World) (hm : StrAt w q n S) (hn : n ≤ 1048576) (hs : ∀ j, j < n → (S j).size ≤ 9223372036854775807) :
    Calls Try.prog 51 #[q, .func (.func 30) #[] #[]] w fun e w' => (∃ z : Int, e = .returned (.int .i64 z) ∧ ((z < 0 ∧ smallTo S n = true) ∨ (0 ≤ z ∧ smallTo S n = false))) ∧ w' = w := by
  have eg : ∀ args w, (callFunc 30 args).run Try.prog w = .ok (.enter 30 args) w := enters_of Try.func30 (by kernel_rfl) rfl
  obtain ⟨o, cap, rfl, g1, g2', hc⟩ := hm
  have g2 : cap ≤ 9223372036854775807 := g2'.1
  clear g2'
  have HC : Hid (∀ j, j < n → ∃ b f : Nat, o = some ⟨b, f, none⟩ ∧ b < w.heap.size ∧ w.cell? ⟨b, f + j, none⟩ = some (.string (S j))) := hc
  have HS : Hid (∀ j, j < n → (S j).size ≤ 9223372036854775807) := hs
  clear hc hs
  go_enter Try.func51, Try.ntmps51
  go_wp2_with fail
  go_loop [8] (fun i => ∃ k : Nat, k ≤ n ∧ i = .int .i64 k ∧ Hid (smallTo S k = true)) (fun i => n - (intOf i).toNat)
  case atStart => exact ⟨0, Nat.zero_le _, rfl, (rfl : smallTo S 0 = true)⟩
  case round =>
    obtain ⟨k, hk, rfl, HA⟩ := hrel
    by_cases hlt : k < n
    · obtain ⟨b, f, ho, hb, c0⟩ := HC.out k hlt
      subst ho
      have i1 : (0 : Int) ≤ (k : Int) := by omega
      have i2 : (k : Int) < (n : Int) := by omega
      have cT := isTooMuch_any (S k) w (HS.out k hlt)
      by_cases hbig : 3000 < (S k).size
      · rw [decide_eq_true hbig] at cT
        go_wp2_with fail
        go_fit cT
        rintro e w' ⟨rfl, rfl⟩
        go_wp2_with fail
        go_ret
        exact ⟨⟨(k : Int), rfl, .inr ⟨by omega, smallTo_false S n k hlt (by omega)⟩⟩, rfl⟩
      · rw [decide_eq_false hbig] at cT
        go_wp2_with fail
        go_fit cT
        rintro e w' ⟨rfl, rfl⟩
        go_wp2_with fail
        exact ⟨⟨k + 1, by omega, rfl, smallTo_step S k HA.out (by omega)⟩, by simp [intOf]; omega⟩
    · obtain rfl : k = n := by omega
      go_wp2_with fail
      go_ret
      exact ⟨⟨-1, rfl, .inl ⟨by omega, HA.out⟩⟩, rfl⟩
set_option maxRecDepth 100000 in
set_option maxHeartbeats 2000000 in
theorem containsFunc_any (q : Value) (n : Nat) (S : Nat → ByteArray) (w : World) (hm : StrAt w q n S) (hn : n ≤ 1048576) (hs : ∀ j, j < n → (S j).size ≤ 9223372036854775807) :
    Calls Try.prog 38 #[q, .func (.func 30) #[] #[]] w fun e w' => e = .returned (.bool (!smallTo S n)) ∧ w' = w := by
  have c := indexFunc_any q n S w hm hn hs
  obtain ⟨o1, cap1, rfl⟩ := hm.shape
  clear hm hs
  obtain ⟨R, hR⟩ : ∃ R, smallTo S n = R := ⟨_, rfl⟩
  rw [hR] at c ⊢
  clear hR
  go_enter Try.func38, Try.ntmps38
  go_wp2_with fail
  go_fit c
  rintro e w' ⟨⟨z, rfl, hz⟩, rfl⟩
  rcases hz with ⟨hz, rfl⟩ | ⟨hz, rfl⟩
  · have hd : decide (0 ≤ z) = false := decide_eq_false (by omega)
    go_wp2_with fail
    go_ret
    first | exact ⟨rfl, rfl⟩ | exact ⟨by congr 2; simp; omega, rfl⟩
  · have hd : decide (0 ≤ z) = true := decide_eq_true hz
    go_wp2_with fail
    go_ret
    first | exact ⟨rfl, rfl⟩ | exact ⟨by congr 2; simp; omega, rfl⟩

set_option maxRecDepth 100000 in
set_option maxHeartbeats 4000000 in
theorem lineOk_any (b g : Int) (o : Bool) (q : Value) (n : Nat) (S : Nat → ByteArray) (w : World) (hm : StrAt w q n S) (hn : n ≤ 1048576) (hs : ∀ j, j < n → (S j).size ≤ 9223372036854775807) :
    Calls Try.prog 15 #[lineV b q g o] w fun e w' => e = .returned (.bool (lineT b g o n S)) ∧ Below w.heap.size w w' := by
  have b0 := below_alloc w (.cells #[.int .i64 b, q, .int .i64 g, .bool o] 28)
  have cF := containsFunc_any q n S _ (hm.below b0) hn hs
  obtain ⟨o1, cap, rfl⟩ := hm.shape
  have hcap : n ≤ 9223372036854775807 := by omega
  clear hm hs
  obtain ⟨W, hW⟩ : ∃ W, W = w.alloc (.cells #[.int .i64 b, .slice o1 n cap, .int .i64 g, .bool o] 28) := ⟨_, rfl⟩
  obtain ⟨B, hB⟩ : ∃ B, B = w.heap.size := ⟨_, rfl⟩
  have x0 : W.cell? ⟨B, 0, none⟩ = some (.int .i64 b) := by rw [hW, hB]; exact line_cell w _ _ 0
  have x1 : W.cell? ⟨B, 1, none⟩ = some (.slice o1 n cap) := by rw [hW, hB]; exact line_cell w _ _ 1
  have x2 : W.cell? ⟨B, 2, none⟩ = some (.int .i64 g) := by rw [hW, hB]; exact line_cell w _ _ 2
  have x3 : W.cell? ⟨B, 3, none⟩ = some (.bool o) := by rw [hW, hB]; exact line_cell w _ _ 3
  rw [← hW] at cF b0
  obtain ⟨R, hR⟩ : ∃ R, lineT b g o n S = R := ⟨_, rfl⟩
  rw [hR]
  have HRR : Hid (R = (smallTo S n && (inB b && (inB g && (decide (n ≤ 8) && (!o || decide (n = 0))))))) := hR.symm
  clear hR
  have cb := fun w => isCount_any b w
  have cg := fun w => isCount_any g w
  have HF : Hid (Calls Try.prog 38 #[.slice o1 n cap, .func (.func 30) #[] #[]] W fun e w' => e = .returned (.bool (!smallTo S n)) ∧ w' = W) := cF
  clear cF
  go_enter Try.func15, Try.ntmps15
  go_wp2_with fail
  rw [← hW, ← hB]
  clear hW hB
  cases hb : inB b
  · have hr : R = false := by rw [HRR.out, hb]; simp
    subst hr
    rw [hb] at cb
    clear HRR hb HF
    go_fit (cb _)
    rintro e w' ⟨rfl, rfl⟩
    go_wp2_with fail
    go_ret
    exact ⟨rfl, b0⟩
  · rw [hb] at cb
    go_fit (cb _)
    rintro e w' ⟨rfl, rfl⟩
    cases hg : inB g
    · have hr : R = false := by rw [HRR.out, hb, hg]; simp
      subst hr
      rw [hg] at cg
      clear HRR hb hg HF
      go_wp2_with fail
      go_fit (cg _)
      rintro e w' ⟨rfl, rfl⟩
      go_wp2_with fail
      go_ret
      exact ⟨rfl, b0⟩
    · rw [hg] at cg
      have hr0 : R = (smallTo S n && (decide (n ≤ 8) && (!o || decide (n = 0)))) := by rw [HRR.out, hb, hg]; rfl
      clear HRR hb hg
      go_wp2_with fail
      go_fit (cg _)
      rintro e w' ⟨rfl, rfl⟩
      by_cases h8 : (8 : Int) < (n : Int)
      · rw [decide_eq_false (by omega : ¬ n ≤ 8)] at hr0
        have hr : R = false := by rw [hr0]; simp
        subst hr
        clear hr0 HF
        go_wp2_with fail
        go_ret
        exact ⟨rfl, b0⟩
      · rw [decide_eq_true (by omega : n ≤ 8)] at hr0
        cases o
        · have hr : R = smallTo S n := by rw [hr0]; simp
          subst hr
          clear hr0
          go_wp2_with fail
          go_fit HF.out
          rintro e w' ⟨rfl, rfl⟩
          clear HF
          go_wp2_with fail
          go_ret
          exact ⟨by simp, b0⟩
        · by_cases hz : n = 0
          · subst hz
            have hr : R = smallTo S 0 := by rw [hr0]; simp
            subst hr
            clear hr0
            go_wp2_with fail
            go_fit HF.out
            rintro e w' ⟨rfl, rfl⟩
            clear HF
            go_wp2_with fail
            go_ret
            exact ⟨by simp, b0⟩
          · have hz' : (0 : Int) < (n : Int) := by omega
            rw [decide_eq_false hz] at hr0
            have hr : R = false := by rw [hr0]; simp
            subst hr
            clear hr0 HF
            go_wp2_with fail
            go_ret
            exact ⟨rfl, b0⟩
end Go.Proofs.Ytpicccdlaiaemaa.Hub
