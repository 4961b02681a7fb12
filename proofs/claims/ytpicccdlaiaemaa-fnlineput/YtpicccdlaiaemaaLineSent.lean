/-
  How many were told: one plain function, which both the program's LineSent and the model's reckon at every line.
-/
import Derived.Test.YtpicccdlaiaemaaLineOk
namespace Go.Proofs.Ytpicccdlaiaemaa.Hub
open Go.RowKit
set_option linter.unusedVariables false

theorem inB_yes {n : Int} (h : inB n = true) : 0 ≤ n ∧ n ≤ 255 := of_decide_eq_true h
theorem lineT_parts {b g : Int} {o : Bool} {n : Nat} {S : Nat → ByteArray} (h : lineT b g o n S = true) : smallTo S n = true ∧ (0 ≤ b ∧ b ≤ 255) ∧ (0 ≤ g ∧ g ≤ 255) ∧ n ≤ 8 ∧ (o = true → n = 0) := by
  unfold lineT at h
  rw [Bool.and_eq_true, Bool.and_eq_true, Bool.and_eq_true, Bool.and_eq_true] at h
  obtain ⟨h1, h2, h3, h4, h5⟩ := h
  refine ⟨h1, inB_yes h2, inB_yes h3, of_decide_eq_true h4, fun ho => ?_⟩
  subst ho
  simpa using h5
/-- How many were told; -1 of a line that is not ok. -/
def sentT (b g : Int) (o : Bool) (n : Nat) (S : Nat → ByteArray) : Int := if lineT b g o n S = true then (b + n) % 256 else -1

theorem ret_i {a b : Int} (h : a = b) : Ending.returned (.int .i64 a) = .returned (.int .i64 b) := by rw [h]
set_option maxHeartbeats 400000 in
theorem roundCount_any (n : Int) (w : World) (h0 : -256 ≤ n) (h1 : n ≤ 1000) :
    Calls Try.prog 39 #[.int .i64 n] w fun e w' => e = .returned (.int .i64 (n % 256)) ∧ w' = w := by
  have e1 : IntKind.i64.wrap (n + 256) = n + 256 := by rw [IntKind.wrap_i64]; omega
  go_enter Try.func39, Try.ntmps39
  go_wp2
  go_ret
  exact ⟨ret_i (by omega), rfl⟩

set_option maxRecDepth 100000 in
set_option maxHeartbeats 2000000 in
theorem lineSent_any (b g : Int) (o : Bool) (q : Value) (n : Nat) (S : Nat → ByteArray) (w : World) (hm : StrAt w q n S) (hn : n ≤ 1048576) (hs : ∀ j, j < n → (S j).size ≤ 9223372036854775807) :
    Calls Try.prog 18 #[lineV b q g o] w fun e w' => e = .returned (.int .i64 (sentT b g o n S)) ∧ Below w.heap.size w w' := by
  obtain ⟨o1, cap, rfl⟩ := hm.shape
  obtain ⟨W, hW⟩ : ∃ W, W = w.alloc (.cells #[.int .i64 b, .slice o1 n cap, .int .i64 g, .bool o] 28) := ⟨_, rfl⟩
  obtain ⟨B, hB⟩ : ∃ B, B = w.heap.size := ⟨_, rfl⟩
  have b0 : Below w.heap.size w W := by rw [hW]; exact below_alloc w _
  have hw0 : B < W.heap.size := by rw [hW, hB]; simp
  have NEW : Hid (∀ X : World, Below W.heap.size W X → X.cell? ⟨B, 0, none⟩ = some (.int .i64 b) ∧ X.cell? ⟨B, 1, none⟩ = some (.slice o1 n cap)) := fun X bb => by
    have q : ∀ i, X.cell? ⟨B, i, none⟩ = (#[.int .i64 b, .slice o1 n cap, .int .i64 g, .bool o] : Array Value)[i]? := fun i => (bb.cell (p := ⟨B, i, none⟩) hw0).trans (by rw [hW, hB]; exact line_cell w _ _ i)
    exact ⟨q 0, q 1⟩
  have c := lineOk_any b g o _ n S W (hm.below b0) hn hs
  clear hm hs
  unfold sentT
  cases hR : lineT b g o n S
  · rw [hR] at c
    rw [if_neg (by decide)]
    clear hR
    go_enter Try.func18, Try.ntmps18
    go_wp2_with fail
    rw [← hW]
    clear hW hB
    go_fit c
    rintro e w1 ⟨rfl, b1⟩
    go_wp2_with fail
    go_ret
    exact ⟨rfl, b0.trans (b1.mono b0.size)⟩
  · obtain ⟨_, ⟨p1, p2⟩, _, p3, _⟩ := lineT_parts hR
    rw [hR] at c
    rw [if_pos rfl]
    clear hR
    have e1 : IntKind.i64.wrap (b + (n : Int)) = b + (n : Int) := by rw [IntKind.wrap_i64]; omega
    have cr := fun w => roundCount_any (b + (n : Int)) w (by omega) (by omega)
    go_enter Try.func18, Try.ntmps18
    go_wp2_with fail
    rw [← hW, ← hB]
    clear hW hB
    go_fit c
    rintro e w1 ⟨rfl, b1⟩
    obtain ⟨x0, x1⟩ := NEW.out w1 b1
    go_wp2_with fail
    go_fit (cr _)
    rintro e w2 ⟨rfl, rfl⟩
    go_wp2_with fail
    go_ret
    exact ⟨rfl, b0.trans (b1.mono b0.size)⟩

set_option maxRecDepth 100000 in
set_option maxHeartbeats 2000000 in
theorem specLineSent_any (b g : Int) (o : Bool) (q : Value) (n : Nat) (S : Nat → ByteArray) (w : World) (hm : StrAt w q n S) (hn : n ≤ 1048576) (hs : ∀ j, j < n → (S j).size ≤ 9223372036854775807) :
    Calls Try.prog 20 #[lineV b q g o] w fun e w' => e = .returned (.int .i64 (sentT b g o n S)) ∧ Below w.heap.size w w' := by
  obtain ⟨o1, cap, rfl⟩ := hm.shape
  obtain ⟨W, hW⟩ : ∃ W, W = w.alloc (.cells #[.int .i64 b, .slice o1 n cap, .int .i64 g, .bool o] 28) := ⟨_, rfl⟩
  obtain ⟨B, hB⟩ : ∃ B, B = w.heap.size := ⟨_, rfl⟩
  have b0 : Below w.heap.size w W := by rw [hW]; exact below_alloc w _
  have hw0 : B < W.heap.size := by rw [hW, hB]; simp
  have NEW : Hid (∀ X : World, Below W.heap.size W X → X.cell? ⟨B, 0, none⟩ = some (.int .i64 b) ∧ X.cell? ⟨B, 1, none⟩ = some (.slice o1 n cap)) := fun X bb => by
    have q : ∀ i, X.cell? ⟨B, i, none⟩ = (#[.int .i64 b, .slice o1 n cap, .int .i64 g, .bool o] : Array Value)[i]? := fun i => (bb.cell (p := ⟨B, i, none⟩) hw0).trans (by rw [hW, hB]; exact line_cell w _ _ i)
    exact ⟨q 0, q 1⟩
  have c := l9Ok_any b g o _ n S W (hm.below b0) hn hs
  clear hm hs
  unfold sentT
  cases hR : lineT b g o n S
  · rw [hR] at c
    rw [if_neg (by decide)]
    clear hR
    go_enter Try.func20, Try.ntmps20
    go_wp2_with fail
    rw [← hW]
    clear hW hB
    go_fit c
    rintro e w1 ⟨rfl, b1⟩
    go_wp2_with fail
    go_ret
    exact ⟨rfl, b0.trans (b1.mono b0.size)⟩
  · obtain ⟨_, ⟨p1, p2⟩, _, p3, _⟩ := lineT_parts hR
    rw [hR] at c
    rw [if_pos rfl]
    clear hR
    have e1 : IntKind.i64.wrap (b + (n : Int)) = b + (n : Int) := by rw [IntKind.wrap_i64]; omega
    go_enter Try.func20, Try.ntmps20
    go_wp2_with fail
    rw [← hW, ← hB]
    clear hW hB
    go_fit c
    rintro e w1 ⟨rfl, b1⟩
    obtain ⟨x0, x1⟩ := NEW.out w1 b1
    go_wp2_with fail
    go_ret
    refine ⟨?_, b0.trans (b1.mono b0.size)⟩
    first | rfl | (congr 2; first | omega | (rw [Int.tmod_eq_emod_of_nonneg (by omega)]))
end Go.Proofs.Ytpicccdlaiaemaa.Hub
