/-
  A new server, of the model.
-/
import Derived.Test.YtkfdggcccegmlaaAccOk
import Derived.Deep.AppendLies
namespace Go.Proofs.Ytkfdggcccegmlaa.Hub
open Go.RowKit
set_option linter.unusedVariables false

/-- A server of accounts alone. -/
abbrev srvV (a l : Value) (j : ByteArray) (s : Value) (x : Int) : Value := .agg #[a, l, .string j, s, .int .i64 x]
/-- A server, stored field by field. -/
def fiveW (W : World) (E : Nat) (a l : Value) (j : ByteArray) (s : Value) (x : Int) : World :=
  ((((W.setCell ⟨E, 0, none⟩ a).setCell ⟨E, 1, none⟩ l).setCell ⟨E, 2, none⟩ (.string j)).setCell ⟨E, 3, none⟩ s).setCell ⟨E, 4, none⟩ (.int .i64 x)
theorem fiveW_heap {W : World} {E : Nat} {T : TypeId} {c0 c1 c2 c3 c4 : Value} (h : W.heap[E]? = some (.cells #[c0, c1, c2, c3, c4] T (0, 0))) (a l : Value) (j : ByteArray) (s : Value) (x : Int) :
    (fiveW W E a l j s x).heap[E]? = some (.cells #[a, l, .string j, s, .int .i64 x] T (0, 0)) := by
  unfold fiveW
  have := set_heap _ E 4 _ _ _ (.int .i64 x) (set_heap _ E 3 _ _ _ s (set_heap _ E 2 _ _ _ (.string j) (set_heap _ E 1 _ _ _ l (set_heap W E 0 _ _ _ a h))))
  simp only [List.setIfInBounds_toArray, List.set_cons_zero, List.set_cons_succ] at this
  exact this
theorem fiveW_below {B : Nat} {V W : World} (h : Below B V W) {E : Nat} (hE : B ≤ E) (a l : Value) (j : ByteArray) (s : Value) (x : Int) : Below B V (fiveW W E a l j s x) :=
  ((((h.setCell (p := ⟨E, 0, none⟩) hE _).setCell (p := ⟨E, 1, none⟩) hE _).setCell (p := ⟨E, 2, none⟩) hE _).setCell (p := ⟨E, 3, none⟩) hE _).setCell (p := ⟨E, 4, none⟩) hE _
theorem five_cells {W : World} {E : Nat} {T : TypeId} {c0 c1 c2 c3 c4 : Value} (h : W.heap[E]? = some (.cells #[c0, c1, c2, c3, c4] T (0, 0))) : W.cell? ⟨E, 0, none⟩ = some c0 ∧ W.cell? ⟨E, 1, none⟩ = some c1 ∧ W.cell? ⟨E, 2, none⟩ = some c2 ∧ W.cell? ⟨E, 3, none⟩ = some c3 ∧ W.cell? ⟨E, 4, none⟩ = some c4 := by
  simp only [World.cell?, h]
  exact ⟨rfl, rfl, rfl, rfl, rfl⟩
theorem ownA_set {W : World} {base : Nat} {v : Value} {n : Nat} {U N : Nat → ByteArray} (h : OwnA W base v n U N) {E : Nat} (hE : E < base) (j : Nat) (x : Value) : OwnA (W.setCell ⟨E, j, none⟩ x) base v n U N := ownsRow_setCell_below h (a := ⟨E, j, none⟩) hE x
theorem ownA_five {W : World} {base : Nat} {v : Value} {n : Nat} {U N : Nat → ByteArray} (h : OwnA W base v n U N) {E : Nat} (hE : E < base) (a l : Value) (j : ByteArray) (s : Value) (x : Int) : OwnA (fiveW W E a l j s x) base v n U N := by
  unfold fiveW
  exact ownA_set (ownA_set (ownA_set (ownA_set (ownA_set h hE 0 _) hE 1 _) hE 2 _) hE 3 _) hE 4 _
/-- The cells of accounts that lie somewhere. -/
theorem acc_cells {W : World} {n cap : Nat} {b f : Nat} {U N : Nat → ByteArray} (h : AccAt W (.slice (some ⟨b, f, none⟩) n cap) n U N) : ∀ j u, (accVs U N n)[j]? = some u → W.cell? ((⟨b, f, none⟩ : Addr).add j) = some u := by
  obtain ⟨o, c, hv, h1, h2, hc⟩ := h
  injection hv with ho hn hc'
  subst ho
  intro j u hj
  have hl : j < n * 2 := by
    have := (List.getElem?_eq_some_iff.1 hj).1
    rw [accVs_len] at this
    exact this
  obtain ⟨b', f', he, hb, c0, c1⟩ := hc (j / 2) (by omega)
  injection he with he
  injection he with e1 e2
  subst e1 e2
  obtain ⟨a0, a1⟩ := accVs_at U N n (j / 2) (by omega)
  obtain ⟨q, hq⟩ : ∃ q, j / 2 = q := ⟨_, rfl⟩
  rw [hq] at c0 c1 a0 a1
  have ea : ((⟨b, f, none⟩ : Addr).add j) = ⟨b, f + j, none⟩ := by simp [Addr.add]
  rw [ea]
  by_cases hp : j % 2 = 0
  · have e : j = q * 2 := by omega
    subst e
    rw [a0] at hj
    cases hj
    exact c0
  · have e : j = q * 2 + 1 := by omega
    subst e
    rw [a1] at hj
    cases hj
    exact c1
theorem ownA_mono {W : World} {base base' : Nat} {v : Value} {n : Nat} {U N : Nat → ByteArray} (h : OwnA W base v n U N) (hb : base' ≤ base) : OwnA W base' v n U N := by
  refine ⟨h.1, ?_⟩
  rcases h.2 with hn | ⟨g, cap, cur, hv, hbg, rest⟩
  · exact .inl hn
  · exact .inr ⟨g, cap, cur, hv, Nat.le_trans hb hbg, rest⟩
theorem accVs_one (U N : Nat → ByteArray) : ∀ (n : Nat), ∀ u ∈ accVs U N n, u.oneCell' = true
  | 0, u, h => by simp [accVs] at h
  | n + 1, u, h => by
    rw [accVs_succ] at h
    rcases List.mem_append.1 h with h | h
    · exact accVs_one U N n u h
    · simp at h
      rcases h with rfl | rfl <;> rfl
theorem info_acc : (Try.prog.info? 43).map (fun i => (i.zero, i.size, i.bytes)) = some (some (.agg #[.string ⟨#[]⟩, .string ⟨#[]⟩]), 2, 32) := by kernel_rfl

theorem srv_zero (w : World) : Hid (∀ W : World, Below (w.alloc (.cells #[.slice none 0 0, .slice none 0 0, .string ⟨#[]⟩, .slice none 0 0, .int .i64 0] 28)).heap.size (w.alloc (.cells #[.slice none 0 0, .slice none 0 0, .string ⟨#[]⟩, .slice none 0 0, .int .i64 0] 28)) W → W.heap[w.heap.size]? = some (.cells #[.slice none 0 0, .slice none 0 0, .string ⟨#[]⟩, .slice none 0 0, .int .i64 0] 28 (0, 0))) := fun W bb => (bb.block w.heap.size (by simp)).trans (World.alloc_heap_new w _)

set_option maxRecDepth 100000 in
set_option maxHeartbeats 4000000 in
theorem specNew_any (v : Value) (n : Nat) (U N : Nat → ByteArray) (w : World) (hm : AccAt w v n U N) (hs : ∀ j, j < n → (U j).size ≤ 1048576 ∧ (N j).size ≤ 1048576) (hn : n ≤ 1048576) :
    Calls Try.prog 30 #[v] w fun e w' => (∃ a, e = .returned (srvV a (.slice none 0 0) ⟨#[]⟩ (.slice none 0 0) 0) ∧ ((accsT n U N = true ∧ OwnA w' w.heap.size a n U N) ∨ (accsT n U N = false ∧ a = .slice none 0 0))) ∧ Below w.heap.size w w' := by
  have ZERO := srv_zero w
  obtain ⟨W0, hW0⟩ : ∃ W0, W0 = w.alloc (.cells #[.slice none 0 0, .slice none 0 0, .string ⟨#[]⟩, .slice none 0 0, .int .i64 0] 28) := ⟨_, rfl⟩
  rw [← hW0] at ZERO
  have b0 : Below w.heap.size w W0 := by rw [hW0]; exact (Below.refl _ w).alloc (Nat.le_refl _) _
  have h0 : w.heap.size < W0.heap.size := by rw [hW0]; simp
  have cO := l10AccountsOk_any v n U N W0 (hm.below b0) hs hn
  obtain ⟨T, hT⟩ : ∃ T, accsT n U N = T := ⟨_, rfl⟩
  rw [hT] at cO ⊢
  cases T
  · obtain ⟨o, cap, rfl, -⟩ := hm
    clear hT
    go_enter Try.func30, Try.ntmps30
    go_wp2_with (go_at_call 14; rw [← hW0]; go_fit cO; rintro e w1 ⟨rfl, b1⟩; have Z1 := ZERO.out w1 b1; have ZH : Hid (w1.heap[w.heap.size]? = some (.cells #[.slice none 0 0, .slice none 0 0, .string ⟨#[]⟩, .slice none 0 0, .int .i64 0] 28 (0, 0))) := Z1; obtain ⟨z0, z1, z2, z3, z4⟩ := five_cells Z1; have zf : ∀ j, w1.frozen? ⟨w.heap.size, j, none⟩ = false := (fun j => (by simp [World.frozen?, Z1])); clear Z1)
    obtain ⟨W9, hW9⟩ : ∃ W9, fiveW w1 w.heap.size (.slice none 0 0) (.slice none 0 0) ⟨#[]⟩ (.slice none 0 0) 0 = W9 := ⟨_, rfl⟩
    have N9 := five_cells (fiveW_heap ZH.out (.slice none 0 0) (.slice none 0 0) ⟨#[]⟩ (.slice none 0 0) 0)
    have b9 : Below w.heap.size w (fiveW w1 w.heap.size (.slice none 0 0) (.slice none 0 0) ⟨#[]⟩ (.slice none 0 0) 0) := fiveW_below (b0.trans (b1.mono b0.size)) (Nat.le_refl _) _ _ _ _ _
    rw [hW9] at N9 b9
    unfold fiveW at hW9
    rw [hW9]
    obtain ⟨n0, n1, n2, n3, n4⟩ := N9
    exact bodyPost_ret (v := srvV (.slice none 0 0) (.slice none 0 0) ⟨#[]⟩ (.slice none 0 0) 0) (by simp [results, Try.results30, go_sem, n0, n1, n2, n3, n4]) rfl ⟨⟨_, rfl, .inr ⟨by first | trivial | rfl, rfl⟩⟩, b9⟩
  · have hn1 : 1 ≤ n := by
      unfold accsT inI at hT
      simp only [Bool.and_eq_true, decide_eq_true_eq] at hT
      omega
    clear hT
    obtain ⟨i0, hi0, hz0, hz1, hz2⟩ := info_parts info_acc
    have hm' := hm
    obtain ⟨o, cap, rfl, g1, g2, hc⟩ := hm'
    obtain ⟨b, f, rfl, hb, -⟩ := hc 0 (by omega)
    have AC : Hid (∀ W : World, Below w.heap.size w W → ∀ j u, (accVs U N n)[j]? = some u → W.cell? ((⟨b, f, none⟩ : Addr).add j) = some u) := fun W bb => acc_cells (hm.below bb)
    clear hc hm
    go_enter Try.func30, Try.ntmps30
    go_wp2_with first
      | (at_builtin; refine wpList_append_lies _ rfl _ _ _ rfl W0.heap.size 43 i0 _ 2 32 Try.underlying24 hi0 hz0 hz1 hz2 rfl (by omega) _ 0 [] rfl OW ⟨b, f, none⟩ n cap (accVs U N n) rfl (accVs_len U N n) (AC.out _ BA) (accVs_one U N n) (by omega) (by unfold maxLen; omega) (by omega) (by simp; omega) (w1.heap.size + 1) (by simp) ?_; intro gg cap' w8 hown8 hgrow hat hlt8; have Z8 := (hgrow.block w.heap.size (by simp; omega) (fun e => (by have e' := Option.some.inj e; simp at e'; omega))).trans ((Below.heap_alloc w1 _ w.heap.size (by omega)).trans Z1.out); have ZH : Hid (w8.heap[w.heap.size]? = some (.cells #[.slice none 0 0, .slice none 0 0, .string ⟨#[]⟩, .slice none 0 0, .int .i64 0] 28 (0, 0))) := Z8; obtain ⟨z0, z1, z2, z3, z4⟩ := five_cells Z8; have zf : ∀ j, w8.frozen? ⟨w.heap.size, j, none⟩ = false := (fun j => (by simp [World.frozen?, Z8])); clear Z8)
      | (go_at_call 14; rw [← hW0]; go_fit cO; rintro e w1 ⟨rfl, b1⟩; have Z1 : Hid (w1.heap[w.heap.size]? = some (.cells #[.slice none 0 0, .slice none 0 0, .string ⟨#[]⟩, .slice none 0 0, .int .i64 0] 28 (0, 0))) := ZERO.out w1 b1; have B1 : Below w.heap.size w w1 := b0.trans (b1.mono b0.size); have l1 := b1.size; have BA : Below w.heap.size w (w1.alloc (.cells #[] 43)) := B1.alloc B1.size _; have OW : (w1.alloc (.cells #[] 43)).ownsRow W0.heap.size 43 2 (.slice (some ⟨w1.heap.size, 0, none⟩) 0 0) 0 [] := World.ownsRow_made w1 #[] 0 l1 (Nat.zero_le _) rfl)
    obtain ⟨A, hA⟩ : ∃ A, A = Value.slice (some ⟨gg, 0, none⟩) n cap' := ⟨_, rfl⟩
    have OA : OwnA w8 W0.heap.size A n U N := by
      rw [hA]
      unfold OwnA
      simpa using hown8
    have OA9 := ownA_five OA h0 A (.slice none 0 0) ⟨#[]⟩ (.slice none 0 0) 0
    have N9 := five_cells (fiveW_heap ZH.out A (.slice none 0 0) ⟨#[]⟩ (.slice none 0 0) 0)
    have bG : Below w.heap.size w w8 := BA.grown hgrow (by have := B1.size; simp; omega) (fun q hq => by have e' := Option.some.inj hq; simp at e'; omega)
    have b9 : Below w.heap.size w (fiveW w8 w.heap.size A (.slice none 0 0) ⟨#[]⟩ (.slice none 0 0) 0) := fiveW_below bG (Nat.le_refl _) _ _ _ _ _
    obtain ⟨W9, hW9⟩ : ∃ W9, fiveW w8 w.heap.size A (.slice none 0 0) ⟨#[]⟩ (.slice none 0 0) 0 = W9 := ⟨_, rfl⟩
    rw [hW9] at N9 b9 OA9
    unfold fiveW at hW9
    rw [← hA, hW9]
    obtain ⟨n0, n1, n2, n3, n4⟩ := N9
    exact bodyPost_ret (v := srvV A (.slice none 0 0) ⟨#[]⟩ (.slice none 0 0) 0) (by simp [results, Try.results30, go_sem, n0, n1, n2, n3, n4]) rfl ⟨⟨_, rfl, .inl ⟨by first | trivial | rfl, ownA_mono OA9 (Nat.le_of_lt h0)⟩⟩, b9⟩
end Go.Proofs.Ytkfdggcccegmlaa.Hub
