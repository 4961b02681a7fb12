/-
  What spec.l16Jid, DrawJidPut, DrawJidOk and DrawJidGet give: some address of three short texts; some text of at most 2000 bytes. Nothing is said of which.
-/
import Derived.Test.YtjpebjmjpilbbaaDoorDrawBent
import Derived.Test.YtjpebjmjpilbbaaDoorJidGetB
namespace Go.Proofs.YtjpebjmjpilbbaaDoor.Hub
open Go.RowKit
set_option linter.unusedVariables false

def jusers : List ByteArray := [⟨#[]⟩, ⟨#[97, 110, 110]⟩, ⟨#[98, 111, 98]⟩, ⟨#[100, 101, 110]⟩, ⟨#[97, 46, 98, 45, 99, 95, 100]⟩, ⟨#[65, 110, 110]⟩, ⟨#[97, 98, 99, 100, 101, 102, 103, 104, 105]⟩, ⟨#[195, 169]⟩]
def jhosts : List ByteArray := [⟨#[114, 111, 111, 109, 115, 46, 108, 111, 99, 97, 108]⟩, ⟨#[104]⟩, ⟨#[97, 45, 98, 46, 99]⟩, ⟨#[]⟩, ⟨#[45, 97]⟩, ⟨#[97, 46, 46, 98]⟩, ⟨#[114, 111, 111, 109, 115, 46, 108, 111, 99, 97, 108]⟩]
def jnicks : List ByteArray := [⟨#[]⟩, ⟨#[]⟩, ⟨#[66, 111]⟩, ⟨#[97, 32, 98]⟩, ⟨#[32, 120]⟩, ⟨#[195, 169]⟩, ⟨#[97, 47, 98]⟩, ⟨#[97, 98, 99, 100, 101, 102, 103, 104, 105, 106, 107]⟩, ⟨#[1]⟩]
def jtexts : List ByteArray := [⟨#[]⟩, ⟨#[64, 104]⟩, ⟨#[97, 64]⟩, ⟨#[104, 47]⟩, ⟨#[97, 64, 98, 64, 99]⟩, ⟨#[65, 78, 78, 64, 82, 111, 111, 109, 115, 46, 76, 111, 99, 97, 108, 47, 66, 111]⟩, ⟨#[104, 47, 97, 47, 98]⟩, ⟨#[97, 64, 104, 47, 32, 120]⟩, ⟨#[68, 101, 110, 64, 82, 79, 79, 77, 83, 46, 108, 111, 99, 97, 108]⟩]

/-- An address of three short texts. -/
def SomeJid (e : Ending) : Prop := ∃ u h n : ByteArray, u.size ≤ 100 ∧ h.size ≤ 100 ∧ n.size ≤ 100 ∧ e = .returned (.agg #[.string u, .string h, .string n])

set_option maxRecDepth 100000 in
set_option maxHeartbeats 2000000 in
theorem jid_any (n₀ B p : Nat) (hp : p ≤ 80000) (w : World) (hn : n₀ ≤ w.heap.size) (h : Rd n₀ w B p) :
    Calls Tryd.prog 19 #[.pointer (some ⟨B, 0, none⟩)] w fun e w' => SomeJid e ∧ Rd n₀ w' B (p + 1 + 1 + 1) ∧ n₀ ≤ w'.heap.size ∧ Below n₀ w w' := by
  have hB := h.1
  have hlt := rd_lt h
  have t0 := three_new w ⟨#[]⟩ ⟨#[]⟩ ⟨#[]⟩
  have r0 := h.alloc hn (.cells #[.string ⟨#[]⟩, .string ⟨#[]⟩, .string ⟨#[]⟩] 24)
  have b0 : Below n₀ w (w.alloc (.cells #[.string ⟨#[]⟩, .string ⟨#[]⟩, .string ⟨#[]⟩] 24)) := (Below.refl n₀ w).alloc hn _
  obtain ⟨W0, hW0⟩ : ∃ W0, w.alloc (.cells #[.string ⟨#[]⟩, .string ⟨#[]⟩, .string ⟨#[]⟩] 24) = W0 := ⟨_, rfl⟩
  have hs0 : W0.heap.size = w.heap.size + 1 := by rw [← hW0]; simp
  rw [hW0] at t0 r0 b0
  have step : ∀ (W W' : World) (o : Obj), Three W w.heap.size ⟨#[]⟩ ⟨#[]⟩ ⟨#[]⟩ → Stepped B (W.alloc o) W' → Three W' w.heap.size ⟨#[]⟩ ⟨#[]⟩ ⟨#[]⟩ := fun W W' o t hst =>
    (hst.2.2 w.heap.size (by omega)).trans ((Below.heap_alloc W o _ t.lt).trans t)
  have STEP : Hid (∀ (W W' : World) (o : Obj), Three W w.heap.size ⟨#[]⟩ ⟨#[]⟩ ⟨#[]⟩ → Stepped B (W.alloc o) W' → Three W' w.heap.size ⟨#[]⟩ ⟨#[]⟩ ⟨#[]⟩) := step
  clear step
  go_enter Tryd.func19, Tryd.ntmps19
  go_wp2_with fail
  clear hW0
  have l0 := rd_lt r0
  have n0 : n₀ ≤ W0.heap.size := Nat.le_trans hn b0.size
  go_fit (of_any n₀ B p (w.heap.size + 1) 8 jusers rfl (by omega) (by omega) (by omega) _ (r0.alloc n0 _) (by omega) (by rw [← hs0]; exact World.alloc_heap_new _ _))
  rintro e W1 ⟨⟨u, hu, rfl⟩, r1, s1⟩
  have hus := all_small jusers (by kernel_rfl) u hu
  have t1 := STEP.out _ _ _ t0 s1
  have b1 := b0.trans (((Below.refl n₀ W0).alloc n0 _).trans (below_of_stepped hB s1))
  have n1 : n₀ ≤ W1.heap.size := Nat.le_trans hn b1.size
  have l1 := rd_lt r1
  clear s1 t0 r0 hu
  go_wp2_with fail
  go_fit (of_any n₀ B (p + 1) W1.heap.size 7 jhosts rfl (by omega) (by omega) (by omega) _ (r1.alloc n1 _) (by omega) (World.alloc_heap_new _ _))
  rintro e W2 ⟨⟨h', hh, rfl⟩, r2, s2⟩
  have hhs := all_small jhosts (by kernel_rfl) h' hh
  have t2 := STEP.out _ _ _ t1 s2
  have b2 := b1.trans (((Below.refl n₀ W1).alloc n1 _).trans (below_of_stepped hB s2))
  have n2 : n₀ ≤ W2.heap.size := Nat.le_trans hn b2.size
  have l2 := rd_lt r2
  clear s2 t1 r1 hh b1 b0
  go_wp2_with fail
  go_fit (of_any n₀ B (p + 1 + 1) W2.heap.size 9 jnicks rfl (by omega) (by omega) (by omega) _ (r2.alloc n2 _) (by omega) (World.alloc_heap_new _ _))
  rintro e W3 ⟨⟨n, hnn, rfl⟩, r3, s3⟩
  have hns := all_small jnicks (by kernel_rfl) n hnn
  have t3 := STEP.out _ _ _ t2 s3
  have b3 := b2.trans (((Below.refl n₀ W2).alloc n2 _).trans (below_of_stepped hB s3))
  have n3 : n₀ ≤ W3.heap.size := Nat.le_trans hn b3.size
  clear s3 t2 r2 hnn b2
  have y0 := ((t3.set0 u).set1 h').set2 n
  have yB := ((b3.setCell (p := ⟨w.heap.size, 0, none⟩) hn (.string u)).setCell (p := ⟨w.heap.size, 1, none⟩) hn (.string h')).setCell (p := ⟨w.heap.size, 2, none⟩) hn (.string n)
  have yR : Rd n₀ (((W3.setCell ⟨w.heap.size, 0, none⟩ (.string u)).setCell ⟨w.heap.size, 1, none⟩ (.string h')).setCell ⟨w.heap.size, 2, none⟩ (.string n)) B (p + 1 + 1 + 1) := by
    obtain ⟨q1, v, m, hv, hm, hh⟩ := r3
    refine ⟨q1, v, m, hv.below ((((Below.refl n₀ W3).setCell (p := ⟨w.heap.size, 0, none⟩) hn (.string u)).setCell (p := ⟨w.heap.size, 1, none⟩) hn (.string h')).setCell (p := ⟨w.heap.size, 2, none⟩) hn (.string n)), hm, ?_⟩
    rw [heap_set_ne _ _ _ _ _ (by omega), heap_set_ne _ _ _ _ _ (by omega), heap_set_ne _ _ _ _ _ (by omega)]
    exact hh
  have yS : n₀ ≤ (((W3.setCell ⟨w.heap.size, 0, none⟩ (.string u)).setCell ⟨w.heap.size, 1, none⟩ (.string h')).setCell ⟨w.heap.size, 2, none⟩ (.string n)).heap.size := Nat.le_trans hn yB.size
  have a0 := t3.c0
  have a1 := t3.c1
  have a2 := t3.c2
  have f0 := t3.fz 0
  have f1 := t3.fz 1
  have f3 := t3.fz 2
  have d0 := y0.c0
  have d1 := y0.c1
  have d2 := y0.c2
  clear y0 t3 b3
  go_wp2_with fail
  exact bodyPost_ret (v := .agg #[.string u, .string h', .string n]) (by simp [results, Tryd.results19, go_sem, d0, d1, d2]) rfl ⟨⟨u, h', n, hus, hhs, hns, rfl⟩, yR, yS, yB⟩

theorem BytesAt.more {n₀ n₁ n : Nat} {W : World} {v : Value} (h : BytesAt n₀ W v n) (hn : n₀ ≤ n₁) : BytesAt n₁ W v n := by
  rcases h with h | ⟨b, off, cap, hv, hc, hlt, hz⟩
  · exact .inl h
  · exact .inr ⟨b, off, cap, hv, hc, by omega, hz⟩

set_option maxRecDepth 100000 in
set_option maxHeartbeats 2000000 in
theorem drawJidOk_any (v : Value) (n : Nat) (w : World) (h : BytesAt w.heap.size w v n) :
    Calls Tryd.prog 6 #[v] w fun e w' => SomeJid e ∧ Below w.heap.size w w' := by
  have t0 := three_new w ⟨#[]⟩ ⟨#[]⟩ ⟨#[]⟩
  have b0 : Below w.heap.size w (w.alloc (.cells #[.string ⟨#[]⟩, .string ⟨#[]⟩, .string ⟨#[]⟩] 24)) := (Below.refl _ w).alloc (Nat.le_refl _) _
  have h0 := (h.below b0).more b0.size
  go_enter Tryd.func6, Tryd.ntmps6
  go_wp2_with fail
  go_fit (open_any v n _ h0)
  rintro e W1 ⟨rfl, r1, b1⟩
  simp only [World.size_alloc] at r1
  have t1 := t0.below b1
  have c1 := b0.trans (b1.mono b0.size)
  have n1 : w.heap.size + 1 ≤ W1.heap.size := by have := b1.size; simpa using this
  clear t0 h0
  go_wp2_with fail
  go_fit (jid_any _ _ 0 (by omega) W1 n1 r1)
  rintro e W2 ⟨⟨u, h', k, hu, hh, hk, rfl⟩, _, n2, b2⟩
  have t2 : Three W2 w.heap.size ⟨#[]⟩ ⟨#[]⟩ ⟨#[]⟩ := (b2.block _ (by omega)).trans t1
  have c2 := c1.trans (b2.mono (by omega))
  have y0 := ((t2.set0 u).set1 h').set2 k
  have yB := ((c2.setCell (p := ⟨w.heap.size, 0, none⟩) (Nat.le_refl _) (.string u)).setCell (p := ⟨w.heap.size, 1, none⟩) (Nat.le_refl _) (.string h')).setCell (p := ⟨w.heap.size, 2, none⟩) (Nat.le_refl _) (.string k)
  have a0 := t2.c0
  have a1 := t2.c1
  have a2 := t2.c2
  have f0 := t2.fz 0
  have f1 := t2.fz 1
  have f3 := t2.fz 2
  have d0 := y0.c0
  have d1 := y0.c1
  have d2 := y0.c2
  clear y0 t2 t1 r1 b1 b2
  go_wp2_with fail
  exact bodyPost_ret (v := .agg #[.string u, .string h', .string k]) (by simp [results, Tryd.results6, go_sem, d0, d1, d2]) rfl ⟨⟨u, h', k, hu, hh, hk, rfl⟩, yB⟩

theorem jputT_small (u h n : ByteArray) (hu : u.size ≤ 100) (hh : h.size ≤ 100) (hn : n.size ≤ 100) : (jputT u h n).size ≤ 1000 := by
  unfold jputT
  split
  · unfold jput jputL
    rw [ofL_size]
    have lu : u.data.toList.length = u.size := rfl
    have lh : h.data.toList.length = h.size := rfl
    have ln : n.data.toList.length = n.size := rfl
    split <;> split <;> simp [lu, lh, ln] <;> omega
  · show 0 ≤ 1000; omega
theorem Rd.onward {n₀ B p : Nat} {W W' : World} (h : Rd n₀ W B p) (hn : n₀ ≤ W.heap.size) (hb : Below W.heap.size W W') : Rd n₀ W' B p := by
  have hlt := rd_lt h
  obtain ⟨q1, v, m, hv, hm, hh⟩ := h
  exact ⟨q1, v, m, hv.below (hb.mono hn), hm, (hb.block _ hlt).trans hh⟩

end Go.Proofs.YtjpebjmjpilbbaaDoor.Hub
