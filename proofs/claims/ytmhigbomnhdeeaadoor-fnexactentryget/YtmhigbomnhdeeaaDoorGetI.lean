/-
  How the program reads an entry.
-/
import Derived.Test.YtmhigbomnhdeeaaDoorPartsI
import Derived.Test.YtmhigbomnhdeeaaDoorShelfE
import Derived.Test.YtmhigbomnhdeeaaDoorEntryPutI
import Derived.Test.YtmhigbomnhdeeaaDoorGetS
import Derived.Deep.RegionHeld3
namespace Go.Proofs.YtmhigbomnhdeeaaDoor.Hub
open Go.RowKit Go.Lib
set_option linter.unusedVariables false

/-- strconv's two errors are some errors. -/
def Errs (w : World) : Prop := (∃ t v, w.cell? ⟨0, 0, none⟩ = some (.iface t v)) ∧ ∃ t v, w.cell? ⟨1, 0, none⟩ = some (.iface t v)
theorem Errs.below {w w' : World} (h : Errs w) (hb : RowKit.Below w.heap.size w w') : Errs w' := by
  obtain ⟨⟨t, v, h1⟩, t', v', h2⟩ := h
  exact ⟨⟨t, v, (hb.cell (World.block_lt_of_cell? _ _ h1)).trans h1⟩, t', v', (hb.cell (World.block_lt_of_cell? _ _ h2)).trans h2⟩

theorem atoi_any (s : ByteArray) (hs : s.size ≤ 1048576) (w : World) (hE : Errs w) :
    Calls Tryd.prog 21 #[.string s] w fun e w' => ∃ er, e = .returned (.tuple #[.int .i64 (atoiV s.data.toList), er]) ∧ (er = .nilIface ∨ ∃ t v, er = .iface t v) ∧ RowKit.Below w.heap.size w w' := by
  obtain ⟨⟨t1, v1, h1⟩, t2, v2, h2⟩ := hE
  unfold atoiV
  cases hA : Lib.atoiAll s.data.toList with
  | ok v =>
    refine (Any.strconv_Atoi_ok Tryd.laysC172 s (by omega) v hA w).mono ?_
    rintro e w' ⟨rfl, hw⟩
    refine ⟨_, rfl, .inl rfl, ?_⟩
    rcases hw with rfl | ⟨t, rfl⟩
    · exact Below.refl _ _
    · exact Lib.bytesWorld_below _ _ _
  | range =>
    refine (Any.strconv_Atoi_range Tryd.laysC172 s (by omega) hA _ w h2 (.inr ⟨_, _, rfl⟩)).mono ?_
    rintro e w' ⟨N, rfl, _, _, hb⟩
    exact ⟨_, rfl, .inr ⟨_, _, rfl⟩, hb⟩
  | _ =>
    refine (Any.strconv_Atoi_syntax Tryd.laysC172 s (by omega) hA _ w h1 (.inr ⟨_, _, rfl⟩)).mono ?_
    rintro e w' ⟨N, rfl, _, _, hb⟩
    exact ⟨_, rfl, .inr ⟨_, _, rfl⟩, hb⟩

set_option maxRecDepth 100000 in
set_option maxHeartbeats 8000000 in
theorem entryGet_nine (s : ByteArray) (hs : s.size ≤ 1048576) (a b r u n t i f c : List UInt8) (hp : fldL [] s.data.toList = [a, b, r, u, n, t, i, f, c]) (w : World) (hT : Tabs w) (hX : Tens w) (hE : Errs w) (BB : Bool)
    (hBB : BB = decide (eputT (ofL r) (atoiV a) (atoiV b) (ofL u) (ofL n) (ofL t) (ofL i) (ofL f) (atoiV c) = s)) :
    Calls Tryd.prog 10 #[.string s] w fun e w' => e = .returned (.tuple #[if BB = true then entV (ofL r) (atoiV a) (atoiV b) (ofL u) (ofL n) (ofL t) (ofL i) (ofL f) (atoiV c) else entV ⟨#[]⟩ 0 0 ⟨#[]⟩ ⟨#[]⟩ ⟨#[]⟩ ⟨#[]⟩ ⟨#[]⟩ 0, .bool BB]) ∧ RowKit.Below w.heap.size w w' := by
  have hl : s.data.toList.length = s.size := rfl
  have hz : ∀ p ∈ [a, b, r, u, n, t, i, f, c], (ofL p).size ≤ 1048576 := fun p h => by
    rw [← hp] at h
    have := fld_len s.size s.data.toList [] (by omega) p h
    show p.length ≤ _
    rw [List.length_nil] at this
    omega
  have cA := fun W h => atoi_any (ofL a) (hz a (by simp)) W h
  have cB := fun W h => atoi_any (ofL b) (hz b (by simp)) W h
  have cC := fun W h => atoi_any (ofL c) (hz c (by simp)) W h
  have ea : (ofL a).data.toList = a := rfl
  have eb : (ofL b).data.toList = b := rfl
  have ec : (ofL c).data.toList = c := rfl
  rw [ea] at cA
  rw [eb] at cB
  rw [ec] at cC
  have hF : ∀ W, Calls Tryd.prog 20 #[.string s] W fun e w' => ∃ g cap, e = .returned (.slice (some ⟨g, 0, none⟩) 9 cap) ∧ NineS w' g (ofL a) (ofL b) (ofL r) (ofL u) (ofL n) (ofL t) (ofL i) (ofL f) (ofL c) ∧ W.heap.size ≤ g ∧ RowKit.Below W.heap.size W w' := fun W => by
    have h := unmarkedParts_any s hs W
    rw [hp] at h
    refine h.mono ?_
    rintro e w' ⟨g, cap, rfl, hown, hb⟩
    exact ⟨g, cap, rfl, nineS_of hown, (hown.lt g rfl).1, hb⟩
  have zr : (ofL r).size ≤ 9223372036854775800 := Nat.le_trans (hz r (by simp)) (by omega)
  have zu : (ofL u).size ≤ 9223372036854775800 := Nat.le_trans (hz u (by simp)) (by omega)
  have zn : (ofL n).size ≤ 9223372036854775800 := Nat.le_trans (hz n (by simp)) (by omega)
  have zt : (ofL t).size ≤ 9223372036854775800 := Nat.le_trans (hz t (by simp)) (by omega)
  have zi : (ofL i).size ≤ 9223372036854775800 := Nat.le_trans (hz i (by simp)) (by omega)
  have zf : (ofL f).size ≤ 9223372036854775800 := Nat.le_trans (hz f (by simp)) (by omega)
  have hO := fun W h1 h2 => entryPut_any (ofL r) (atoiV a) (atoiV b) (ofL u) (ofL n) (ofL t) (ofL i) (ofL f) (atoiV c) W h1 h2 zr zu zn zt zi zf
  clear hz ea eb ec hp hl zr zu zn zt zi zf
  generalize eputT (ofL r) (atoiV a) (atoiV b) (ofL u) (ofL n) (ofL t) (ofL i) (ofL f) (atoiV c) = PP at *
  generalize atoiV a = qa at *
  generalize atoiV b = kb at *
  generalize atoiV c = mc at *
  generalize ofL a = A at *
  generalize ofL b = B at *
  generalize ofL c = C at *
  generalize ofL r = r' at *
  generalize ofL u = u' at *
  generalize ofL n = n' at *
  generalize ofL t = t' at *
  generalize ofL i = i' at *
  generalize ofL f = f' at *
  have HBB : Hid (BB = decide (PP = s)) := hBB
  obtain ⟨VV, hVV⟩ : ∃ VV, (if BB = true then entV r' qa kb u' n' t' i' f' mc else entV ⟨#[]⟩ 0 0 ⟨#[]⟩ ⟨#[]⟩ ⟨#[]⟩ ⟨#[]⟩ ⟨#[]⟩ 0) = VV := ⟨_, rfl⟩
  have HVV : Hid ((if BB = true then entV r' qa kb u' n' t' i' f' mc else entV ⟨#[]⟩ 0 0 ⟨#[]⟩ ⟨#[]⟩ ⟨#[]⟩ ⟨#[]⟩ ⟨#[]⟩ 0) = VV) := hVV
  rw [hVV]
  clear hVV hBB
  have ZERO := zero_block w
  obtain ⟨W0, hW0⟩ : ∃ W0, W0 = w.alloc (.cells #[.string ⟨#[]⟩, .int .i64 0, .int .i64 0, .string ⟨#[]⟩, .string ⟨#[]⟩, .string ⟨#[]⟩, .string ⟨#[]⟩, .string ⟨#[]⟩, .int .i64 0] 26) := ⟨_, rfl⟩
  rw [← hW0] at ZERO
  have b0 : RowKit.Below w.heap.size w W0 := by rw [hW0]; exact (Below.refl _ w).alloc (Nat.le_refl _) _
  have LATER : Hid (∀ W, RowKit.Below W0.heap.size W0 W → Tabs W ∧ Tens W ∧ Errs W) := fun W bb => by
    have b := b0.trans (bb.mono b0.size)
    exact ⟨Utf8Tabs_below hT b, hX.below b, hE.below b⟩
  clear hT hX hE
  go_enter Tryd.func10, Tryd.ntmps10
  go_wp2_with first
    | (go_at_call 21; refine (cC w3 (LATER.out w3 b3).2.2).mono ?_; rintro e w4 ⟨er4, rfl, he4, p4⟩; have b4 := b3.trans (p4.mono b3.size); obtain ⟨x0, x1, x2, x3, x4, x5, x6, x7, x8⟩ := NSL.out w4 (c3.trans (p4.mono c3.size)); have c4 := c3.trans (p4.mono c3.size))
    | (go_at_call 21; refine (cB w2 (LATER.out w2 b2).2.2).mono ?_; rintro e w3 ⟨er3, rfl, he3, p3⟩; have b3 := b2.trans (p3.mono b2.size); have c3 := c2.trans (p3.mono c2.size); have y8 := (NSL.out w3 c3).2.2.2.2.2.2.2.2)
    | (go_at_call 21; refine (cA w1 (LATER.out w1 b1).2.2).mono ?_; rintro e w2 ⟨er2, rfl, he2, c2⟩; have b2 := b1.trans (c2.mono b1.size); have y1 := (NSL.out w2 c2).2.1)
    | (go_at_call 20; rw [← hW0]; go_fit (hF W0); rintro e w1 ⟨g, cap, rfl, NS, hg, b1⟩; have hgl : g < w1.heap.size := World.block_lt_of_cell? _ _ NS.1; have NSL : Hid (∀ W, RowKit.Below w1.heap.size w1 W → NineS W g A B r' u' n' t' i' f' C) := (fun W b9 => (⟨(b9.cell (p := ⟨g, 0, none⟩) hgl).trans NS.1, (b9.cell (p := ⟨g, 1, none⟩) hgl).trans NS.2.1, (b9.cell (p := ⟨g, 2, none⟩) hgl).trans NS.2.2.1, (b9.cell (p := ⟨g, 3, none⟩) hgl).trans NS.2.2.2.1, (b9.cell (p := ⟨g, 4, none⟩) hgl).trans NS.2.2.2.2.1, (b9.cell (p := ⟨g, 5, none⟩) hgl).trans NS.2.2.2.2.2.1, (b9.cell (p := ⟨g, 6, none⟩) hgl).trans NS.2.2.2.2.2.2.1, (b9.cell (p := ⟨g, 7, none⟩) hgl).trans NS.2.2.2.2.2.2.2.1, (b9.cell (p := ⟨g, 8, none⟩) hgl).trans NS.2.2.2.2.2.2.2.2⟩ : NineS W g A B r' u' n' t' i' f' C)); have y0 := NS.1)
  clear x0 x1 x2 x3 x4 x5 x6 x7 x8 y0 y1 y8
  have NSF : Hid (∀ W, RowKit.Below w1.heap.size w1 W → W.cell? ⟨g, 2, none⟩ = some (.string r') ∧ W.cell? ⟨g, 3, none⟩ = some (.string u') ∧ W.cell? ⟨g, 4, none⟩ = some (.string n') ∧ W.cell? ⟨g, 5, none⟩ = some (.string t') ∧ W.cell? ⟨g, 6, none⟩ = some (.string i') ∧ W.cell? ⟨g, 7, none⟩ = some (.string f')) := fun W bb => by
    have q := NSL.out W bb
    exact ⟨q.2.2.1, q.2.2.2.1, q.2.2.2.2.1, q.2.2.2.2.2.1, q.2.2.2.2.2.2.1, q.2.2.2.2.2.2.2.1⟩
  obtain ⟨W2, hW2⟩ : ∃ W2, W2 = (w4.alloc (.cells #[.string ⟨#[]⟩, .int .i64 0, .int .i64 0, .string ⟨#[]⟩, .string ⟨#[]⟩, .string ⟨#[]⟩, .string ⟨#[]⟩, .string ⟨#[]⟩, .int .i64 0] 26)).drew := ⟨_, rfl⟩
  have d2 : RowKit.Below w4.heap.size w4 W2 := by rw [hW2]; exact ((Below.refl _ w4).alloc (Nat.le_refl _) _).drew
  obtain ⟨E, hE⟩ : ∃ E, E = w4.heap.size := ⟨_, rfl⟩
  have HE : Hid (E = w4.heap.size) := hE
  have hb2 : W2.heap[E]? = some (.cells #[.string ⟨#[]⟩, .int .i64 0, .int .i64 0, .string ⟨#[]⟩, .string ⟨#[]⟩, .string ⟨#[]⟩, .string ⟨#[]⟩, .string ⟨#[]⟩, .int .i64 0] 26 (0, 0)) := by rw [hW2, hE]; exact new_heap w4 _
  have fz2 : ∀ j, W2.frozen? ⟨E, j, none⟩ = false := fun j => by simp [World.frozen?, hb2]
  obtain ⟨q0, q1, q2, q3, q4, q5, q6, q7, q8⟩ := nine_cells hb2
  obtain ⟨W3, hW3⟩ : ∃ W3, nineW W2 E r' qa kb u' n' t' i' f' mc = W3 := ⟨_, rfl⟩
  have d3 : RowKit.Below w4.heap.size w4 W3 := by rw [← hW3]; exact nineW_below d2 (by omega) _ _ _ _ _ _ _ _ _
  have h3 : W3.heap[E]? = some (.cells #[.string r', .int .i64 qa, .int .i64 kb, .string u', .string n', .string t', .string i', .string f', .int .i64 mc] 26 (0, 0)) := by rw [← hW3]; exact nineW_heap hb2 _ _ _ _ _ _ _ _ _
  have NSD := NSF.out w4.drew c4.drew
  have NSA := NSF.out W2 (c4.trans (d2.mono c4.size))
  have NSC := NSF.out W3 (c4.trans (d3.mono c4.size))
  have ND : Hid (w4.drew.cell? ⟨g, 2, none⟩ = some (.string r') ∧ w4.drew.cell? ⟨g, 3, none⟩ = some (.string u') ∧ w4.drew.cell? ⟨g, 4, none⟩ = some (.string n') ∧ w4.drew.cell? ⟨g, 5, none⟩ = some (.string t') ∧ w4.drew.cell? ⟨g, 6, none⟩ = some (.string i') ∧ w4.drew.cell? ⟨g, 7, none⟩ = some (.string f')) := NSD
  have NA : Hid (W2.cell? ⟨g, 2, none⟩ = some (.string r') ∧ W2.cell? ⟨g, 3, none⟩ = some (.string u') ∧ W2.cell? ⟨g, 4, none⟩ = some (.string n') ∧ W2.cell? ⟨g, 5, none⟩ = some (.string t') ∧ W2.cell? ⟨g, 6, none⟩ = some (.string i') ∧ W2.cell? ⟨g, 7, none⟩ = some (.string f')) := NSA
  have NC : Hid (W3.cell? ⟨g, 2, none⟩ = some (.string r') ∧ W3.cell? ⟨g, 3, none⟩ = some (.string u') ∧ W3.cell? ⟨g, 4, none⟩ = some (.string n') ∧ W3.cell? ⟨g, 5, none⟩ = some (.string t') ∧ W3.cell? ⟨g, 6, none⟩ = some (.string i') ∧ W3.cell? ⟨g, 7, none⟩ = some (.string f')) := NSC
  unfold nineW at hW3
  have HW3 : Hid (_ = W3) := hW3
  have HW2 : Hid (W2 = (w4.alloc (.cells #[.string ⟨#[]⟩, .int .i64 0, .int .i64 0, .string ⟨#[]⟩, .string ⟨#[]⟩, .string ⟨#[]⟩, .string ⟨#[]⟩, .string ⟨#[]⟩, .int .i64 0] 26)).drew) := hW2
  have H3 : Hid (W3.heap[E]? = some (.cells #[.string r', .int .i64 qa, .int .i64 kb, .string u', .string n', .string t', .string i', .string f', .int .i64 mc] 26 (0, 0))) := h3
  clear hE hb2 hW2 hW3 h3 NSD NSA NSC
  refine wp_region_held_drew (S := (fun W => W.cell? ⟨g, 2, none⟩ = some (.string r') ∧ W.cell? ⟨g, 3, none⟩ = some (.string u') ∧ W.cell? ⟨g, 4, none⟩ = some (.string n') ∧ W.cell? ⟨g, 5, none⟩ = some (.string t') ∧ W.cell? ⟨g, 6, none⟩ = some (.string i') ∧ W.cell? ⟨g, 7, none⟩ = some (.string f'))) (by kernel_rfl) ND.out (fun hHeld => ?_)
  refine wpAnyH_take (i := 0) (v := ?_) rfl (by kernel_rfl) (by kernel_rfl) (by kernel_rfl) (fun _ _ _ h => h) (Or.inl ⟨by rfl, ?takeY0⟩) ND.out ?takeR0
  case takeY0 => (intro w hSw; (try dsimp only at hSw); go_simp; try (with_reducible rfl))
  simp only [Act.put, List.setIfInBounds_toArray, List.set_cons_zero, List.set_cons_succ, List.getElem_toArray, List.getElem_cons_zero]
  refine wpAnyH_take (i := 1) (v := ?_) rfl (by kernel_rfl) (by kernel_rfl) (by kernel_rfl) (fun _ _ _ h => h) (Or.inl ⟨by rfl, ?takeY1⟩) ND.out ?takeR1
  case takeY1 => (intro w hSw; (try dsimp only at hSw); go_simp; try (with_reducible rfl))
  simp only [Act.put, List.setIfInBounds_toArray, List.set_cons_zero, List.set_cons_succ, List.getElem_toArray, List.getElem_cons_zero, List.getElem_cons_succ]
  refine wpAnyH_take (i := 2) (v := ?_) rfl (by kernel_rfl) (by kernel_rfl) (by kernel_rfl) (fun _ _ _ h => h) (Or.inl ⟨by rfl, ?takeY2⟩) ND.out ?takeR2
  case takeY2 => (intro w hSw; (try dsimp only at hSw); go_simp; try (with_reducible rfl))
  simp only [Act.put, List.setIfInBounds_toArray, List.set_cons_zero, List.set_cons_succ, List.getElem_toArray, List.getElem_cons_zero, List.getElem_cons_succ]
  refine wpAnyH_take (i := 3) (v := ?_) rfl (by kernel_rfl) (by kernel_rfl) (by kernel_rfl) (fun _ _ _ h => h) (Or.inl ⟨by rfl, ?takeY3⟩) ND.out ?takeR3
  case takeY3 => (intro w hSw; (try dsimp only at hSw); go_simp; try (with_reducible rfl))
  simp only [Act.put, List.setIfInBounds_toArray, List.set_cons_zero, List.set_cons_succ, List.getElem_toArray, List.getElem_cons_zero, List.getElem_cons_succ]
  refine wpAnyH_take (i := 4) (v := ?_) rfl (by kernel_rfl) (by kernel_rfl) (by kernel_rfl) (fun _ _ _ h => h) (Or.inl ⟨by rfl, ?takeY4⟩) ND.out ?takeR4
  case takeY4 => (intro w hSw; (try dsimp only at hSw); go_simp; try (with_reducible rfl))
  simp only [Act.put, List.setIfInBounds_toArray, List.set_cons_zero, List.set_cons_succ, List.getElem_toArray, List.getElem_cons_zero, List.getElem_cons_succ]
  refine wpAnyH_take (i := 5) (v := ?_) rfl (by kernel_rfl) (by kernel_rfl) (by kernel_rfl) (fun _ _ _ h => h) (Or.inl ⟨by rfl, ?takeY5⟩) ND.out ?takeR5
  case takeY5 => (intro w hSw; (try dsimp only at hSw); go_simp; try (with_reducible rfl))
  simp only [Act.put, List.setIfInBounds_toArray, List.set_cons_zero, List.set_cons_succ, List.getElem_toArray, List.getElem_cons_zero, List.getElem_cons_succ]
  refine wpAnyH_take (i := 6) (v := ?_) rfl (by kernel_rfl) (by kernel_rfl) (by kernel_rfl) (fun _ _ _ h => h) (Or.inl ⟨by rfl, ?takeY6⟩) ND.out ?takeR6
  case takeY6 => (intro w hSw; (try dsimp only at hSw); go_simp; try (with_reducible rfl))
  simp only [Act.put, List.setIfInBounds_toArray, List.set_cons_zero, List.set_cons_succ, List.getElem_toArray, List.getElem_cons_zero, List.getElem_cons_succ]
  refine wpAnyH_take (i := 7) (v := ?_) rfl (by kernel_rfl) (by kernel_rfl) (by kernel_rfl) (fun _ _ _ h => h) (Or.inl ⟨by rfl, ?takeY7⟩) ND.out ?takeR7
  case takeY7 => (intro w hSw; (try dsimp only at hSw); go_simp; try (with_reducible rfl))
  simp only [Act.put, List.setIfInBounds_toArray, List.set_cons_zero, List.set_cons_succ, List.getElem_toArray, List.getElem_cons_zero, List.getElem_cons_succ]
  refine wpAnyH_take (i := 8) (v := ?_) rfl (by kernel_rfl) (by kernel_rfl) (by kernel_rfl) (fun _ _ _ h => h) (Or.inl ⟨by rfl, ?takeY8⟩) ND.out ?takeR8
  case takeY8 => (intro w hSw; (try dsimp only at hSw); go_simp; try (with_reducible rfl))
  simp only [Act.put, List.setIfInBounds_toArray, List.set_cons_zero, List.set_cons_succ, List.getElem_toArray, List.getElem_cons_zero, List.getElem_cons_succ]
  refine wpAnyH_take (i := 9) (v := ?_) rfl (by kernel_rfl) (by kernel_rfl) (by kernel_rfl) (fun _ _ _ h => h) (Or.inl ⟨by rfl, ?takeY9⟩) ND.out ?takeR9
  case takeY9 => (intro w hSw; (try dsimp only at hSw); go_simp; try (with_reducible rfl))
  simp only [Act.put, List.setIfInBounds_toArray, List.set_cons_zero, List.set_cons_succ, List.getElem_toArray, List.getElem_cons_zero, List.getElem_cons_succ]
  refine wpAnyH_take (i := 10) (v := ?_) rfl (by kernel_rfl) (by kernel_rfl) (by kernel_rfl) (fun _ _ _ h => h) (Or.inl ⟨by rfl, ?takeY10⟩) ND.out ?takeR10
  case takeY10 => (intro w hSw; (try dsimp only at hSw); go_simp; try (with_reducible rfl))
  simp only [Act.put, List.setIfInBounds_toArray, List.set_cons_zero, List.set_cons_succ, List.getElem_toArray, List.getElem_cons_zero, List.getElem_cons_succ]
  refine wpAnyH_take (i := 11) (v := ?_) rfl (by kernel_rfl) (by kernel_rfl) (by kernel_rfl) (fun _ _ _ h => h) (Or.inl ⟨by rfl, ?takeY11⟩) ND.out ?takeR11
  case takeY11 => (intro w hSw; (try dsimp only at hSw); go_simp; try (with_reducible rfl))
  simp only [Act.put, List.setIfInBounds_toArray, List.set_cons_zero, List.set_cons_succ, List.getElem_toArray, List.getElem_cons_zero, List.getElem_cons_succ]
  refine wpAnyH_take (i := 12) (v := ?_) rfl (by kernel_rfl) (by kernel_rfl) (by kernel_rfl) (fun _ _ _ h => h) (Or.inl ⟨by rfl, ?takeY12⟩) ND.out ?takeR12
  case takeY12 => (intro w hSw; (try dsimp only at hSw); go_simp; try (with_reducible rfl))
  simp only [Act.put, List.setIfInBounds_toArray, List.set_cons_zero, List.set_cons_succ, List.getElem_toArray, List.getElem_cons_zero, List.getElem_cons_succ]
  refine wpAnyH_take (i := 13) (v := ?_) rfl (by kernel_rfl) (by kernel_rfl) (by kernel_rfl) (fun _ _ _ h => h) (Or.inl ⟨by rfl, ?takeY13⟩) ND.out ?takeR13
  case takeY13 => (intro w hSw; (try dsimp only at hSw); go_simp; try (with_reducible rfl))
  simp only [Act.put, List.setIfInBounds_toArray, List.set_cons_zero, List.set_cons_succ, List.getElem_toArray, List.getElem_cons_zero, List.getElem_cons_succ]
  refine wpAnyH_take (i := 14) (v := ?_) rfl (by kernel_rfl) (by kernel_rfl) (by kernel_rfl) (fun _ _ _ h => h) (Or.inl ⟨by rfl, ?takeY14⟩) ND.out ?takeR14
  case takeY14 => (intro w hSw; (try dsimp only at hSw); go_simp; try (with_reducible rfl))
  simp only [Act.put, List.setIfInBounds_toArray, List.set_cons_zero, List.set_cons_succ, List.getElem_toArray, List.getElem_cons_zero, List.getElem_cons_succ]
  refine wpAnyH_take (i := 15) (v := ?_) rfl (by kernel_rfl) (by kernel_rfl) (by kernel_rfl) (fun _ _ _ h => h) (Or.inl ⟨by rfl, ?takeY15⟩) ND.out ?takeR15
  case takeY15 => (intro w hSw; (try dsimp only at hSw); go_simp; try (with_reducible rfl))
  simp only [Act.put, List.setIfInBounds_toArray, List.set_cons_zero, List.set_cons_succ, List.getElem_toArray, List.getElem_cons_zero, List.getElem_cons_succ]
  refine wpAnyH_take (i := 16) (v := ?_) rfl (by kernel_rfl) (by kernel_rfl) (by kernel_rfl) (fun _ _ _ h => h) (Or.inl ⟨by rfl, ?takeY16⟩) ND.out ?takeR16
  case takeY16 => (intro w hSw; (try dsimp only at hSw); go_simp; try (with_reducible rfl))
  simp only [Act.put, List.setIfInBounds_toArray, List.set_cons_zero, List.set_cons_succ, List.getElem_toArray, List.getElem_cons_zero, List.getElem_cons_succ]
  refine wpAnyH_take (i := 17) (v := ?_) rfl (by kernel_rfl) (by kernel_rfl) (by kernel_rfl) (fun _ _ _ h => h) (Or.inl ⟨by rfl, ?takeY17⟩) ND.out ?takeR17
  case takeY17 => (intro w hSw; (try dsimp only at hSw); go_simp; try (with_reducible rfl))
  simp only [Act.put, List.setIfInBounds_toArray, List.set_cons_zero, List.set_cons_succ, List.getElem_toArray, List.getElem_cons_zero, List.getElem_cons_succ]
  refine wpAnyH_take (i := 18) (v := ?_) rfl (by kernel_rfl) (by kernel_rfl) (by kernel_rfl) (fun _ _ _ h => h) (Or.inl ⟨by rfl, ?takeY18⟩) ND.out ?takeR18
  case takeY18 => (intro w hSw; (try dsimp only at hSw); go_simp; try (with_reducible rfl))
  simp only [Act.put, List.setIfInBounds_toArray, List.set_cons_zero, List.set_cons_succ, List.getElem_toArray, List.getElem_cons_zero, List.getElem_cons_succ]
  refine wpAnyH_take (i := 19) (v := ?_) rfl (by kernel_rfl) (by kernel_rfl) (by kernel_rfl) (fun _ _ _ h => h) (Or.inl ⟨by rfl, ?takeY19⟩) ND.out ?takeR19
  case takeY19 => (intro w hSw; (try dsimp only at hSw); go_simp; try (with_reducible rfl))
  simp only [Act.put, List.setIfInBounds_toArray, List.set_cons_zero, List.set_cons_succ, List.getElem_toArray, List.getElem_cons_zero, List.getElem_cons_succ]
  refine wpAnyH_take (i := 20) (v := ?_) rfl (by kernel_rfl) (by kernel_rfl) (by kernel_rfl) (fun _ _ _ h => h) (Or.inl ⟨by rfl, ?takeY20⟩) ND.out ?takeR20
  case takeY20 => (intro w hSw; (try dsimp only at hSw); go_simp; try (with_reducible rfl))
  simp only [Act.put, List.setIfInBounds_toArray, List.set_cons_zero, List.set_cons_succ, List.getElem_toArray, List.getElem_cons_zero, List.getElem_cons_succ]
  refine wpAnyH_take (i := 21) (v := ?_) rfl (by kernel_rfl) (by kernel_rfl) (by kernel_rfl) (fun _ _ _ h => h) (Or.inl ⟨by rfl, ?takeY21⟩) ND.out ?takeR21
  case takeY21 => (intro w hSw; (try dsimp only at hSw); go_simp; try (with_reducible rfl))
  simp only [Act.put, List.setIfInBounds_toArray, List.set_cons_zero, List.set_cons_succ, List.getElem_toArray, List.getElem_cons_zero, List.getElem_cons_succ]
  refine wpAnyH_ready (rs := [22]) (by kernel_rfl) (by simp) ?_
  refine AllReadyH.cons rfl (fun K hK => ?_) AllReadyH.nil
  go_simp
  rw [← HW2.out, ← HE.out]
  refine hK.out _ _ NA.out (fun _ => ?_)
  clear hK K
  try simp only [Act.put, List.setIfInBounds_toArray, List.set_cons_zero, List.set_cons_succ, List.getElem_toArray, List.getElem_cons_zero, List.getElem_cons_succ]
  refine wpAnyH_ready (rs := [23]) (by kernel_rfl) (by simp) ?_
  refine AllReadyH.cons rfl (fun K hK => ?_) AllReadyH.nil
  go_simp
  rw [HW3.out]
  refine hK.out _ _ NC.out (fun _ => ?_)
  clear hK K
  try simp only [Act.put, List.setIfInBounds_toArray, List.set_cons_zero, List.set_cons_succ, List.getElem_toArray, List.getElem_cons_zero, List.getElem_cons_succ]
  refine wpAnyH_done (by kernel_rfl) ?_ _
  clear ND NA NC HW3 HW2 q0 q1 q2 q3 q4 q5 q6 q7 q8 fz2 hHeld NSF NSL NS cA cB cC hF hgl d2
  obtain ⟨n0, n1, n2, n3, n4, n5, n6, n7, n8⟩ := nine_cells H3.out
  have hEl : E < W3.heap.size := World.block_lt_of_cell? _ _ n0
  have EC : Hid (∀ W : World, RowKit.Below W3.heap.size W3 W → W.heap[E]? = some (.cells #[.string r', .int .i64 qa, .int .i64 kb, .string u', .string n', .string t', .string i', .string f', .int .i64 mc] 26 (0, 0))) := fun W bb => (bb.block E hEl).trans H3.out
  have B3 : RowKit.Below W0.heap.size W0 W3 := b4.trans (d3.mono b4.size)
  have hP := hO W3 (LATER.out W3 B3).1 (LATER.out W3 B3).2.1
  by_cases hPs : PP = s
  · subst hPs
    go_wp2_with (go_at_call 8; go_fit hP; rintro e w6 ⟨rfl, b6⟩; obtain ⟨y0, y1, y2, y3, y4, y5, y6, y7, y8⟩ := nine_cells (EC.out w6 b6); have B6 : RowKit.Below W0.heap.size W0 w6 := B3.trans (b6.mono B3.size); have Z5 := ZERO.out w6 B6; have ZH : Hid (w6.heap[w.heap.size]? = some (.cells #[.string ⟨#[]⟩, .int .i64 0, .int .i64 0, .string ⟨#[]⟩, .string ⟨#[]⟩, .string ⟨#[]⟩, .string ⟨#[]⟩, .string ⟨#[]⟩, .int .i64 0] 26 (0, 0))) := Z5; have BH : Hid (RowKit.Below w.heap.size w w6) := b0.trans (B6.mono b0.size); obtain ⟨z0, z1, z2, z3, z4, z5, z6, z7, z8⟩ := nine_cells Z5; have zf : ∀ j, w6.frozen? ⟨w.heap.size, j, none⟩ = false := (fun j => (by simp [World.frozen?, Z5])); clear Z5)
    obtain ⟨W9, hW9⟩ : ∃ W9, nineW w6 w.heap.size r' qa kb u' n' t' i' f' mc = W9 := ⟨_, rfl⟩
    have N9 := nine_cells (nineW_heap ZH.out r' qa kb u' n' t' i' f' mc)
    have b9 : RowKit.Below w.heap.size w (nineW w6 w.heap.size r' qa kb u' n' t' i' f' mc) := nineW_below BH.out (Nat.le_refl _) _ _ _ _ _ _ _ _ _
    rw [hW9] at N9 b9
    unfold nineW at hW9
    rw [hW9]
    obtain ⟨m0, m1, m2, m3, m4, m5, m6, m7, m8⟩ := N9
    refine bodyPost_ret (v := .tuple #[entV r' qa kb u' n' t' i' f' mc, .bool true]) (by simp [results, Tryd.results10, go_sem, m0, m1, m2, m3, m4, m5, m6, m7, m8]) rfl ⟨?_, b9⟩
    rw [← HVV.out, HBB.out]
    simp
  · have hne := text_ne hPs
    go_wp2_with (go_at_call 8; go_fit hP; rintro e w6 ⟨rfl, b6⟩; have B6 : RowKit.Below W0.heap.size W0 w6 := B3.trans (b6.mono B3.size); have Z5 := ZERO.out w6 B6; have ZH : Hid (w6.heap[w.heap.size]? = some (.cells #[.string ⟨#[]⟩, .int .i64 0, .int .i64 0, .string ⟨#[]⟩, .string ⟨#[]⟩, .string ⟨#[]⟩, .string ⟨#[]⟩, .string ⟨#[]⟩, .int .i64 0] 26 (0, 0))) := Z5; have BH : Hid (RowKit.Below w.heap.size w w6) := b0.trans (B6.mono b0.size); obtain ⟨z0, z1, z2, z3, z4, z5, z6, z7, z8⟩ := nine_cells Z5; have zf : ∀ j, w6.frozen? ⟨w.heap.size, j, none⟩ = false := (fun j => (by simp [World.frozen?, Z5])); clear Z5)
    obtain ⟨W9, hW9⟩ : ∃ W9, nineW w6 w.heap.size ⟨#[]⟩ 0 0 ⟨#[]⟩ ⟨#[]⟩ ⟨#[]⟩ ⟨#[]⟩ ⟨#[]⟩ 0 = W9 := ⟨_, rfl⟩
    have N9 := nine_cells (nineW_heap ZH.out ⟨#[]⟩ 0 0 ⟨#[]⟩ ⟨#[]⟩ ⟨#[]⟩ ⟨#[]⟩ ⟨#[]⟩ 0)
    have b9 : RowKit.Below w.heap.size w (nineW w6 w.heap.size ⟨#[]⟩ 0 0 ⟨#[]⟩ ⟨#[]⟩ ⟨#[]⟩ ⟨#[]⟩ ⟨#[]⟩ 0) := nineW_below BH.out (Nat.le_refl _) _ _ _ _ _ _ _ _ _
    rw [hW9] at N9 b9
    unfold nineW at hW9
    rw [hW9]
    obtain ⟨m0, m1, m2, m3, m4, m5, m6, m7, m8⟩ := N9
    refine bodyPost_ret (v := .tuple #[entV ⟨#[]⟩ 0 0 ⟨#[]⟩ ⟨#[]⟩ ⟨#[]⟩ ⟨#[]⟩ ⟨#[]⟩ 0, .bool false]) (by simp [results, Tryd.results10, go_sem, m0, m1, m2, m3, m4, m5, m6, m7, m8]) rfl ⟨?_, b9⟩
    rw [← HVV.out, HBB.out, decide_eq_false hPs]
    rfl

set_option maxRecDepth 100000 in
set_option maxHeartbeats 4000000 in
theorem entryGet_not (s : ByteArray) (hs : s.size ≤ 1048576) (hp : (fldL [] s.data.toList).length ≠ 9) (w : World) :
    Calls Tryd.prog 10 #[.string s] w fun e w' => e = .returned (.tuple #[entV ⟨#[]⟩ 0 0 ⟨#[]⟩ ⟨#[]⟩ ⟨#[]⟩ ⟨#[]⟩ ⟨#[]⟩ 0, .bool false]) ∧ RowKit.Below w.heap.size w w' := by
  have ZERO := zero_block w
  have hF := fun W => unmarkedParts_any s hs W
  obtain ⟨m, hm⟩ : ∃ m, (fldL [] s.data.toList).length = m := ⟨_, rfl⟩
  obtain ⟨W0, hW0⟩ : ∃ W0, W0 = w.alloc (.cells #[.string ⟨#[]⟩, .int .i64 0, .int .i64 0, .string ⟨#[]⟩, .string ⟨#[]⟩, .string ⟨#[]⟩, .string ⟨#[]⟩, .string ⟨#[]⟩, .int .i64 0] 26) := ⟨_, rfl⟩
  rw [← hW0] at ZERO
  have b0 : RowKit.Below w.heap.size w W0 := by rw [hW0]; exact (Below.refl _ w).alloc (Nat.le_refl _) _
  have hF0 : Calls Tryd.prog 20 #[.string s] W0 fun e w' => ∃ g cap, e = .returned (.slice (some ⟨g, 0, none⟩) m cap) ∧ RowKit.Below W0.heap.size W0 w' := by
    refine (hF W0).mono ?_
    rintro e w' ⟨g, cap, rfl, hown, hb⟩
    exact ⟨g, cap, by rw [hm], hb⟩
  rw [hm] at hp
  have g9 : ((m : Int) == 9) = false := beq_eq_false_iff_ne.2 (by omega)
  clear hF hm
  go_enter Tryd.func10, Tryd.ntmps10
  go_wp2_with first
    | (go_at_call 20; rw [← hW0]; go_fit hF0; rintro e w5 ⟨g, cap, rfl, b5⟩; have Z5 := ZERO.out w5 b5; have ZH : Hid (w5.heap[w.heap.size]? = some (.cells #[.string ⟨#[]⟩, .int .i64 0, .int .i64 0, .string ⟨#[]⟩, .string ⟨#[]⟩, .string ⟨#[]⟩, .string ⟨#[]⟩, .string ⟨#[]⟩, .int .i64 0] 26 (0, 0))) := Z5; have BH : Hid (RowKit.Below w.heap.size w w5) := b0.trans (b5.mono b0.size); obtain ⟨z0, z1, z2, z3, z4, z5, z6, z7, z8⟩ := nine_cells Z5; have zf : ∀ j, w5.frozen? ⟨w.heap.size, j, none⟩ = false := (fun j => (by simp [World.frozen?, Z5])); clear Z5)
  obtain ⟨W9, hW9⟩ : ∃ W9, nineW w5 w.heap.size ⟨#[]⟩ 0 0 ⟨#[]⟩ ⟨#[]⟩ ⟨#[]⟩ ⟨#[]⟩ ⟨#[]⟩ 0 = W9 := ⟨_, rfl⟩
  have N9 := nine_cells (nineW_heap ZH.out ⟨#[]⟩ 0 0 ⟨#[]⟩ ⟨#[]⟩ ⟨#[]⟩ ⟨#[]⟩ ⟨#[]⟩ 0)
  have b9 : RowKit.Below w.heap.size w (nineW w5 w.heap.size ⟨#[]⟩ 0 0 ⟨#[]⟩ ⟨#[]⟩ ⟨#[]⟩ ⟨#[]⟩ ⟨#[]⟩ 0) := nineW_below BH.out (Nat.le_refl _) _ _ _ _ _ _ _ _ _
  rw [hW9] at N9 b9
  unfold nineW at hW9
  rw [hW9]
  obtain ⟨n0, n1, n2, n3, n4, n5, n6, n7, n8⟩ := N9
  exact bodyPost_ret (v := .tuple #[entV ⟨#[]⟩ 0 0 ⟨#[]⟩ ⟨#[]⟩ ⟨#[]⟩ ⟨#[]⟩ ⟨#[]⟩ 0, .bool false]) (by simp [results, Tryd.results10, go_sem, n0, n1, n2, n3, n4, n5, n6, n7, n8]) rfl ⟨rfl, b9⟩
end Go.Proofs.YtmhigbomnhdeeaaDoor.Hub
