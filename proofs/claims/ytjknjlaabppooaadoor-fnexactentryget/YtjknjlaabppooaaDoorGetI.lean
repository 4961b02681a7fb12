/-
  How the program reads an entry.
-/
import Derived.Test.YtjknjlaabppooaaDoorPartsI
import Derived.Test.YtjknjlaabppooaaDoorShelfE
import Derived.Test.YtjknjlaabppooaaDoorEntryPutI
import Derived.Test.YtjknjlaabppooaaDoorGetS
import Derived.Deep.RegionHeld3
namespace Go.Proofs.YtjknjlaabppooaaDoor.Hub
open Go.RowKit Go.Lib
set_option linter.unusedVariables false

/-- strconv's two errors are some errors. -/
def Errs (w : World) : Prop := (∃ t v, w.cell? ⟨0, 0, none⟩ = some (.iface t v)) ∧ ∃ t v, w.cell? ⟨1, 0, none⟩ = some (.iface t v)
theorem Errs.below {w w' : World} (h : Errs w) (hb : RowKit.Below w.heap.size w w') : Errs w' := by
  obtain ⟨⟨t, v, h1⟩, t', v', h2⟩ := h
  exact ⟨⟨t, v, (hb.cell (World.block_lt_of_cell? _ _ h1)).trans h1⟩, t', v', (hb.cell (World.block_lt_of_cell? _ _ h2)).trans h2⟩

theorem atoi_any (s : ByteArray) (hs : s.size ≤ 1048576) (w : World) (hE : Errs w) :
    Calls Tryd.prog 18 #[.string s] w fun e w' => ∃ er, e = .returned (.tuple #[.int .i64 (atoiV s.data.toList), er]) ∧ (er = .nilIface ∨ ∃ t v, er = .iface t v) ∧ RowKit.Below w.heap.size w w' := by
  obtain ⟨⟨t1, v1, h1⟩, t2, v2, h2⟩ := hE
  unfold atoiV
  cases hA : Lib.atoiAll s.data.toList with
  | ok v =>
    refine (Any.strconv_Atoi_ok Tryd.laysC172 s (by omega) v hA w).mono ?_
    rintro e w' ⟨rfl, hw⟩
    refine ⟨_, rfl, .inl rfl, ?_⟩
    rcases hw with rfl | ⟨t, rfl⟩
    · exact Below.refl _ _
    · exact Lib.bytesWorld_below _ _ _
  | range =>
    refine (Any.strconv_Atoi_range Tryd.laysC172 s (by omega) hA _ w h2 (.inr ⟨_, _, rfl⟩)).mono ?_
    rintro e w' ⟨N, rfl, _, _, hb⟩
    exact ⟨_, rfl, .inr ⟨_, _, rfl⟩, hb⟩
  | _ =>
    refine (Any.strconv_Atoi_syntax Tryd.laysC172 s (by omega) hA _ w h1 (.inr ⟨_, _, rfl⟩)).mono ?_
    rintro e w' ⟨N, rfl, _, _, hb⟩
    exact ⟨_, rfl, .inr ⟨_, _, rfl⟩, hb⟩

set_option maxRecDepth 100000 in
theorem looseNumber_any (s : ByteArray) (hs : s.size ≤ 1048576) (w : World) (hE : Errs w) :
    Calls Tryd.prog 9 #[.string s] w fun e w' => e = .returned (.int .i64 (atoiV s.data.toList)) ∧ RowKit.Below w.heap.size w w' := by
  have con := atoi_any s hs w hE
  generalize atoiV s.data.toList = V at *
  go_enter Tryd.func9, Tryd.ntmps9
  go_wp2_with (go_at_call 18; refine con.mono ?_; rintro e w1 ⟨er, rfl, he, b1⟩)
  go_ret
  exact ⟨rfl, b1⟩

set_option maxRecDepth 100000 in
set_option maxHeartbeats 8000000 in
theorem entryGet_nine (s : ByteArray) (hs : s.size ≤ 1048576) (a b r u n t i f c : List UInt8) (hp : fldL [] s.data.toList = [a, b, r, u, n, t, i, f, c]) (w : World) (hT : Tabs w) (hX : Tens w) (hE : Errs w) (BB : Bool)
    (hBB : BB = decide (eputT (ofL r) (atoiV a) (atoiV b) (ofL u) (ofL n) (ofL t) (ofL i) (ofL f) (atoiV c) = s)) :
    Calls Tryd.prog 5 #[.string s] w fun e w' => e = .returned (.tuple #[if BB = true then entV (ofL r) (atoiV a) (atoiV b) (ofL u) (ofL n) (ofL t) (ofL i) (ofL f) (atoiV c) else entV ⟨#[]⟩ 0 0 ⟨#[]⟩ ⟨#[]⟩ ⟨#[]⟩ ⟨#[]⟩ ⟨#[]⟩ 0, .bool BB]) ∧ RowKit.Below w.heap.size w w' := by
  have hl : s.data.toList.length = s.size := rfl
  have hz : ∀ p ∈ [a, b, r, u, n, t, i, f, c], (ofL p).size ≤ 1048576 := fun p h => by
    rw [← hp] at h
    have := fld_len s.size s.data.toList [] (by omega) p h
    show p.length ≤ _
    rw [List.length_nil] at this
    omega
  have cA := fun W h => looseNumber_any (ofL a) (hz a (by simp)) W h
  have cB := fun W h => looseNumber_any (ofL b) (hz b (by simp)) W h
  have cC := fun W h => looseNumber_any (ofL c) (hz c (by simp)) W h
  have ea : (ofL a).data.toList = a := rfl
  have eb : (ofL b).data.toList = b := rfl
  have ec : (ofL c).data.toList = c := rfl
  rw [ea] at cA
  rw [eb] at cB
  rw [ec] at cC
  have hF : ∀ W, Calls Tryd.prog 8 #[.string s] W fun e w' => ∃ g cap, e = .returned (.slice (some ⟨g, 0, none⟩) 9 cap) ∧ NineS w' g (ofL a) (ofL b) (ofL r) (ofL u) (ofL n) (ofL t) (ofL i) (ofL f) (ofL c) ∧ W.heap.size ≤ g ∧ RowKit.Below W.heap.size W w' := fun W => by
    have h := unmarkedParts_any s hs W
    rw [hp] at h
    refine h.mono ?_
    rintro e w' ⟨g, cap, rfl, hown, hb⟩
    exact ⟨g, cap, rfl, nineS_of hown, (hown.lt g rfl).1, hb⟩
  have zr : (ofL r).size ≤ 9223372036854775800 := Nat.le_trans (hz r (by simp)) (by omega)
  have zu : (ofL u).size ≤ 9223372036854775800 := Nat.le_trans (hz u (by simp)) (by omega)
  have zn : (ofL n).size ≤ 9223372036854775800 := Nat.le_trans (hz n (by simp)) (by omega)
  have zt : (ofL t).size ≤ 9223372036854775800 := Nat.le_trans (hz t (by simp)) (by omega)
  have zi : (ofL i).size ≤ 9223372036854775800 := Nat.le_trans (hz i (by simp)) (by omega)
  have zf : (ofL f).size ≤ 9223372036854775800 := Nat.le_trans (hz f (by simp)) (by omega)
  have hO := fun W h1 h2 => entryPut_any (ofL r) (atoiV a) (atoiV b) (ofL u) (ofL n) (ofL t) (ofL i) (ofL f) (atoiV c) W h1 h2 zr zu zn zt zi zf
  clear hz ea eb ec hp hl zr zu zn zt zi zf
  generalize eputT (ofL r) (atoiV a) (atoiV b) (ofL u) (ofL n) (ofL t) (ofL i) (ofL f) (atoiV c) = PP at *
  generalize atoiV a = qa at *
  generalize atoiV b = kb at *
  generalize atoiV c = mc at *
  generalize ofL a = A at *
  generalize ofL b = B at *
  generalize ofL c = C at *
  generalize ofL r = r' at *
  generalize ofL u = u' at *
  generalize ofL n = n' at *
  generalize ofL t = t' at *
  generalize ofL i = i' at *
  generalize ofL f = f' at *
  have HBB : Hid (BB = decide (PP = s)) := hBB
  obtain ⟨VV, hVV⟩ : ∃ VV, (if BB = true then entV r' qa kb u' n' t' i' f' mc else entV ⟨#[]⟩ 0 0 ⟨#[]⟩ ⟨#[]⟩ ⟨#[]⟩ ⟨#[]⟩ ⟨#[]⟩ 0) = VV := ⟨_, rfl⟩
  have HVV : Hid ((if BB = true then entV r' qa kb u' n' t' i' f' mc else entV ⟨#[]⟩ 0 0 ⟨#[]⟩ ⟨#[]⟩ ⟨#[]⟩ ⟨#[]⟩ ⟨#[]⟩ 0) = VV) := hVV
  rw [hVV]
  clear hVV hBB
  have ZERO := zero_block w
  obtain ⟨W0, hW0⟩ : ∃ W0, W0 = w.alloc (.cells #[.string ⟨#[]⟩, .int .i64 0, .int .i64 0, .string ⟨#[]⟩, .string ⟨#[]⟩, .string ⟨#[]⟩, .string ⟨#[]⟩, .string ⟨#[]⟩, .int .i64 0] 23) := ⟨_, rfl⟩
  rw [← hW0] at ZERO
  have b0 : RowKit.Below w.heap.size w W0 := by rw [hW0]; exact (Below.refl _ w).alloc (Nat.le_refl _) _
  have LATER : Hid (∀ W, RowKit.Below W0.heap.size W0 W → Tabs W ∧ Tens W ∧ Errs W) := fun W bb => by
    have b := b0.trans (bb.mono b0.size)
    exact ⟨Utf8Tabs_below hT b, hX.below b, hE.below b⟩
  clear hT hX hE
  go_enter Tryd.func5, Tryd.ntmps5
  go_wp2_with first
    | (go_at_call 8; rw [← hW0]; go_fit (hF W0); rintro e w1 ⟨g, cap, rfl, NS, hg, b1⟩; have hgl : g < w1.heap.size := World.block_lt_of_cell? _ _ NS.1; have NSL : Hid (∀ W, RowKit.Below w1.heap.size w1 W → NineS W g A B r' u' n' t' i' f' C) := (fun W b9 => (⟨(b9.cell (p := ⟨g, 0, none⟩) hgl).trans NS.1, (b9.cell (p := ⟨g, 1, none⟩) hgl).trans NS.2.1, (b9.cell (p := ⟨g, 2, none⟩) hgl).trans NS.2.2.1, (b9.cell (p := ⟨g, 3, none⟩) hgl).trans NS.2.2.2.1, (b9.cell (p := ⟨g, 4, none⟩) hgl).trans NS.2.2.2.2.1, (b9.cell (p := ⟨g, 5, none⟩) hgl).trans NS.2.2.2.2.2.1, (b9.cell (p := ⟨g, 6, none⟩) hgl).trans NS.2.2.2.2.2.2.1, (b9.cell (p := ⟨g, 7, none⟩) hgl).trans NS.2.2.2.2.2.2.2.1, (b9.cell (p := ⟨g, 8, none⟩) hgl).trans NS.2.2.2.2.2.2.2.2⟩ : NineS W g A B r' u' n' t' i' f' C)))
  rename_i K1 hK1
  have z1 := b1.size
  have TAIL : Hid (∀ (E : Nat) (W3 : World) (u6 u7 u8 u9 u10 u11 u12 u13 u14 u15 u16 u17 u18 u19 u20 u21 u22 u23 u24 u25 u26 u27 u28 u29 u30 u31 u32 u33 u34 u35 u36 u37 u38 u39 u40 u41 u42 : Value), RowKit.Below W0.heap.size W0 W3 → W3.heap[E]? = some (.cells #[.string r', .int .i64 qa, .int .i64 kb, .string u', .string n', .string t', .string i', .string f', .int .i64 mc] 23 (0, 0)) → K1 ⟨#[.string s, undef, .pointer (some ⟨w.heap.size, 0, none⟩), .bool false, .slice (some ⟨g, 0, none⟩) 9 cap, .pointer (some ⟨E, 0, none⟩), u6, u7, u8, u9, u10, u11, u12, u13, u14, u15, u16, u17, u18, u19, u20, u21, u22, u23, u24, u25, u26, u27, u28, u29, u30, u31, u32, u33, u34, u35, u36, u37, u38, u39, u40, u41, u42, undef, undef, undef, undef, undef, undef], []⟩ W3) := by
    intro E W3 u6 u7 u8 u9 u10 u11 u12 u13 u14 u15 u16 u17 u18 u19 u20 u21 u22 u23 u24 u25 u26 u27 u28 u29 u30 u31 u32 u33 u34 u35 u36 u37 u38 u39 u40 u41 u42 B3 h3
    refine hK1 _ _ ?_
    clear hK1 K1 NSL NS cA cB cC hF hgl
    have H3 : Hid (W3.heap[E]? = _) := h3
    clear h3
    obtain ⟨n0, n1, n2, n3, n4, n5, n6, n7, n8⟩ := nine_cells H3.out
    have hEl : E < W3.heap.size := World.block_lt_of_cell? _ _ n0
    have EC : Hid (∀ W : World, RowKit.Below W3.heap.size W3 W → W.heap[E]? = some (.cells #[.string r', .int .i64 qa, .int .i64 kb, .string u', .string n', .string t', .string i', .string f', .int .i64 mc] 23 (0, 0))) := fun W bb => (bb.block E hEl).trans H3.out
    have hP := hO W3 (LATER.out W3 B3).1 (LATER.out W3 B3).2.1
    by_cases hPs : PP = s
    · subst hPs
      go_wp2_with (go_at_call 10; go_fit hP; rintro e w6 ⟨rfl, b6⟩; obtain ⟨y0, y1, y2, y3, y4, y5, y6, y7, y8⟩ := nine_cells (EC.out w6 b6); have B6 : RowKit.Below W0.heap.size W0 w6 := B3.trans (b6.mono B3.size); have Z5 := ZERO.out w6 B6; have ZH : Hid (w6.heap[w.heap.size]? = some (.cells #[.string ⟨#[]⟩, .int .i64 0, .int .i64 0, .string ⟨#[]⟩, .string ⟨#[]⟩, .string ⟨#[]⟩, .string ⟨#[]⟩, .string ⟨#[]⟩, .int .i64 0] 23 (0, 0))) := Z5; have BH : Hid (RowKit.Below w.heap.size w w6) := b0.trans (B6.mono b0.size); obtain ⟨z0, z1, z2, z3, z4, z5, z6, z7, z8⟩ := nine_cells Z5; have zf : ∀ j, w6.frozen? ⟨w.heap.size, j, none⟩ = false := (fun j => (by simp [World.frozen?, Z5])); clear Z5)
      obtain ⟨W9, hW9⟩ : ∃ W9, nineW w6 w.heap.size r' qa kb u' n' t' i' f' mc = W9 := ⟨_, rfl⟩
      have N9 := nine_cells (nineW_heap ZH.out r' qa kb u' n' t' i' f' mc)
      have b9 : RowKit.Below w.heap.size w (nineW w6 w.heap.size r' qa kb u' n' t' i' f' mc) := nineW_below BH.out (Nat.le_refl _) _ _ _ _ _ _ _ _ _
      rw [hW9] at N9 b9
      unfold nineW at hW9
      rw [hW9]
      obtain ⟨m0, m1, m2, m3, m4, m5, m6, m7, m8⟩ := N9
      refine bodyPost_ret (v := .tuple #[entV r' qa kb u' n' t' i' f' mc, .bool true]) (by simp [results, Tryd.results5, go_sem, m0, m1, m2, m3, m4, m5, m6, m7, m8]) rfl ⟨?_, b9⟩
      rw [← HVV.out, HBB.out]
      simp
    · have hne := text_ne hPs
      go_wp2_with (go_at_call 10; go_fit hP; rintro e w6 ⟨rfl, b6⟩; have B6 : RowKit.Below W0.heap.size W0 w6 := B3.trans (b6.mono B3.size); have Z5 := ZERO.out w6 B6; have ZH : Hid (w6.heap[w.heap.size]? = some (.cells #[.string ⟨#[]⟩, .int .i64 0, .int .i64 0, .string ⟨#[]⟩, .string ⟨#[]⟩, .string ⟨#[]⟩, .string ⟨#[]⟩, .string ⟨#[]⟩, .int .i64 0] 23 (0, 0))) := Z5; have BH : Hid (RowKit.Below w.heap.size w w6) := b0.trans (B6.mono b0.size); obtain ⟨z0, z1, z2, z3, z4, z5, z6, z7, z8⟩ := nine_cells Z5; have zf : ∀ j, w6.frozen? ⟨w.heap.size, j, none⟩ = false := (fun j => (by simp [World.frozen?, Z5])); clear Z5)
      obtain ⟨W9, hW9⟩ : ∃ W9, nineW w6 w.heap.size ⟨#[]⟩ 0 0 ⟨#[]⟩ ⟨#[]⟩ ⟨#[]⟩ ⟨#[]⟩ ⟨#[]⟩ 0 = W9 := ⟨_, rfl⟩
      have N9 := nine_cells (nineW_heap ZH.out ⟨#[]⟩ 0 0 ⟨#[]⟩ ⟨#[]⟩ ⟨#[]⟩ ⟨#[]⟩ ⟨#[]⟩ 0)
      have b9 : RowKit.Below w.heap.size w (nineW w6 w.heap.size ⟨#[]⟩ 0 0 ⟨#[]⟩ ⟨#[]⟩ ⟨#[]⟩ ⟨#[]⟩ ⟨#[]⟩ 0) := nineW_below BH.out (Nat.le_refl _) _ _ _ _ _ _ _ _ _
      rw [hW9] at N9 b9
      unfold nineW at hW9
      rw [hW9]
      obtain ⟨m0, m1, m2, m3, m4, m5, m6, m7, m8⟩ := N9
      refine bodyPost_ret (v := .tuple #[entV ⟨#[]⟩ 0 0 ⟨#[]⟩ ⟨#[]⟩ ⟨#[]⟩ ⟨#[]⟩ ⟨#[]⟩ 0, .bool false]) (by simp [results, Tryd.results5, go_sem, m0, m1, m2, m3, m4, m5, m6, m7, m8]) rfl ⟨?_, b9⟩
      rw [← HVV.out, HBB.out, decide_eq_false hPs]
      rfl
  clear hK1
  have BX : RowKit.Below w1.heap.size w1 w1.drew := (Below.refl _ w1).drew
  refine wp_region_held_drew (S := fun W => NineS W g A B r' u' n' t' i' f' C) (by kernel_rfl) (NSL.out w1.drew BX) (fun hHeld => ?_)
  refine wpAnyH_take (i := 0) (v := ?_) rfl (by kernel_rfl) (by kernel_rfl) (by kernel_rfl) (fun _ _ _ h => h) (Or.inl ⟨by rfl, ?takeYg1⟩) (NSL.out w1.drew BX) ?takeRg1
  case takeYg1 => (intro w9 hSw; obtain ⟨x0, x1, x2, x3, x4, x5, x6, x7, x8⟩ := hSw; go_simp; try (with_reducible rfl))
  simp only [Act.put, List.setIfInBounds_toArray, List.set_cons_zero, List.set_cons_succ, List.getElem_toArray, List.getElem_cons_zero]
  refine wpAnyH_take (i := 1) (v := ?_) rfl (by kernel_rfl) (by kernel_rfl) (by kernel_rfl) (fun _ _ _ h => h) (Or.inl ⟨by rfl, ?takeYg2⟩) (NSL.out w1.drew BX) ?takeRg2
  case takeYg2 => (intro w9 hSw; obtain ⟨x0, x1, x2, x3, x4, x5, x6, x7, x8⟩ := hSw; go_simp; try (with_reducible rfl))
  simp only [Act.put, List.setIfInBounds_toArray, List.set_cons_zero, List.set_cons_succ, List.getElem_toArray, List.getElem_cons_zero, List.getElem_cons_succ]
  refine wpAnyH_take (i := 2) (v := ?_) rfl (by kernel_rfl) (by kernel_rfl) (by kernel_rfl) (fun _ _ _ h => h) (Or.inl ⟨by rfl, ?takeYg3⟩) (NSL.out w1.drew BX) ?takeRg3
  case takeYg3 => (intro w9 hSw; obtain ⟨x0, x1, x2, x3, x4, x5, x6, x7, x8⟩ := hSw; go_simp; try (with_reducible rfl))
  simp only [Act.put, List.setIfInBounds_toArray, List.set_cons_zero, List.set_cons_succ, List.getElem_toArray, List.getElem_cons_zero, List.getElem_cons_succ]
  refine wpAnyH_take (i := 3) (v := ?_) rfl (by kernel_rfl) (by kernel_rfl) (by kernel_rfl) (fun _ _ _ h => h) (Or.inl ⟨by rfl, ?takeYg4⟩) (NSL.out w1.drew BX) ?takeRg4
  case takeYg4 => (intro w9 hSw; obtain ⟨x0, x1, x2, x3, x4, x5, x6, x7, x8⟩ := hSw; go_simp; try (with_reducible rfl))
  simp only [Act.put, List.setIfInBounds_toArray, List.set_cons_zero, List.set_cons_succ, List.getElem_toArray, List.getElem_cons_zero, List.getElem_cons_succ]
  refine wpAnyH_take (i := 4) (v := ?_) rfl (by kernel_rfl) (by kernel_rfl) (by kernel_rfl) (fun _ _ _ h => h) (Or.inl ⟨by rfl, ?takeYg5⟩) (NSL.out w1.drew BX) ?takeRg5
  case takeYg5 => (intro w9 hSw; obtain ⟨x0, x1, x2, x3, x4, x5, x6, x7, x8⟩ := hSw; go_simp; try (with_reducible rfl))
  simp only [Act.put, List.setIfInBounds_toArray, List.set_cons_zero, List.set_cons_succ, List.getElem_toArray, List.getElem_cons_zero, List.getElem_cons_succ]
  refine wpAnyH_take (i := 5) (v := ?_) rfl (by kernel_rfl) (by kernel_rfl) (by kernel_rfl) (fun _ _ _ h => h) (Or.inl ⟨by rfl, ?takeYg6⟩) (NSL.out w1.drew BX) ?takeRg6
  case takeYg6 => (intro w9 hSw; obtain ⟨x0, x1, x2, x3, x4, x5, x6, x7, x8⟩ := hSw; go_simp; try (with_reducible rfl))
  simp only [Act.put, List.setIfInBounds_toArray, List.set_cons_zero, List.set_cons_succ, List.getElem_toArray, List.getElem_cons_zero, List.getElem_cons_succ]
  refine wpAnyH_take (i := 7) (v := ?_) rfl (by kernel_rfl) (by kernel_rfl) (by kernel_rfl) (fun _ _ _ h => h) (Or.inl ⟨by rfl, ?takeYg7⟩) (NSL.out w1.drew BX) ?takeRg7
  case takeYg7 => (intro w9 hSw; obtain ⟨x0, x1, x2, x3, x4, x5, x6, x7, x8⟩ := hSw; go_simp; try (with_reducible rfl))
  simp only [Act.put, List.setIfInBounds_toArray, List.set_cons_zero, List.set_cons_succ, List.getElem_toArray, List.getElem_cons_zero, List.getElem_cons_succ]
  refine wpAnyH_take (i := 8) (v := ?_) rfl (by kernel_rfl) (by kernel_rfl) (by kernel_rfl) (fun _ _ _ h => h) (Or.inl ⟨by rfl, ?takeYg8⟩) (NSL.out w1.drew BX) ?takeRg8
  case takeYg8 => (intro w9 hSw; obtain ⟨x0, x1, x2, x3, x4, x5, x6, x7, x8⟩ := hSw; go_simp; try (with_reducible rfl))
  simp only [Act.put, List.setIfInBounds_toArray, List.set_cons_zero, List.set_cons_succ, List.getElem_toArray, List.getElem_cons_zero, List.getElem_cons_succ]
  refine wpAnyH_take (i := 9) (v := ?_) rfl (by kernel_rfl) (by kernel_rfl) (by kernel_rfl) (fun _ _ _ h => h) (Or.inl ⟨by rfl, ?takeYg9⟩) (NSL.out w1.drew BX) ?takeRg9
  case takeYg9 => (intro w9 hSw; obtain ⟨x0, x1, x2, x3, x4, x5, x6, x7, x8⟩ := hSw; go_simp; try (with_reducible rfl))
  simp only [Act.put, List.setIfInBounds_toArray, List.set_cons_zero, List.set_cons_succ, List.getElem_toArray, List.getElem_cons_zero, List.getElem_cons_succ]
  refine wpAnyH_take (i := 11) (v := ?_) rfl (by kernel_rfl) (by kernel_rfl) (by kernel_rfl) (fun _ _ _ h => h) (Or.inl ⟨by rfl, ?takeYg10⟩) (NSL.out w1.drew BX) ?takeRg10
  case takeYg10 => (intro w9 hSw; obtain ⟨x0, x1, x2, x3, x4, x5, x6, x7, x8⟩ := hSw; go_simp; try (with_reducible rfl))
  simp only [Act.put, List.setIfInBounds_toArray, List.set_cons_zero, List.set_cons_succ, List.getElem_toArray, List.getElem_cons_zero, List.getElem_cons_succ]
  refine wpAnyH_take (i := 12) (v := ?_) rfl (by kernel_rfl) (by kernel_rfl) (by kernel_rfl) (fun _ _ _ h => h) (Or.inl ⟨by rfl, ?takeYg11⟩) (NSL.out w1.drew BX) ?takeRg11
  case takeYg11 => (intro w9 hSw; obtain ⟨x0, x1, x2, x3, x4, x5, x6, x7, x8⟩ := hSw; go_simp; try (with_reducible rfl))
  simp only [Act.put, List.setIfInBounds_toArray, List.set_cons_zero, List.set_cons_succ, List.getElem_toArray, List.getElem_cons_zero, List.getElem_cons_succ]
  refine wpAnyH_take (i := 13) (v := ?_) rfl (by kernel_rfl) (by kernel_rfl) (by kernel_rfl) (fun _ _ _ h => h) (Or.inl ⟨by rfl, ?takeYg12⟩) (NSL.out w1.drew BX) ?takeRg12
  case takeYg12 => (intro w9 hSw; obtain ⟨x0, x1, x2, x3, x4, x5, x6, x7, x8⟩ := hSw; go_simp; try (with_reducible rfl))
  simp only [Act.put, List.setIfInBounds_toArray, List.set_cons_zero, List.set_cons_succ, List.getElem_toArray, List.getElem_cons_zero, List.getElem_cons_succ]
  refine wpAnyH_take (i := 14) (v := ?_) rfl (by kernel_rfl) (by kernel_rfl) (by kernel_rfl) (fun _ _ _ h => h) (Or.inl ⟨by rfl, ?takeYg13⟩) (NSL.out w1.drew BX) ?takeRg13
  case takeYg13 => (intro w9 hSw; obtain ⟨x0, x1, x2, x3, x4, x5, x6, x7, x8⟩ := hSw; go_simp; try (with_reducible rfl))
  simp only [Act.put, List.setIfInBounds_toArray, List.set_cons_zero, List.set_cons_succ, List.getElem_toArray, List.getElem_cons_zero, List.getElem_cons_succ]
  refine wpAnyH_take (i := 15) (v := ?_) rfl (by kernel_rfl) (by kernel_rfl) (by kernel_rfl) (fun _ _ _ h => h) (Or.inl ⟨by rfl, ?takeYg14⟩) (NSL.out w1.drew BX) ?takeRg14
  case takeYg14 => (intro w9 hSw; obtain ⟨x0, x1, x2, x3, x4, x5, x6, x7, x8⟩ := hSw; go_simp; try (with_reducible rfl))
  simp only [Act.put, List.setIfInBounds_toArray, List.set_cons_zero, List.set_cons_succ, List.getElem_toArray, List.getElem_cons_zero, List.getElem_cons_succ]
  refine wpAnyH_take (i := 16) (v := ?_) rfl (by kernel_rfl) (by kernel_rfl) (by kernel_rfl) (fun _ _ _ h => h) (Or.inl ⟨by rfl, ?takeYg15⟩) (NSL.out w1.drew BX) ?takeRg15
  case takeYg15 => (intro w9 hSw; obtain ⟨x0, x1, x2, x3, x4, x5, x6, x7, x8⟩ := hSw; go_simp; try (with_reducible rfl))
  simp only [Act.put, List.setIfInBounds_toArray, List.set_cons_zero, List.set_cons_succ, List.getElem_toArray, List.getElem_cons_zero, List.getElem_cons_succ]
  refine wpAnyH_take (i := 17) (v := ?_) rfl (by kernel_rfl) (by kernel_rfl) (by kernel_rfl) (fun _ _ _ h => h) (Or.inl ⟨by rfl, ?takeYg16⟩) (NSL.out w1.drew BX) ?takeRg16
  case takeYg16 => (intro w9 hSw; obtain ⟨x0, x1, x2, x3, x4, x5, x6, x7, x8⟩ := hSw; go_simp; try (with_reducible rfl))
  simp only [Act.put, List.setIfInBounds_toArray, List.set_cons_zero, List.set_cons_succ, List.getElem_toArray, List.getElem_cons_zero, List.getElem_cons_succ]
  refine wpAnyH_take (i := 18) (v := ?_) rfl (by kernel_rfl) (by kernel_rfl) (by kernel_rfl) (fun _ _ _ h => h) (Or.inl ⟨by rfl, ?takeYg17⟩) (NSL.out w1.drew BX) ?takeRg17
  case takeYg17 => (intro w9 hSw; obtain ⟨x0, x1, x2, x3, x4, x5, x6, x7, x8⟩ := hSw; go_simp; try (with_reducible rfl))
  simp only [Act.put, List.setIfInBounds_toArray, List.set_cons_zero, List.set_cons_succ, List.getElem_toArray, List.getElem_cons_zero, List.getElem_cons_succ]
  refine wpAnyH_take (i := 19) (v := ?_) rfl (by kernel_rfl) (by kernel_rfl) (by kernel_rfl) (fun _ _ _ h => h) (Or.inl ⟨by rfl, ?takeYg18⟩) (NSL.out w1.drew BX) ?takeRg18
  case takeYg18 => (intro w9 hSw; obtain ⟨x0, x1, x2, x3, x4, x5, x6, x7, x8⟩ := hSw; go_simp; try (with_reducible rfl))
  simp only [Act.put, List.setIfInBounds_toArray, List.set_cons_zero, List.set_cons_succ, List.getElem_toArray, List.getElem_cons_zero, List.getElem_cons_succ]
  refine wpAnyH_take (i := 20) (v := ?_) rfl (by kernel_rfl) (by kernel_rfl) (by kernel_rfl) (fun _ _ _ h => h) (Or.inl ⟨by rfl, ?takeYg19⟩) (NSL.out w1.drew BX) ?takeRg19
  case takeYg19 => (intro w9 hSw; obtain ⟨x0, x1, x2, x3, x4, x5, x6, x7, x8⟩ := hSw; go_simp; try (with_reducible rfl))
  simp only [Act.put, List.setIfInBounds_toArray, List.set_cons_zero, List.set_cons_succ, List.getElem_toArray, List.getElem_cons_zero, List.getElem_cons_succ]
  refine wpAnyH_take (i := 21) (v := ?_) rfl (by kernel_rfl) (by kernel_rfl) (by kernel_rfl) (fun _ _ _ h => h) (Or.inl ⟨by rfl, ?takeYg20⟩) (NSL.out w1.drew BX) ?takeRg20
  case takeYg20 => (intro w9 hSw; obtain ⟨x0, x1, x2, x3, x4, x5, x6, x7, x8⟩ := hSw; go_simp; try (with_reducible rfl))
  simp only [Act.put, List.setIfInBounds_toArray, List.set_cons_zero, List.set_cons_succ, List.getElem_toArray, List.getElem_cons_zero, List.getElem_cons_succ]
  refine wpAnyH_take (i := 22) (v := ?_) rfl (by kernel_rfl) (by kernel_rfl) (by kernel_rfl) (fun _ _ _ h => h) (Or.inl ⟨by rfl, ?takeYg21⟩) (NSL.out w1.drew BX) ?takeRg21
  case takeYg21 => (intro w9 hSw; obtain ⟨x0, x1, x2, x3, x4, x5, x6, x7, x8⟩ := hSw; go_simp; try (with_reducible rfl))
  simp only [Act.put, List.setIfInBounds_toArray, List.set_cons_zero, List.set_cons_succ, List.getElem_toArray, List.getElem_cons_zero, List.getElem_cons_succ]
  refine wpAnyH_take (i := 23) (v := ?_) rfl (by kernel_rfl) (by kernel_rfl) (by kernel_rfl) (fun _ _ _ h => h) (Or.inl ⟨by rfl, ?takeYg22⟩) (NSL.out w1.drew BX) ?takeRg22
  case takeYg22 => (intro w9 hSw; obtain ⟨x0, x1, x2, x3, x4, x5, x6, x7, x8⟩ := hSw; go_simp; try (with_reducible rfl))
  simp only [Act.put, List.setIfInBounds_toArray, List.set_cons_zero, List.set_cons_succ, List.getElem_toArray, List.getElem_cons_zero, List.getElem_cons_succ]
  refine wpAnyH_take (i := 24) (v := ?_) rfl (by kernel_rfl) (by kernel_rfl) (by kernel_rfl) (fun _ _ _ h => h) (Or.inl ⟨by rfl, ?takeYg23⟩) (NSL.out w1.drew BX) ?takeRg23
  case takeYg23 => (intro w9 hSw; obtain ⟨x0, x1, x2, x3, x4, x5, x6, x7, x8⟩ := hSw; go_simp; try (with_reducible rfl))
  simp only [Act.put, List.setIfInBounds_toArray, List.set_cons_zero, List.set_cons_succ, List.getElem_toArray, List.getElem_cons_zero, List.getElem_cons_succ]
  refine wpAnyH_take (i := 25) (v := ?_) rfl (by kernel_rfl) (by kernel_rfl) (by kernel_rfl) (fun _ _ _ h => h) (Or.inl ⟨by rfl, ?takeYg24⟩) (NSL.out w1.drew BX) ?takeRg24
  case takeYg24 => (intro w9 hSw; obtain ⟨x0, x1, x2, x3, x4, x5, x6, x7, x8⟩ := hSw; go_simp; try (with_reducible rfl))
  simp only [Act.put, List.setIfInBounds_toArray, List.set_cons_zero, List.set_cons_succ, List.getElem_toArray, List.getElem_cons_zero, List.getElem_cons_succ]
  refine wpAnyH_take (i := 26) (v := ?_) rfl (by kernel_rfl) (by kernel_rfl) (by kernel_rfl) (fun _ _ _ h => h) (Or.inl ⟨by rfl, ?takeYg25⟩) (NSL.out w1.drew BX) ?takeRg25
  case takeYg25 => (intro w9 hSw; obtain ⟨x0, x1, x2, x3, x4, x5, x6, x7, x8⟩ := hSw; go_simp; try (with_reducible rfl))
  simp only [Act.put, List.setIfInBounds_toArray, List.set_cons_zero, List.set_cons_succ, List.getElem_toArray, List.getElem_cons_zero, List.getElem_cons_succ]
  refine wpAnyH_take (i := 27) (v := ?_) rfl (by kernel_rfl) (by kernel_rfl) (by kernel_rfl) (fun _ _ _ h => h) (Or.inl ⟨by rfl, ?takeYg26⟩) (NSL.out w1.drew BX) ?takeRg26
  case takeYg26 => (intro w9 hSw; obtain ⟨x0, x1, x2, x3, x4, x5, x6, x7, x8⟩ := hSw; go_simp; try (with_reducible rfl))
  simp only [Act.put, List.setIfInBounds_toArray, List.set_cons_zero, List.set_cons_succ, List.getElem_toArray, List.getElem_cons_zero, List.getElem_cons_succ]
  refine wpAnyH_take (i := 28) (v := ?_) rfl (by kernel_rfl) (by kernel_rfl) (by kernel_rfl) (fun _ _ _ h => h) (Or.inl ⟨by rfl, ?takeYg27⟩) (NSL.out w1.drew BX) ?takeRg27
  case takeYg27 => (intro w9 hSw; obtain ⟨x0, x1, x2, x3, x4, x5, x6, x7, x8⟩ := hSw; go_simp; try (with_reducible rfl))
  simp only [Act.put, List.setIfInBounds_toArray, List.set_cons_zero, List.set_cons_succ, List.getElem_toArray, List.getElem_cons_zero, List.getElem_cons_succ]
  refine wpAnyH_ready (rs := [6, 31]) (by kernel_rfl) (by simp) ?_
  refine (AllReadyH.cons rfl (fun K hK => ?_) (AllReadyH.cons rfl (fun K hK => ?_) AllReadyH.nil))
  · skip
    go_simp
    refine (cA w1.drew (LATER.out w1.drew (b1.trans (BX.mono z1))).2.2).mono ?_
    rintro e X1 ⟨rfl, p9⟩
    have BX1 : RowKit.Below w1.heap.size w1 X1 := BX.trans (p9.mono BX.size)
    have zX1 := BX.size
    clear p9
    go_wp2_with fail
    refine hK.out _ _ (NSL.out X1 BX1) (fun _ => ?_)
    clear hK K
    try simp only [Act.put, List.setIfInBounds_toArray, List.set_cons_zero, List.set_cons_succ, List.getElem_toArray, List.getElem_cons_zero, List.getElem_cons_succ]
    refine wpAnyH_ready (rs := [10, 31]) (by kernel_rfl) (by simp) ?_
    refine (AllReadyH.cons rfl (fun K hK => ?_) (AllReadyH.cons rfl (fun K hK => ?_) AllReadyH.nil))
    · skip
      go_simp
      refine (cB X1 (LATER.out X1 (b1.trans (BX1.mono z1))).2.2).mono ?_
      rintro e X2 ⟨rfl, p9⟩
      have BX2 : RowKit.Below w1.heap.size w1 X2 := BX1.trans (p9.mono BX1.size)
      have zX2 := BX1.size
      clear p9
      go_wp2_with fail
      refine hK.out _ _ (NSL.out X2 BX2) (fun _ => ?_)
      clear hK K
      try simp only [Act.put, List.setIfInBounds_toArray, List.set_cons_zero, List.set_cons_succ, List.getElem_toArray, List.getElem_cons_zero, List.getElem_cons_succ]
      refine wpAnyH_ready (rs := [29, 31]) (by kernel_rfl) (by simp) ?_
      refine (AllReadyH.cons rfl (fun K hK => ?_) (AllReadyH.cons rfl (fun K hK => ?_) AllReadyH.nil))
      · skip
        go_simp
        refine (cC X2 (LATER.out X2 (b1.trans (BX2.mono z1))).2.2).mono ?_
        rintro e X3 ⟨rfl, p9⟩
        have BX3 : RowKit.Below w1.heap.size w1 X3 := BX2.trans (p9.mono BX2.size)
        have zX3 := BX2.size
        clear p9
        go_wp2_with fail
        refine hK.out _ _ (NSL.out X3 BX3) (fun _ => ?_)
        clear hK K
        try simp only [Act.put, List.setIfInBounds_toArray, List.set_cons_zero, List.set_cons_succ, List.getElem_toArray, List.getElem_cons_zero, List.getElem_cons_succ]
        refine wpAnyH_take (i := 30) (v := ?_) rfl (by kernel_rfl) (by kernel_rfl) (by kernel_rfl) (fun _ _ _ h => h) (Or.inl ⟨by rfl, ?takeYg28⟩) (NSL.out X3 BX3) ?takeRg28
        case takeYg28 => (intro w9 hSw; obtain ⟨x0, x1, x2, x3, x4, x5, x6, x7, x8⟩ := hSw; go_simp; try (with_reducible rfl))
        simp only [Act.put, List.setIfInBounds_toArray, List.set_cons_zero, List.set_cons_succ, List.getElem_toArray, List.getElem_cons_zero, List.getElem_cons_succ]
        refine wpAnyH_ready (rs := [31]) (by kernel_rfl) (by simp) ?_
        refine AllReadyH.cons rfl (fun K hK => ?_) AllReadyH.nil
        go_simp
        obtain ⟨V, hV⟩ : ∃ V, X3.alloc (.cells #[.string ⟨#[]⟩, .int .i64 0, .int .i64 0, .string ⟨#[]⟩, .string ⟨#[]⟩, .string ⟨#[]⟩, .string ⟨#[]⟩, .string ⟨#[]⟩, .int .i64 0] 23) = V := ⟨_, rfl⟩
        have BV : RowKit.Below w1.heap.size w1 V := by rw [← hV]; exact BX3.alloc BX3.size (.cells #[.string ⟨#[]⟩, .int .i64 0, .int .i64 0, .string ⟨#[]⟩, .string ⟨#[]⟩, .string ⟨#[]⟩, .string ⟨#[]⟩, .string ⟨#[]⟩, .int .i64 0] 23)
        have eV : V.heap[X3.heap.size]? = some (.cells #[.string ⟨#[]⟩, .int .i64 0, .int .i64 0, .string ⟨#[]⟩, .string ⟨#[]⟩, .string ⟨#[]⟩, .string ⟨#[]⟩, .string ⟨#[]⟩, .int .i64 0] 23 (0, 0)) := by rw [← hV]; exact World.alloc_heap_new X3 _
        have zE := BX3.size
        rw [hV]
        clear hV
        refine hK.out _ _ (NSL.out V BV) (fun _ => ?_)
        clear hK K
        try simp only [Act.put, List.setIfInBounds_toArray, List.set_cons_zero, List.set_cons_succ, List.getElem_toArray, List.getElem_cons_zero, List.getElem_cons_succ]
        refine wpAnyH_ready (rs := [32]) (by kernel_rfl) (by simp) ?_
        refine AllReadyH.cons rfl (fun K hK => ?_) AllReadyH.nil
        obtain ⟨q0, q1, q2, q3, q4, q5, q6, q7, q8⟩ := nine_cells eV
        have fz9 : ∀ j, V.frozen? ⟨X3.heap.size, j, none⟩ = false := fun j => by simp [World.frozen?, eV]
        go_simp
        obtain ⟨W3, hW3⟩ : ∃ W3, nineW V (X3.heap.size) r' qa kb u' n' t' i' f' mc = W3 := ⟨_, rfl⟩
        have b9 : RowKit.Below w1.heap.size w1 W3 := by rw [← hW3]; exact nineW_below BV (by omega) _ _ _ _ _ _ _ _ _
        have h3 : W3.heap[X3.heap.size]? = some (.cells #[.string r', .int .i64 qa, .int .i64 kb, .string u', .string n', .string t', .string i', .string f', .int .i64 mc] 23 (0, 0)) := by rw [← hW3]; exact nineW_heap eV _ _ _ _ _ _ _ _ _
        unfold nineW at hW3
        rw [hW3]
        refine hK.out _ _ (NSL.out W3 b9) (fun _ => ?_)
        clear hK K
        try simp only [Act.put, List.setIfInBounds_toArray, List.set_cons_zero, List.set_cons_succ, List.getElem_toArray, List.getElem_cons_zero, List.getElem_cons_succ]
        refine wpAnyH_done (by kernel_rfl) ?_ _
        exact TAIL.out (X3.heap.size) W3 _ _ _ _ _ _ _ _ _ _ _ _ _ _ _ _ _ _ _ _ _ _ _ _ _ _ _ _ _ _ _ _ _ _ _ _ _ (b1.trans (b9.mono z1)) h3
      · skip
        go_simp
        obtain ⟨V, hV⟩ : ∃ V, X2.alloc (.cells #[.string ⟨#[]⟩, .int .i64 0, .int .i64 0, .string ⟨#[]⟩, .string ⟨#[]⟩, .string ⟨#[]⟩, .string ⟨#[]⟩, .string ⟨#[]⟩, .int .i64 0] 23) = V := ⟨_, rfl⟩
        have BV : RowKit.Below w1.heap.size w1 V := by rw [← hV]; exact BX2.alloc BX2.size (.cells #[.string ⟨#[]⟩, .int .i64 0, .int .i64 0, .string ⟨#[]⟩, .string ⟨#[]⟩, .string ⟨#[]⟩, .string ⟨#[]⟩, .string ⟨#[]⟩, .int .i64 0] 23)
        have eV : V.heap[X2.heap.size]? = some (.cells #[.string ⟨#[]⟩, .int .i64 0, .int .i64 0, .string ⟨#[]⟩, .string ⟨#[]⟩, .string ⟨#[]⟩, .string ⟨#[]⟩, .string ⟨#[]⟩, .int .i64 0] 23 (0, 0)) := by rw [← hV]; exact World.alloc_heap_new X2 _
        have zE := BX2.size
        rw [hV]
        clear hV
        refine hK.out _ _ (NSL.out V BV) (fun _ => ?_)
        clear hK K
        try simp only [Act.put, List.setIfInBounds_toArray, List.set_cons_zero, List.set_cons_succ, List.getElem_toArray, List.getElem_cons_zero, List.getElem_cons_succ]
        refine wpAnyH_ready (rs := [29]) (by kernel_rfl) (by simp) ?_
        refine AllReadyH.cons rfl (fun K hK => ?_) AllReadyH.nil
        go_simp
        refine (cC V (LATER.out V (b1.trans (BV.mono z1))).2.2).mono ?_
        rintro e X3 ⟨rfl, p9⟩
        have BX3 : RowKit.Below w1.heap.size w1 X3 := BV.trans (p9.mono BV.size)
        have zX3 := BV.size
        have eX3 := (p9.block (X2.heap.size) (World.block_lt_of_cell? _ _ (nine_cells eV).1)).trans eV
        clear p9
        go_wp2_with fail
        refine hK.out _ _ (NSL.out X3 BX3) (fun _ => ?_)
        clear hK K
        try simp only [Act.put, List.setIfInBounds_toArray, List.set_cons_zero, List.set_cons_succ, List.getElem_toArray, List.getElem_cons_zero, List.getElem_cons_succ]
        refine wpAnyH_take (i := 30) (v := ?_) rfl (by kernel_rfl) (by kernel_rfl) (by kernel_rfl) (fun _ _ _ h => h) (Or.inl ⟨by rfl, ?takeYg29⟩) (NSL.out X3 BX3) ?takeRg29
        case takeYg29 => (intro w9 hSw; obtain ⟨x0, x1, x2, x3, x4, x5, x6, x7, x8⟩ := hSw; go_simp; try (with_reducible rfl))
        simp only [Act.put, List.setIfInBounds_toArray, List.set_cons_zero, List.set_cons_succ, List.getElem_toArray, List.getElem_cons_zero, List.getElem_cons_succ]
        refine wpAnyH_ready (rs := [32]) (by kernel_rfl) (by simp) ?_
        refine AllReadyH.cons rfl (fun K hK => ?_) AllReadyH.nil
        obtain ⟨q0, q1, q2, q3, q4, q5, q6, q7, q8⟩ := nine_cells eX3
        have fz9 : ∀ j, X3.frozen? ⟨X2.heap.size, j, none⟩ = false := fun j => by simp [World.frozen?, eX3]
        go_simp
        obtain ⟨W3, hW3⟩ : ∃ W3, nineW X3 (X2.heap.size) r' qa kb u' n' t' i' f' mc = W3 := ⟨_, rfl⟩
        have b9 : RowKit.Below w1.heap.size w1 W3 := by rw [← hW3]; exact nineW_below BX3 (by omega) _ _ _ _ _ _ _ _ _
        have h3 : W3.heap[X2.heap.size]? = some (.cells #[.string r', .int .i64 qa, .int .i64 kb, .string u', .string n', .string t', .string i', .string f', .int .i64 mc] 23 (0, 0)) := by rw [← hW3]; exact nineW_heap eX3 _ _ _ _ _ _ _ _ _
        unfold nineW at hW3
        rw [hW3]
        refine hK.out _ _ (NSL.out W3 b9) (fun _ => ?_)
        clear hK K
        try simp only [Act.put, List.setIfInBounds_toArray, List.set_cons_zero, List.set_cons_succ, List.getElem_toArray, List.getElem_cons_zero, List.getElem_cons_succ]
        refine wpAnyH_done (by kernel_rfl) ?_ _
        exact TAIL.out (X2.heap.size) W3 _ _ _ _ _ _ _ _ _ _ _ _ _ _ _ _ _ _ _ _ _ _ _ _ _ _ _ _ _ _ _ _ _ _ _ _ _ (b1.trans (b9.mono z1)) h3
    · skip
      go_simp
      obtain ⟨V, hV⟩ : ∃ V, X1.alloc (.cells #[.string ⟨#[]⟩, .int .i64 0, .int .i64 0, .string ⟨#[]⟩, .string ⟨#[]⟩, .string ⟨#[]⟩, .string ⟨#[]⟩, .string ⟨#[]⟩, .int .i64 0] 23) = V := ⟨_, rfl⟩
      have BV : RowKit.Below w1.heap.size w1 V := by rw [← hV]; exact BX1.alloc BX1.size (.cells #[.string ⟨#[]⟩, .int .i64 0, .int .i64 0, .string ⟨#[]⟩, .string ⟨#[]⟩, .string ⟨#[]⟩, .string ⟨#[]⟩, .string ⟨#[]⟩, .int .i64 0] 23)
      have eV : V.heap[X1.heap.size]? = some (.cells #[.string ⟨#[]⟩, .int .i64 0, .int .i64 0, .string ⟨#[]⟩, .string ⟨#[]⟩, .string ⟨#[]⟩, .string ⟨#[]⟩, .string ⟨#[]⟩, .int .i64 0] 23 (0, 0)) := by rw [← hV]; exact World.alloc_heap_new X1 _
      have zE := BX1.size
      rw [hV]
      clear hV
      refine hK.out _ _ (NSL.out V BV) (fun _ => ?_)
      clear hK K
      try simp only [Act.put, List.setIfInBounds_toArray, List.set_cons_zero, List.set_cons_succ, List.getElem_toArray, List.getElem_cons_zero, List.getElem_cons_succ]
      refine wpAnyH_ready (rs := [10]) (by kernel_rfl) (by simp) ?_
      refine AllReadyH.cons rfl (fun K hK => ?_) AllReadyH.nil
      go_simp
      refine (cB V (LATER.out V (b1.trans (BV.mono z1))).2.2).mono ?_
      rintro e X2 ⟨rfl, p9⟩
      have BX2 : RowKit.Below w1.heap.size w1 X2 := BV.trans (p9.mono BV.size)
      have zX2 := BV.size
      have eX2 := (p9.block (X1.heap.size) (World.block_lt_of_cell? _ _ (nine_cells eV).1)).trans eV
      clear p9
      go_wp2_with fail
      refine hK.out _ _ (NSL.out X2 BX2) (fun _ => ?_)
      clear hK K
      try simp only [Act.put, List.setIfInBounds_toArray, List.set_cons_zero, List.set_cons_succ, List.getElem_toArray, List.getElem_cons_zero, List.getElem_cons_succ]
      refine wpAnyH_ready (rs := [29]) (by kernel_rfl) (by simp) ?_
      refine AllReadyH.cons rfl (fun K hK => ?_) AllReadyH.nil
      go_simp
      refine (cC X2 (LATER.out X2 (b1.trans (BX2.mono z1))).2.2).mono ?_
      rintro e X3 ⟨rfl, p9⟩
      have BX3 : RowKit.Below w1.heap.size w1 X3 := BX2.trans (p9.mono BX2.size)
      have zX3 := BX2.size
      have eX3 := (p9.block (X1.heap.size) (World.block_lt_of_cell? _ _ (nine_cells eX2).1)).trans eX2
      clear p9
      go_wp2_with fail
      refine hK.out _ _ (NSL.out X3 BX3) (fun _ => ?_)
      clear hK K
      try simp only [Act.put, List.setIfInBounds_toArray, List.set_cons_zero, List.set_cons_succ, List.getElem_toArray, List.getElem_cons_zero, List.getElem_cons_succ]
      refine wpAnyH_take (i := 30) (v := ?_) rfl (by kernel_rfl) (by kernel_rfl) (by kernel_rfl) (fun _ _ _ h => h) (Or.inl ⟨by rfl, ?takeYg30⟩) (NSL.out X3 BX3) ?takeRg30
      case takeYg30 => (intro w9 hSw; obtain ⟨x0, x1, x2, x3, x4, x5, x6, x7, x8⟩ := hSw; go_simp; try (with_reducible rfl))
      simp only [Act.put, List.setIfInBounds_toArray, List.set_cons_zero, List.set_cons_succ, List.getElem_toArray, List.getElem_cons_zero, List.getElem_cons_succ]
      refine wpAnyH_ready (rs := [32]) (by kernel_rfl) (by simp) ?_
      refine AllReadyH.cons rfl (fun K hK => ?_) AllReadyH.nil
      obtain ⟨q0, q1, q2, q3, q4, q5, q6, q7, q8⟩ := nine_cells eX3
      have fz9 : ∀ j, X3.frozen? ⟨X1.heap.size, j, none⟩ = false := fun j => by simp [World.frozen?, eX3]
      go_simp
      obtain ⟨W3, hW3⟩ : ∃ W3, nineW X3 (X1.heap.size) r' qa kb u' n' t' i' f' mc = W3 := ⟨_, rfl⟩
      have b9 : RowKit.Below w1.heap.size w1 W3 := by rw [← hW3]; exact nineW_below BX3 (by omega) _ _ _ _ _ _ _ _ _
      have h3 : W3.heap[X1.heap.size]? = some (.cells #[.string r', .int .i64 qa, .int .i64 kb, .string u', .string n', .string t', .string i', .string f', .int .i64 mc] 23 (0, 0)) := by rw [← hW3]; exact nineW_heap eX3 _ _ _ _ _ _ _ _ _
      unfold nineW at hW3
      rw [hW3]
      refine hK.out _ _ (NSL.out W3 b9) (fun _ => ?_)
      clear hK K
      try simp only [Act.put, List.setIfInBounds_toArray, List.set_cons_zero, List.set_cons_succ, List.getElem_toArray, List.getElem_cons_zero, List.getElem_cons_succ]
      refine wpAnyH_done (by kernel_rfl) ?_ _
      exact TAIL.out (X1.heap.size) W3 _ _ _ _ _ _ _ _ _ _ _ _ _ _ _ _ _ _ _ _ _ _ _ _ _ _ _ _ _ _ _ _ _ _ _ _ _ (b1.trans (b9.mono z1)) h3
  · skip
    go_simp
    obtain ⟨V, hV⟩ : ∃ V, (w1.alloc (.cells #[.string ⟨#[]⟩, .int .i64 0, .int .i64 0, .string ⟨#[]⟩, .string ⟨#[]⟩, .string ⟨#[]⟩, .string ⟨#[]⟩, .string ⟨#[]⟩, .int .i64 0] 23)).drew = V := ⟨_, rfl⟩
    have BV : RowKit.Below w1.heap.size w1 V := by rw [← hV]; exact BX.alloc BX.size (.cells #[.string ⟨#[]⟩, .int .i64 0, .int .i64 0, .string ⟨#[]⟩, .string ⟨#[]⟩, .string ⟨#[]⟩, .string ⟨#[]⟩, .string ⟨#[]⟩, .int .i64 0] 23)
    have eV : V.heap[w1.heap.size]? = some (.cells #[.string ⟨#[]⟩, .int .i64 0, .int .i64 0, .string ⟨#[]⟩, .string ⟨#[]⟩, .string ⟨#[]⟩, .string ⟨#[]⟩, .string ⟨#[]⟩, .int .i64 0] 23 (0, 0)) := by rw [← hV]; exact new_heap w1 _
    have zE := BX.size
    rw [hV]
    clear hV
    refine hK.out _ _ (NSL.out V BV) (fun _ => ?_)
    clear hK K
    try simp only [Act.put, List.setIfInBounds_toArray, List.set_cons_zero, List.set_cons_succ, List.getElem_toArray, List.getElem_cons_zero, List.getElem_cons_succ]
    refine wpAnyH_ready (rs := [6]) (by kernel_rfl) (by simp) ?_
    refine AllReadyH.cons rfl (fun K hK => ?_) AllReadyH.nil
    go_simp
    refine (cA V (LATER.out V (b1.trans (BV.mono z1))).2.2).mono ?_
    rintro e X1 ⟨rfl, p9⟩
    have BX1 : RowKit.Below w1.heap.size w1 X1 := BV.trans (p9.mono BV.size)
    have zX1 := BV.size
    have eX1 := (p9.block (w1.heap.size) (World.block_lt_of_cell? _ _ (nine_cells eV).1)).trans eV
    clear p9
    go_wp2_with fail
    refine hK.out _ _ (NSL.out X1 BX1) (fun _ => ?_)
    clear hK K
    try simp only [Act.put, List.setIfInBounds_toArray, List.set_cons_zero, List.set_cons_succ, List.getElem_toArray, List.getElem_cons_zero, List.getElem_cons_succ]
    refine wpAnyH_ready (rs := [10]) (by kernel_rfl) (by simp) ?_
    refine AllReadyH.cons rfl (fun K hK => ?_) AllReadyH.nil
    go_simp
    refine (cB X1 (LATER.out X1 (b1.trans (BX1.mono z1))).2.2).mono ?_
    rintro e X2 ⟨rfl, p9⟩
    have BX2 : RowKit.Below w1.heap.size w1 X2 := BX1.trans (p9.mono BX1.size)
    have zX2 := BX1.size
    have eX2 := (p9.block (w1.heap.size) (World.block_lt_of_cell? _ _ (nine_cells eX1).1)).trans eX1
    clear p9
    go_wp2_with fail
    refine hK.out _ _ (NSL.out X2 BX2) (fun _ => ?_)
    clear hK K
    try simp only [Act.put, List.setIfInBounds_toArray, List.set_cons_zero, List.set_cons_succ, List.getElem_toArray, List.getElem_cons_zero, List.getElem_cons_succ]
    refine wpAnyH_ready (rs := [29]) (by kernel_rfl) (by simp) ?_
    refine AllReadyH.cons rfl (fun K hK => ?_) AllReadyH.nil
    go_simp
    refine (cC X2 (LATER.out X2 (b1.trans (BX2.mono z1))).2.2).mono ?_
    rintro e X3 ⟨rfl, p9⟩
    have BX3 : RowKit.Below w1.heap.size w1 X3 := BX2.trans (p9.mono BX2.size)
    have zX3 := BX2.size
    have eX3 := (p9.block (w1.heap.size) (World.block_lt_of_cell? _ _ (nine_cells eX2).1)).trans eX2
    clear p9
    go_wp2_with fail
    refine hK.out _ _ (NSL.out X3 BX3) (fun _ => ?_)
    clear hK K
    try simp only [Act.put, List.setIfInBounds_toArray, List.set_cons_zero, List.set_cons_succ, List.getElem_toArray, List.getElem_cons_zero, List.getElem_cons_succ]
    refine wpAnyH_take (i := 30) (v := ?_) rfl (by kernel_rfl) (by kernel_rfl) (by kernel_rfl) (fun _ _ _ h => h) (Or.inl ⟨by rfl, ?takeYg31⟩) (NSL.out X3 BX3) ?takeRg31
    case takeYg31 => (intro w9 hSw; obtain ⟨x0, x1, x2, x3, x4, x5, x6, x7, x8⟩ := hSw; go_simp; try (with_reducible rfl))
    simp only [Act.put, List.setIfInBounds_toArray, List.set_cons_zero, List.set_cons_succ, List.getElem_toArray, List.getElem_cons_zero, List.getElem_cons_succ]
    refine wpAnyH_ready (rs := [32]) (by kernel_rfl) (by simp) ?_
    refine AllReadyH.cons rfl (fun K hK => ?_) AllReadyH.nil
    obtain ⟨q0, q1, q2, q3, q4, q5, q6, q7, q8⟩ := nine_cells eX3
    have fz9 : ∀ j, X3.frozen? ⟨w1.heap.size, j, none⟩ = false := fun j => by simp [World.frozen?, eX3]
    go_simp
    obtain ⟨W3, hW3⟩ : ∃ W3, nineW X3 (w1.heap.size) r' qa kb u' n' t' i' f' mc = W3 := ⟨_, rfl⟩
    have b9 : RowKit.Below w1.heap.size w1 W3 := by rw [← hW3]; exact nineW_below BX3 (by omega) _ _ _ _ _ _ _ _ _
    have h3 : W3.heap[w1.heap.size]? = some (.cells #[.string r', .int .i64 qa, .int .i64 kb, .string u', .string n', .string t', .string i', .string f', .int .i64 mc] 23 (0, 0)) := by rw [← hW3]; exact nineW_heap eX3 _ _ _ _ _ _ _ _ _
    unfold nineW at hW3
    rw [hW3]
    refine hK.out _ _ (NSL.out W3 b9) (fun _ => ?_)
    clear hK K
    try simp only [Act.put, List.setIfInBounds_toArray, List.set_cons_zero, List.set_cons_succ, List.getElem_toArray, List.getElem_cons_zero, List.getElem_cons_succ]
    refine wpAnyH_done (by kernel_rfl) ?_ _
    exact TAIL.out (w1.heap.size) W3 _ _ _ _ _ _ _ _ _ _ _ _ _ _ _ _ _ _ _ _ _ _ _ _ _ _ _ _ _ _ _ _ _ _ _ _ _ (b1.trans (b9.mono z1)) h3

set_option maxRecDepth 100000 in
set_option maxHeartbeats 4000000 in
theorem entryGet_not (s : ByteArray) (hs : s.size ≤ 1048576) (hp : (fldL [] s.data.toList).length ≠ 9) (w : World) :
    Calls Tryd.prog 5 #[.string s] w fun e w' => e = .returned (.tuple #[entV ⟨#[]⟩ 0 0 ⟨#[]⟩ ⟨#[]⟩ ⟨#[]⟩ ⟨#[]⟩ ⟨#[]⟩ 0, .bool false]) ∧ RowKit.Below w.heap.size w w' := by
  have ZERO := zero_block w
  have hF := fun W => unmarkedParts_any s hs W
  obtain ⟨m, hm⟩ : ∃ m, (fldL [] s.data.toList).length = m := ⟨_, rfl⟩
  obtain ⟨W0, hW0⟩ : ∃ W0, W0 = w.alloc (.cells #[.string ⟨#[]⟩, .int .i64 0, .int .i64 0, .string ⟨#[]⟩, .string ⟨#[]⟩, .string ⟨#[]⟩, .string ⟨#[]⟩, .string ⟨#[]⟩, .int .i64 0] 23) := ⟨_, rfl⟩
  rw [← hW0] at ZERO
  have b0 : RowKit.Below w.heap.size w W0 := by rw [hW0]; exact (Below.refl _ w).alloc (Nat.le_refl _) _
  have hF0 : Calls Tryd.prog 8 #[.string s] W0 fun e w' => ∃ g cap, e = .returned (.slice (some ⟨g, 0, none⟩) m cap) ∧ RowKit.Below W0.heap.size W0 w' := by
    refine (hF W0).mono ?_
    rintro e w' ⟨g, cap, rfl, hown, hb⟩
    exact ⟨g, cap, by rw [hm], hb⟩
  rw [hm] at hp
  have g9 : ((m : Int) == 9) = false := beq_eq_false_iff_ne.2 (by omega)
  clear hF hm
  go_enter Tryd.func5, Tryd.ntmps5
  go_wp2_with first
    | (go_at_call 8; rw [← hW0]; go_fit hF0; rintro e w5 ⟨g, cap, rfl, b5⟩; have Z5 := ZERO.out w5 b5; have ZH : Hid (w5.heap[w.heap.size]? = some (.cells #[.string ⟨#[]⟩, .int .i64 0, .int .i64 0, .string ⟨#[]⟩, .string ⟨#[]⟩, .string ⟨#[]⟩, .string ⟨#[]⟩, .string ⟨#[]⟩, .int .i64 0] 23 (0, 0))) := Z5; have BH : Hid (RowKit.Below w.heap.size w w5) := b0.trans (b5.mono b0.size); obtain ⟨z0, z1, z2, z3, z4, z5, z6, z7, z8⟩ := nine_cells Z5; have zf : ∀ j, w5.frozen? ⟨w.heap.size, j, none⟩ = false := (fun j => (by simp [World.frozen?, Z5])); clear Z5)
  obtain ⟨W9, hW9⟩ : ∃ W9, nineW w5 w.heap.size ⟨#[]⟩ 0 0 ⟨#[]⟩ ⟨#[]⟩ ⟨#[]⟩ ⟨#[]⟩ ⟨#[]⟩ 0 = W9 := ⟨_, rfl⟩
  have N9 := nine_cells (nineW_heap ZH.out ⟨#[]⟩ 0 0 ⟨#[]⟩ ⟨#[]⟩ ⟨#[]⟩ ⟨#[]⟩ ⟨#[]⟩ 0)
  have b9 : RowKit.Below w.heap.size w (nineW w5 w.heap.size ⟨#[]⟩ 0 0 ⟨#[]⟩ ⟨#[]⟩ ⟨#[]⟩ ⟨#[]⟩ ⟨#[]⟩ 0) := nineW_below BH.out (Nat.le_refl _) _ _ _ _ _ _ _ _ _
  rw [hW9] at N9 b9
  unfold nineW at hW9
  rw [hW9]
  obtain ⟨n0, n1, n2, n3, n4, n5, n6, n7, n8⟩ := N9
  exact bodyPost_ret (v := .tuple #[entV ⟨#[]⟩ 0 0 ⟨#[]⟩ ⟨#[]⟩ ⟨#[]⟩ ⟨#[]⟩ ⟨#[]⟩ 0, .bool false]) (by simp [results, Tryd.results5, go_sem, n0, n1, n2, n3, n4, n5, n6, n7, n8]) rfl ⟨rfl, b9⟩
end Go.Proofs.YtjknjlaabppooaaDoor.Hub
