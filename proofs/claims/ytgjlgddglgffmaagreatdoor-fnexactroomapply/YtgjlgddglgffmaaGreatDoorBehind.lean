/-
  impl.roomBehind: a room behind an entry that could come next.
-/
import Derived.Test.YtgjlgddglgffmaaGreatDoorRowAll
import Derived.Test.YtgjlgddglgffmaaGreatDoorAppW
import Derived.Test.YtgjlgddglgffmaaGreatDoorCopyR
namespace Go.Proofs.YtgjlgddglgffmaaGreatDoor.Hub
open Go.RowKit
set_option linter.unusedVariables false
set_option linter.unusedSimpArgs false

theorem cut_mem (p : Nat) (U N : Nat → ByteArray) (R : Nat → Int) : cutAt p (memC U N R) = memC (cutAt p U) (cutAt p N) (cutAt p R) := by
  funext j
  unfold cutAt
  show (if j < p then memC U N R j else memC U N R (j + 1)) = [Value.string (if j < p then U j else U (j + 1)), .string (if j < p then N j else N (j + 1)), .int .i64 (if j < p then R j else R (j + 1))]
  split <;> rfl
theorem roomW_away {W : World} {E : Nat} {nm sb : ByteArray} {nx : Int} {vm vk : Value} {j : Nat} (h : j ≠ E) : (roomW W E nm nx vm vk sb).heap[j]? = W.heap[j]? := by
  unfold roomW
  rw [Below.heap_setCell _ ⟨E, 4, none⟩ _ _ h, Below.heap_setCell _ ⟨E, 3, none⟩ _ _ h, Below.heap_setCell _ ⟨E, 2, none⟩ _ _ h, Below.heap_setCell _ ⟨E, 1, none⟩ _ _ h, Below.heap_setCell _ ⟨E, 0, none⟩ _ _ h]
theorem set_grown {V W : World} {b o : Nat} {v : Value} (h : V.grownBy W (some b)) : V.grownBy (W.setCell ⟨b, o, none⟩ v) (some b) := setCells_grown [v] o W V h
theorem roomW_grown {W : World} {E : Nat} {nm sb : ByteArray} {nx : Int} {vm vk : Value} : W.grownBy (roomW W E nm nx vm vk sb) (some E) := by
  unfold roomW
  exact set_grown (set_grown (set_grown (set_grown (set_grown (World.grownBy.refl W (some E))))))
theorem ninW_away {W : World} {E : Nat} {v0 v1 v2 v3 v4 v5 v6 v7 v8 : Value} {j : Nat} (h : j ≠ E) : (ninW W E v0 v1 v2 v3 v4 v5 v6 v7 v8).heap[j]? = W.heap[j]? := by
  unfold ninW
  rw [Below.heap_setCell _ ⟨E, 8, none⟩ _ _ h, Below.heap_setCell _ ⟨E, 7, none⟩ _ _ h, Below.heap_setCell _ ⟨E, 6, none⟩ _ _ h, Below.heap_setCell _ ⟨E, 5, none⟩ _ _ h, Below.heap_setCell _ ⟨E, 4, none⟩ _ _ h, Below.heap_setCell _ ⟨E, 3, none⟩ _ _ h, Below.heap_setCell _ ⟨E, 2, none⟩ _ _ h, Below.heap_setCell _ ⟨E, 1, none⟩ _ _ h, Below.heap_setCell _ ⟨E, 0, none⟩ _ _ h]
theorem ninW_grown {W : World} {E : Nat} {v0 v1 v2 v3 v4 v5 v6 v7 v8 : Value} : W.grownBy (ninW W E v0 v1 v2 v3 v4 v5 v6 v7 v8) (some E) := by
  unfold ninW
  exact set_grown (set_grown (set_grown (set_grown (set_grown (set_grown (set_grown (set_grown (set_grown (World.grownBy.refl W (some E))))))))))
theorem own_away {v : Value} {base h E : Nat} (H : ∀ q, v.ownBlock = some q → base ≤ q ∧ q < h) (hE : E < base) : v.ownBlock = none ∨ v.ownBlock ≠ some E := by
  cases hc : v.ownBlock with
  | none => exact .inl rfl
  | some q => exact .inr (fun e => by have h1 := (H q hc).1; have h2 := Option.some.inj e; omega)
theorem row_away {v : Value} {base h E : Nat} (H : ∀ q, v.ownBlock = some q → base ≤ q ∧ q < h) (hE : E < base) : some E ≠ v.ownBlock := fun e => by
  have := (H E e.symm).1
  omega
theorem apart_kept {a b : Value} (h : Apart a b) : b.ownBlock = none ∨ b.ownBlock ≠ a.ownBlock := by
  cases hc : b.ownBlock with
  | none => exact .inl rfl
  | some q => exact .inr (fun e => h q e.symm hc)

set_option maxRecDepth 100000 in
set_option maxHeartbeats 8000000 in
theorem roomBehind_any (nm sb : ByteArray) (nx : Int) (vm vk : Value) (n : Nat) (U N : Nat → ByteArray) (R : Nat → Int) (z : Nat) (KU : Nat → ByteArray) (KR : Nat → Int) (r : ByteArray) (q kd : Int) (u nk t i fr : ByteArray) (m : Int) (w : World) (hm : MemAt w vm n U N R) (hk : RankAt w vk z KU KR) (h5 : n ≤ 5) (h6 : z ≤ 6) (hA : Asc z KU) (hnx : 0 ≤ nx ∧ nx ≤ 9999) (k : Nat)
    (hkd : kd = 1 ∨ kd = 2 ∨ kd = 3 ∨ kd = 4 ∨ kd = 5 ∨ kd = 6) (hof : kd = 2 ∨ kd = 5 → k < n ∧ firstI n (fun j => (U j).toList == u.toList) = (k : Int))
    (hnm : nm.size ≤ 1048600) (hsb : sb.size ≤ 1048600) (hs : ∀ j, j < n → (U j).size ≤ 1048600 ∧ (N j).size ≤ 1048600) (hzs : ∀ j, j < z → (KU j).size ≤ 1048600) (hr : r.size ≤ 1048600) (hu : u.size ≤ 1048600) (hnk : nk.size ≤ 1048600) (ht : t.size ≤ 1048600) (hi : i.size ≤ 1048600) (hfr : fr.size ≤ 1048600) :
    Calls Tryz.prog 24 #[roomV nm nx vm vk sb, entV r q kd u nk t i fr m] w fun e w' => (∃ v, e = .returned v ∧ NewRoom w w' v nm (nx + 1) (aftS kd sb t) (aftN kd n) (aftU kd n k u U) (aftU kd n k nk N) (aftR kd n k m R) (aftZ kd z (lessTo KU u z) (foundT z KU u) m) (aftKU kd (lessTo KU u z) (foundT z KU u) u m KU) (aftKR kd (lessTo KU u z) (foundT z KU u) m KR)) ∧ Below w.heap.size w w' := by
  have hm' := hm
  have hk' := hk
  obtain ⟨mo, mc, rfl, -⟩ := hm'
  obtain ⟨ko, kc, rfl, -⟩ := hk'
  have hwx : IntKind.i64.wrap (nx + 1) = nx + 1 := by rw [IntKind.wrap_i64]; omega
  obtain ⟨W3, hW3⟩ : ∃ W3, (((w.alloc (.cells #[.string nm, .int .i64 nx, .slice mo n mc, .slice ko z kc, .string sb] 33)).alloc (.cells #[.string r, .int .i64 q, .int .i64 kd, .string u, .string nk, .string t, .string i, .string fr, .int .i64 m] 37)).alloc (.cells #[.string ⟨#[]⟩, .int .i64 0, .slice none 0 0, .slice none 0 0, .string ⟨#[]⟩] 33)) = W3 := ⟨_, rfl⟩
  have b3 : Below w.heap.size w W3 := by rw [← hW3]; exact (((Below.refl _ w).alloc (Nat.le_refl _) _).alloc (by simp) _).alloc (by simp <;> omega) _
  have s3 : W3.heap.size = w.heap.size + 3 := by rw [← hW3]; simp
  have eA : W3.heap[w.heap.size]? = some (.cells #[.string nm, .int .i64 nx, .slice mo n mc, .slice ko z kc, .string sb] 33 (0, 0)) := by
    rw [← hW3, Below.heap_alloc _ _ _ (by simp <;> omega), Below.heap_alloc _ _ _ (by simp)]
    exact World.alloc_heap_new w _
  have eB : W3.heap[w.heap.size + 1]? = some (.cells #[.string r, .int .i64 q, .int .i64 kd, .string u, .string nk, .string t, .string i, .string fr, .int .i64 m] 37 (0, 0)) := by
    rw [← hW3, Below.heap_alloc _ _ _ (by simp)]
    have := World.alloc_heap_new (w.alloc (.cells #[.string nm, .int .i64 nx, .slice mo n mc, .slice ko z kc, .string sb] 33)) (.cells #[.string r, .int .i64 q, .int .i64 kd, .string u, .string nk, .string t, .string i, .string fr, .int .i64 m] 37)
    simpa using this
  have eC : W3.heap[w.heap.size + 1 + 1]? = some (.cells #[.string ⟨#[]⟩, .int .i64 0, .slice none 0 0, .slice none 0 0, .string ⟨#[]⟩] 33 (0, 0)) := by
    rw [← hW3]
    have := World.alloc_heap_new ((w.alloc (.cells #[.string nm, .int .i64 nx, .slice mo n mc, .slice ko z kc, .string sb] 33)).alloc (.cells #[.string r, .int .i64 q, .int .i64 kd, .string u, .string nk, .string t, .string i, .string fr, .int .i64 m] 37)) (.cells #[.string ⟨#[]⟩, .int .i64 0, .slice none 0 0, .slice none 0 0, .string ⟨#[]⟩] 33)
    simpa using this
  have cR := copyRoom_any nm sb nx (.slice mo n mc) (.slice ko z kc) n U N R z KU KR W3.drew (hm.below b3.drew) (hk.below b3.drew) (by omega) (by omega) hnm hsb hs hzs
  have cE := fun W => copyEntry_any r q kd u nk t i fr m W hr hu hnk ht hi hfr
  have cP := fun W vo vc h => userPlace_any u vo vc n U N R W h
  have cK := fun W vo vc base h hb => withRank_any u m vo vc z KU KR base W h hb hA h6
  have HW3 : Hid ((((w.alloc (.cells #[.string nm, .int .i64 nx, .slice mo n mc, .slice ko z kc, .string sb] 33)).alloc (.cells #[.string r, .int .i64 q, .int .i64 kd, .string u, .string nk, .string t, .string i, .string fr, .int .i64 m] 37)).alloc (.cells #[.string ⟨#[]⟩, .int .i64 0, .slice none 0 0, .slice none 0 0, .string ⟨#[]⟩] 33)) = W3) := hW3
  clear hW3 hm hk
  go_enter Tryz.func24, Tryz.ntmps24
  go_wp2_with fail
  rw [HW3.out]
  refine wp_region_held_drew (S := (fun W => W.heap[w.heap.size + 1]? = some (.cells #[.string r, .int .i64 q, .int .i64 kd, .string u, .string nk, .string t, .string i, .string fr, .int .i64 m] 37 (0, 0)))) (by kernel_rfl) eB (fun hHeld => ?_)
  refine wpAnyH_take (i := 2) (v := ?_) rfl (by kernel_rfl) (by kernel_rfl) (by kernel_rfl) (fun _ _ _ h => h) (Or.inl ⟨by rfl, ?takeYa2⟩) eB ?takeRa2
  case takeYa2 => (intro w9 hSw; (try dsimp only at hSw); obtain ⟨x0, x1, x2, x3, x4, x5, x6, x7, x8⟩ := nine_at hSw; go_simp; try (with_reducible rfl))
  simp only [Act.put, List.setIfInBounds_toArray, List.set_cons_zero, List.set_cons_succ, List.getElem_toArray, List.getElem_cons_zero, List.getElem_cons_succ]
  refine wpAnyH_ready (rs := [0]) (by kernel_rfl) (by simp) ?_
  refine AllReadyH.cons rfl (fun K hK => ?_) AllReadyH.nil
  obtain ⟨y0, y1, y2, y3, y4⟩ := rm_cells (W := W3.drew) eA
  go_simp
  refine hK.out _ _ eB (fun _ => ?_)
  clear hK K y0 y1 y2 y3 y4
  try simp only [Act.put, List.setIfInBounds_toArray, List.set_cons_zero, List.set_cons_succ, List.getElem_toArray, List.getElem_cons_zero, List.getElem_cons_succ]
  refine wpAnyH_ready (rs := [1]) (by kernel_rfl) (by simp) ?_
  refine AllReadyH.cons rfl (fun K hK => ?_) AllReadyH.nil
  go_simp
  refine cR.mono ?_
  rintro e w1 ⟨⟨v1, rfl, vm1, vk1, rfl, OM, OK, AP⟩, p1⟩
  obtain ⟨oo, oc, rfl⟩ := OwnL.shape OM
  obtain ⟨po, pc, rfl⟩ := OwnL.shape OK
  have b1 : Below W3.heap.size W3 w1 := ((Below.refl _ W3).drew).trans p1
  have e1B := (b1.block (w.heap.size + 1) (by omega)).trans eB
  have l1 := b1.size
  go_wp2_with fail
  refine hK.out _ _ e1B (fun _ => ?_)
  clear hK K p1
  try simp only [Act.put, List.setIfInBounds_toArray, List.set_cons_zero, List.set_cons_succ, List.getElem_toArray, List.getElem_cons_zero, List.getElem_cons_succ]
  refine wpAnyH_ready (rs := [3]) (by kernel_rfl) (by simp) ?_
  refine AllReadyH.cons rfl (fun K hK => ?_) AllReadyH.nil
  go_simp
  refine (cE w1).mono ?_
  rintro e w2 ⟨rfl, p2⟩
  have b2 : Below W3.heap.size W3 w2 := b1.trans (p2.mono l1)
  have e2B := (b2.block (w.heap.size + 1) (by omega)).trans eB
  have e2A := (b2.block w.heap.size (by omega)).trans eA
  have e2C := (b2.block (w.heap.size + 1 + 1) (by omega)).trans eC
  have OM2 := OwnL.below OM p2
  have OK2 := OwnL.below OK p2
  have l2 := b2.size
  go_wp2_with fail
  refine hK.out _ _ e2B (fun _ => ?_)
  clear hK K
  try simp only [Act.put, List.setIfInBounds_toArray, List.set_cons_zero, List.set_cons_succ, List.getElem_toArray, List.getElem_cons_zero, List.getElem_cons_succ]
  refine wpAnyH_ready (rs := [4]) (by kernel_rfl) (by simp) ?_
  refine AllReadyH.cons rfl (fun K hK => ?_) AllReadyH.nil
  obtain ⟨y0, y1, y2, y3, y4⟩ := rm_cells e2A
  have fz9 : ∀ j, w2.frozen? ⟨w.heap.size, j, none⟩ = false := fun j => by simp [World.frozen?, e2A]
  go_simp
  obtain ⟨V1, hV1⟩ : ∃ V1, roomW w2 w.heap.size nm nx (.slice oo n oc) (.slice po z pc) sb = V1 := ⟨_, rfl⟩
  have f1A : V1.heap[w.heap.size]? = some (.cells #[.string nm, .int .i64 nx, .slice oo n oc, .slice po z pc, .string sb] 33 (0, 0)) := by rw [← hV1]; exact roomW_heap e2A _ _ _ _ _
  have k1 : ∀ j, j ≠ w.heap.size → V1.heap[j]? = w2.heap[j]? := fun j hj => by rw [← hV1]; exact roomW_away hj
  have g1 : w2.grownBy V1 (some w.heap.size) := by rw [← hV1]; exact roomW_grown
  unfold roomW at hV1
  rw [hV1]
  have f1B := (k1 _ (by omega)).trans e2B
  refine hK.out _ _ f1B (fun _ => ?_)
  clear hK K y0 y1 y2 y3 y4 fz9 hV1
  try simp only [Act.put, List.setIfInBounds_toArray, List.set_cons_zero, List.set_cons_succ, List.getElem_toArray, List.getElem_cons_zero, List.getElem_cons_succ]
  refine wpAnyH_ready (rs := [5]) (by kernel_rfl) (by simp) ?_
  refine AllReadyH.cons rfl (fun K hK => ?_) AllReadyH.nil
  obtain ⟨x0, x1, x2, x3, x4, x5, x6, x7, x8⟩ := nine_at f1B
  have fz9 : ∀ j, V1.frozen? ⟨w.heap.size + 1, j, none⟩ = false := fun j => by simp [World.frozen?, f1B]
  go_simp
  obtain ⟨V, hV⟩ : ∃ V, ninW V1 (w.heap.size + 1) (.string r) (.int .i64 q) (.int .i64 kd) (.string u) (.string nk) (.string t) (.string i) (.string fr) (.int .i64 m) = V := ⟨_, rfl⟩
  have gB : V.heap[w.heap.size + 1]? = some (.cells #[.string r, .int .i64 q, .int .i64 kd, .string u, .string nk, .string t, .string i, .string fr, .int .i64 m] 37 (0, 0)) := by rw [← hV]; exact ninW_heap f1B _ _ _ _ _ _ _ _ _
  have k2 : ∀ j, j ≠ w.heap.size + 1 → V.heap[j]? = V1.heap[j]? := fun j hj => by rw [← hV]; exact ninW_away hj
  have g2 : V1.grownBy V (some (w.heap.size + 1)) := by rw [← hV]; exact ninW_grown
  unfold ninW at hV
  rw [hV]
  refine hK.out _ _ gB (fun _ => ?_)
  clear hK K x0 x1 x2 x3 x4 x5 x6 x7 x8 fz9 hV
  try simp only [Act.put, List.setIfInBounds_toArray, List.set_cons_zero, List.set_cons_succ, List.getElem_toArray, List.getElem_cons_zero, List.getElem_cons_succ]
  refine wpAnyH_done (by kernel_rfl) ?_ _
  have gA := (k2 w.heap.size (by omega)).trans f1A
  have gC := (k2 (w.heap.size + 1 + 1) (by omega)).trans ((k1 _ (by omega)).trans e2C)
  have kV : ∀ j, W3.heap.size ≤ j → V.heap[j]? = w2.heap[j]? := fun j hj => (k2 j (by omega)).trans (k1 j (by omega))
  have lV1 := g1.size
  have lV2 := g2.size
  have bV : Below w.heap.size w V := (((b3.trans (b2.mono b3.size)).grown g1 (by omega) (fun q2 hq2 => by have := Option.some.inj hq2; omega))).grown g2 (by omega) (fun q2 hq2 => by have := Option.some.inj hq2; omega)
  have sD : W3.drew.heap.size = w.heap.size + 3 := s3
  rw [sD] at OM2 OK2
  have ML := OwnL.lt OM2
  have KL := OwnL.lt OK2
  have OMV : OwnM V (w.heap.size + 3) (.slice oo n oc) n U N R := OwnL.kept (OwnL.kept OM2 g1 (own_away ML (by omega))) g2 (own_away ML (by omega))
  have OKV : OwnK V (w.heap.size + 3) (.slice po z pc) z KU KR := OwnL.kept (OwnL.kept OK2 g1 (own_away KL (by omega))) g2 (own_away KL (by omega))
  have sV : w.heap.size + 3 ≤ V.heap.size := by omega
  clear eA eB eC cR cE f1A f1B k1 k2 kV g1 g2 lV1 lV2 e2A e2B e2C e1B OM OK OM2 OK2 b1 b2 p2 l1 l2 b3 ML KL
  obtain ⟨Y, hY⟩ : ∃ Y, V.setCell ⟨w.heap.size, 1, none⟩ (.int .i64 (nx + 1)) = Y := ⟨_, rfl⟩
  have yA : Y.heap[w.heap.size]? = some (.cells #[.string nm, .int .i64 (nx + 1), .slice oo n oc, .slice po z pc, .string sb] 33 (0, 0)) := by
    rw [← hY]
    have h := set_heap V w.heap.size 1 _ _ _ (.int .i64 (nx + 1)) gA
    simpa using h
  have yo : ∀ j, j ≠ w.heap.size → Y.heap[j]? = V.heap[j]? := fun j hj => by rw [← hY]; exact Below.heap_setCell _ _ _ _ (fun e => hj e)
  have yB := (yo (w.heap.size + 1) (by omega)).trans gB
  have yC := (yo (w.heap.size + 1 + 1) (by omega)).trans gC
  have sY : Y.heap.size = V.heap.size := by rw [← hY]; simp
  have bY : Below w.heap.size w Y := by rw [← hY]; exact bV.setCell (p := ⟨w.heap.size, 1, none⟩) (Nat.le_refl _) _
  have OMY : OwnM Y (w.heap.size + 3) (.slice oo n oc) n U N R := by rw [← hY]; exact OwnL.set OMV ⟨w.heap.size, 1, none⟩ _ (by show w.heap.size < w.heap.size + 3; omega)
  have OKY : OwnK Y (w.heap.size + 3) (.slice po z pc) z KU KR := by rw [← hY]; exact OwnL.set OKV ⟨w.heap.size, 1, none⟩ _ (by show w.heap.size < w.heap.size + 3; omega)
  have HY : Hid (V.setCell ⟨w.heap.size, 1, none⟩ (.int .i64 (nx + 1)) = Y) := hY
  obtain ⟨a0, a1, a2, a3, a4⟩ := rm_cells gA
  obtain ⟨n0, n1, n2, n3, n4, n5, n6, n7, n8⟩ := nine_at gB
  have fzA : ∀ j, V.frozen? ⟨w.heap.size, j, none⟩ = false := fun j => by simp [World.frozen?, gA]
  have cQ := cP Y oo oc (OwnM.mem OMY)
  clear hY gA gB gC OMV OKV bV yo cP
  have HMY : Hid (OwnM Y (w.heap.size + 3) (.slice oo n oc) n U N R) := OMY
  have HKY : Hid (OwnK Y (w.heap.size + 3) (.slice po z pc) z KU KR) := OKY
  have HYA : Hid (Y.heap[w.heap.size]? = _) := yA
  have HYB : Hid (Y.heap[w.heap.size + 1]? = _) := yB
  have HYC : Hid (Y.heap[w.heap.size + 1 + 1]? = _) := yC
  clear OMY OKY yA yB yC
  rcases hkd with rfl | rfl | rfl | rfl | rfl | rfl
  · skip
    obtain ⟨i0, hi0, hy0, hy1, hy2⟩ := info_parts info_mem
    go_wp2_with first
      | (at_builtin; refine wpList_append_list rfl _ _ _ rfl (w.heap.size + 3) 64 i0 _ 3 40 Tryz.underlying30 hi0 hy0 hy1 hy2 rfl (by omega) (.slice oo n oc) n (rowVs (memC U N R) n) rfl (OwnL.alloc HM5.out _) (.slice (some ⟨w5.heap.size, 0, none⟩) 1 1) 1 (fun _ => [.string u, .string nk, .int .i64 m]) rfl (three_cells _ _ _ _ _) (fun _ => rfl) (one_mem _ _ _) (by unfold maxLen; omega) (by omega) (by simp; omega) (w5.heap.size + 1) (by simp) ?_; intro o6 c6 w6 hown6 hgrow6 hat6; have HG6 : Hid _ := hgrow6; have HAT6 : Hid _ := hat6; have HOM6 : Hid (OwnM w6 (w.heap.size + 3) (.slice o6 (n + 1) c6) (n + 1) (putAt n u U) (putAt n nk N) (putAt n m R)) := own_join hown6; have A6 := (hgrow6.block w.heap.size (by simp; omega) (row_away (OwnL.lt HM5.out) (by omega))).trans ((Below.heap_alloc _ _ _ (by omega)).trans HA5.out); have C6 := (hgrow6.block (w.heap.size + 1 + 1) (by simp; omega) (row_away (OwnL.lt HM5.out) (by omega))).trans ((Below.heap_alloc _ _ _ (by omega)).trans HC5.out); obtain ⟨h0, h1, h2, h3, h4⟩ := rm_cells A6; obtain ⟨t0, t1, t2, t3, t4⟩ := rm_cells C6; have f7 : ∀ j, w6.frozen? ⟨w.heap.size, j, none⟩ = false := (fun j => by simp [World.frozen?, A6]); have f8 : ∀ j, w6.frozen? ⟨w.heap.size + 1 + 1, j, none⟩ = false := (fun j => by simp [World.frozen?, C6]); have HC6 : Hid (w6.heap[w.heap.size + 1 + 1]? = _) := C6; clear hown6 hgrow6 hat6 A6 C6)
      | (go_at_call 54; rw [HY.out]; go_fit cQ; rintro e w5 ⟨rfl, b5⟩; have l5 := b5.size; have A5 := (b5.block w.heap.size (by omega)).trans HYA.out; have B5 := (b5.block (w.heap.size + 1) (by omega)).trans HYB.out; have C5 := (b5.block (w.heap.size + 1 + 1) (by omega)).trans HYC.out; have M5 := OwnL.below HMY.out b5; have K5 := OwnL.below HKY.out b5; have W5 : Below w.heap.size w w5 := bY.trans (b5.mono (by omega)); obtain ⟨d0, d1, d2, d3, d4⟩ := rm_cells A5; obtain ⟨e0, e1, e2, e3, e4, e5, e6, e7, e8⟩ := nine_at B5; obtain ⟨z0, z1, z2, z3, z4⟩ := rm_cells C5; have f5 : ∀ j, w5.frozen? ⟨w.heap.size, j, none⟩ = false := (fun j => by simp [World.frozen?, A5]); have f6 : ∀ j, w5.frozen? ⟨w.heap.size + 1 + 1, j, none⟩ = false := (fun j => by simp [World.frozen?, C5]); have HA5 : Hid (w5.heap[w.heap.size]? = _) := A5; have HB5 : Hid (w5.heap[w.heap.size + 1]? = _) := B5; have HC5 : Hid (w5.heap[w.heap.size + 1 + 1]? = _) := C5; have HM5 : Hid (OwnM w5 (w.heap.size + 3) (.slice oo n oc) n U N R) := M5; have HK5 : Hid (OwnK w5 (w.heap.size + 3) (.slice po z pc) z KU KR) := K5; clear A5 B5 C5 M5 K5)
    have ML := OwnL.lt HM5.out
    have KL := OwnL.lt HK5.out
    have g6 := HG6.out
    have l6 := g6.size
    have K6 : OwnK w6 (w.heap.size + 3) (.slice po z pc) z KU KR := OwnL.kept (OwnL.alloc HK5.out _) g6 (apart_kept AP)
    have B6 : Below w.heap.size w w6 := (W5.alloc W5.size _).grown g6 (by simp; omega) (fun q2 hq2 => by have h := (ML q2 hq2).1; omega)
    have FB : Below w.heap.size w (w6.setCell ⟨w.heap.size, 2, none⟩ (.slice o6 (n + 1) c6)) := B6.setCell (p := ⟨w.heap.size, 2, none⟩) (Nat.le_refl _) _
    have FM : OwnM (w6.setCell ⟨w.heap.size, 2, none⟩ (.slice o6 (n + 1) c6)) (w.heap.size + 3) (.slice o6 (n + 1) c6) (n + 1) (putAt n u U) (putAt n nk N) (putAt n m R) := OwnL.set HOM6.out ⟨w.heap.size, 2, none⟩ _ (by show w.heap.size < w.heap.size + 3; omega)
    have FK : OwnK (w6.setCell ⟨w.heap.size, 2, none⟩ (.slice o6 (n + 1) c6)) (w.heap.size + 3) (.slice po z pc) z KU KR := OwnL.set K6 ⟨w.heap.size, 2, none⟩ _ (by show w.heap.size < w.heap.size + 3; omega)
    have FC := (Below.heap_setCell w6 ⟨w.heap.size, 2, none⟩ (.slice o6 (n + 1) c6) (w.heap.size + 1 + 1) (by show w.heap.size + 1 + 1 ≠ w.heap.size; omega)).trans HC6.out
    have FA : Apart (.slice o6 (n + 1) c6) (.slice po z pc) := fun q2 g1 g2 => by
      rcases HAT6.out with h | h
      · exact AP q2 (h.symm.trans g1) g2
      · have h2 := Option.some.inj (g1.symm.trans h); have h3 := (KL _ g2).2; omega
    obtain ⟨NR, bl, q0, q1, q2, q3, q4⟩ := fin_room (nm := nm) (nx := nx + 1) (sb := sb) FC (by omega) (by omega) FB FM FK FA
    obtain ⟨W9, hW9⟩ : ∃ W9, roomW (w6.setCell ⟨w.heap.size, 2, none⟩ (.slice o6 (n + 1) c6)) (w.heap.size + 1 + 1) nm (nx + 1) (.slice o6 (n + 1) c6) (.slice po z pc) sb = W9 := ⟨_, rfl⟩
    rw [hW9] at NR bl q0 q1 q2 q3 q4
    unfold roomW at hW9
    rw [hW9]
    have NR2 : NewRoom w W9 (roomV nm (nx + 1) (.slice o6 (n + 1) c6) (.slice po z pc) sb) nm (nx + 1) (aftS 1 sb t) (aftN 1 n) (aftU 1 n k u U) (aftU 1 n k nk N) (aftR 1 n k m R) (aftZ 1 z (lessTo KU u z) (foundT z KU u) m) (aftKU 1 (lessTo KU u z) (foundT z KU u) u m KU) (aftKR 1 (lessTo KU u z) (foundT z KU u) m KR) := by
      rw [show aftS 1 sb t = sb by simp [aftS]]
      rw [show aftN 1 n = n + 1 by simp [aftN]]
      rw [show aftU 1 n k u U = putAt n u U by simp [aftU]]
      rw [show aftU 1 n k nk N = putAt n nk N by simp [aftU]]
      rw [show aftR 1 n k m R = putAt n m R by simp [aftR]]
      rw [show aftZ 1 z (lessTo KU u z) (foundT z KU u) m = z by simp [aftZ]]
      rw [show aftKU 1 (lessTo KU u z) (foundT z KU u) u m KU = KU by simp [aftKU]]
      rw [show aftKR 1 (lessTo KU u z) (foundT z KU u) m KR = KR by simp [aftKR]]
      exact NR
    exact bodyPost_ret (v := roomV nm (nx + 1) (.slice o6 (n + 1) c6) (.slice po z pc) sb) (by simp [results, Tryz.results24, go_sem, q0, q1, q2, q3, q4]) rfl ⟨⟨_, rfl, NR2⟩, bl⟩
  · skip
    obtain ⟨hkn, hof⟩ := hof (by decide)
    rw [hof] at cQ
    have hk0 : (0 : Int) ≤ (k : Int) := by omega
    have hkw : IntKind.i64.wrap ((k : Int) + 1) = (k : Int) + 1 := by rw [IntKind.wrap_i64]; omega
    obtain ⟨gg, rfl⟩ := OwnL.some HMY.out (by omega)
    clear hof
    go_wp2_with first
      | (go_at_call 57; go_fit (delM_any (memC U N R) (memC_len _ _ _) (fun j x hx => by simp at hx; rcases hx with rfl | rfl | rfl <;> rfl) (w.heap.size + 3) gg n oc k (k + 1) w5 HM5.out rfl hkn); rintro e w6 ⟨rfl, hd, hgr⟩; have HD : Hid _ := hd; have HG6 : Hid _ := hgr; have GB := (OwnL.lt HM5.out gg rfl).1; have A6 := (hgr.block w.heap.size (by omega) (by intro e; have := Option.some.inj e; omega)).trans HA5.out; have C6 := (hgr.block (w.heap.size + 1 + 1) (by omega) (by intro e; have := Option.some.inj e; omega)).trans HC5.out; obtain ⟨h0, h1, h2, h3, h4⟩ := rm_cells A6; obtain ⟨t0, t1, t2, t3, t4⟩ := rm_cells C6; have f7 : ∀ j, w6.frozen? ⟨w.heap.size, j, none⟩ = false := (fun j => by simp [World.frozen?, A6]); have f8 : ∀ j, w6.frozen? ⟨w.heap.size + 1 + 1, j, none⟩ = false := (fun j => by simp [World.frozen?, C6]); have HC6 : Hid (w6.heap[w.heap.size + 1 + 1]? = _) := C6; clear hd hgr A6 C6)
      | (go_at_call 54; rw [HY.out]; go_fit cQ; rintro e w5 ⟨rfl, b5⟩; have l5 := b5.size; have A5 := (b5.block w.heap.size (by omega)).trans HYA.out; have B5 := (b5.block (w.heap.size + 1) (by omega)).trans HYB.out; have C5 := (b5.block (w.heap.size + 1 + 1) (by omega)).trans HYC.out; have M5 := OwnL.below HMY.out b5; have K5 := OwnL.below HKY.out b5; have W5 : Below w.heap.size w w5 := bY.trans (b5.mono (by omega)); obtain ⟨d0, d1, d2, d3, d4⟩ := rm_cells A5; obtain ⟨e0, e1, e2, e3, e4, e5, e6, e7, e8⟩ := nine_at B5; obtain ⟨z0, z1, z2, z3, z4⟩ := rm_cells C5; have f5 : ∀ j, w5.frozen? ⟨w.heap.size, j, none⟩ = false := (fun j => by simp [World.frozen?, A5]); have f6 : ∀ j, w5.frozen? ⟨w.heap.size + 1 + 1, j, none⟩ = false := (fun j => by simp [World.frozen?, C5]); have HA5 : Hid (w5.heap[w.heap.size]? = _) := A5; have HB5 : Hid (w5.heap[w.heap.size + 1]? = _) := B5; have HC5 : Hid (w5.heap[w.heap.size + 1 + 1]? = _) := C5; have HM5 : Hid (OwnM w5 (w.heap.size + 3) (.slice (some ⟨gg, 0, none⟩) n oc) n U N R) := M5; have HK5 : Hid (OwnK w5 (w.heap.size + 3) (.slice po z pc) z KU KR) := K5; clear A5 B5 C5 M5 K5)
    have g6 := HG6.out
    have l6 := g6.size
    have hd := HD.out
    rw [cut_mem] at hd
    have K6 : OwnK w6 (w.heap.size + 3) (.slice po z pc) z KU KR := OwnL.kept HK5.out g6 (apart_kept AP)
    have B6 : Below w.heap.size w w6 := W5.grown g6 (by omega) (fun q2 hq2 => by have h := Option.some.inj hq2; omega)
    have FB : Below w.heap.size w (w6.setCell ⟨w.heap.size, 2, none⟩ (.slice (some ⟨gg, 0, none⟩) (n - 1) oc)) := B6.setCell (p := ⟨w.heap.size, 2, none⟩) (Nat.le_refl _) _
    have FM : OwnM (w6.setCell ⟨w.heap.size, 2, none⟩ (.slice (some ⟨gg, 0, none⟩) (n - 1) oc)) (w.heap.size + 3) (.slice (some ⟨gg, 0, none⟩) (n - 1) oc) (n - 1) (cutAt k U) (cutAt k N) (cutAt k R) := OwnL.set hd ⟨w.heap.size, 2, none⟩ _ (by show w.heap.size < w.heap.size + 3; omega)
    have FK : OwnK (w6.setCell ⟨w.heap.size, 2, none⟩ (.slice (some ⟨gg, 0, none⟩) (n - 1) oc)) (w.heap.size + 3) (.slice po z pc) z KU KR := OwnL.set K6 ⟨w.heap.size, 2, none⟩ _ (by show w.heap.size < w.heap.size + 3; omega)
    have FC := (Below.heap_setCell w6 ⟨w.heap.size, 2, none⟩ (.slice (some ⟨gg, 0, none⟩) (n - 1) oc) (w.heap.size + 1 + 1) (by show w.heap.size + 1 + 1 ≠ w.heap.size; omega)).trans HC6.out
    have FA : Apart (.slice (some ⟨gg, 0, none⟩) (n - 1) oc) (.slice po z pc) := fun q2 g1 g2 => AP q2 g1 g2
    obtain ⟨NR, bl, q0, q1, q2, q3, q4⟩ := fin_room (nm := nm) (nx := nx + 1) (sb := sb) FC (by omega) (by omega) FB FM FK FA
    obtain ⟨W9, hW9⟩ : ∃ W9, roomW (w6.setCell ⟨w.heap.size, 2, none⟩ (.slice (some ⟨gg, 0, none⟩) (n - 1) oc)) (w.heap.size + 1 + 1) nm (nx + 1) (.slice (some ⟨gg, 0, none⟩) (n - 1) oc) (.slice po z pc) sb = W9 := ⟨_, rfl⟩
    rw [hW9] at NR bl q0 q1 q2 q3 q4
    unfold roomW at hW9
    rw [hW9]
    have NR2 : NewRoom w W9 (roomV nm (nx + 1) (.slice (some ⟨gg, 0, none⟩) (n - 1) oc) (.slice po z pc) sb) nm (nx + 1) (aftS 2 sb t) (aftN 2 n) (aftU 2 n k u U) (aftU 2 n k nk N) (aftR 2 n k m R) (aftZ 2 z (lessTo KU u z) (foundT z KU u) m) (aftKU 2 (lessTo KU u z) (foundT z KU u) u m KU) (aftKR 2 (lessTo KU u z) (foundT z KU u) m KR) := by
      rw [show aftS 2 sb t = sb by simp [aftS]]
      rw [show aftN 2 n = n - 1 by simp [aftN]]
      rw [show aftU 2 n k u U = cutAt k U by simp [aftU]]
      rw [show aftU 2 n k nk N = cutAt k N by simp [aftU]]
      rw [show aftR 2 n k m R = cutAt k R by simp [aftR]]
      rw [show aftZ 2 z (lessTo KU u z) (foundT z KU u) m = z by simp [aftZ]]
      rw [show aftKU 2 (lessTo KU u z) (foundT z KU u) u m KU = KU by simp [aftKU]]
      rw [show aftKR 2 (lessTo KU u z) (foundT z KU u) m KR = KR by simp [aftKR]]
      exact NR
    exact bodyPost_ret (v := roomV nm (nx + 1) (.slice (some ⟨gg, 0, none⟩) (n - 1) oc) (.slice po z pc) sb) (by simp [results, Tryz.results24, go_sem, q0, q1, q2, q3, q4]) rfl ⟨⟨_, rfl, NR2⟩, bl⟩
  · skip
    go_wp2_with first
      | (go_at_call 54; rw [HY.out]; go_fit cQ; rintro e w5 ⟨rfl, b5⟩; have l5 := b5.size; have A5 := (b5.block w.heap.size (by omega)).trans HYA.out; have B5 := (b5.block (w.heap.size + 1) (by omega)).trans HYB.out; have C5 := (b5.block (w.heap.size + 1 + 1) (by omega)).trans HYC.out; have M5 := OwnL.below HMY.out b5; have K5 := OwnL.below HKY.out b5; have W5 : Below w.heap.size w w5 := bY.trans (b5.mono (by omega)); obtain ⟨d0, d1, d2, d3, d4⟩ := rm_cells A5; obtain ⟨e0, e1, e2, e3, e4, e5, e6, e7, e8⟩ := nine_at B5; obtain ⟨z0, z1, z2, z3, z4⟩ := rm_cells C5; have f5 : ∀ j, w5.frozen? ⟨w.heap.size, j, none⟩ = false := (fun j => by simp [World.frozen?, A5]); have f6 : ∀ j, w5.frozen? ⟨w.heap.size + 1 + 1, j, none⟩ = false := (fun j => by simp [World.frozen?, C5]); have HA5 : Hid (w5.heap[w.heap.size]? = _) := A5; have HB5 : Hid (w5.heap[w.heap.size + 1]? = _) := B5; have HC5 : Hid (w5.heap[w.heap.size + 1 + 1]? = _) := C5; have HM5 : Hid (OwnM w5 (w.heap.size + 3) (.slice oo n oc) n U N R) := M5; have HK5 : Hid (OwnK w5 (w.heap.size + 3) (.slice po z pc) z KU KR) := K5; clear A5 B5 C5 M5 K5)
    obtain ⟨NR, bl, q0, q1, q2, q3, q4⟩ := fin_room (nm := nm) (nx := nx + 1) (sb := sb) HC5.out (by omega) (by omega) W5 HM5.out HK5.out AP
    obtain ⟨W9, hW9⟩ : ∃ W9, roomW w5 (w.heap.size + 1 + 1) nm (nx + 1) (.slice oo n oc) (.slice po z pc) sb = W9 := ⟨_, rfl⟩
    rw [hW9] at NR bl q0 q1 q2 q3 q4
    unfold roomW at hW9
    rw [hW9]
    have NR2 : NewRoom w W9 (roomV nm (nx + 1) (.slice oo n oc) (.slice po z pc) sb) nm (nx + 1) (aftS 3 sb t) (aftN 3 n) (aftU 3 n k u U) (aftU 3 n k nk N) (aftR 3 n k m R) (aftZ 3 z (lessTo KU u z) (foundT z KU u) m) (aftKU 3 (lessTo KU u z) (foundT z KU u) u m KU) (aftKR 3 (lessTo KU u z) (foundT z KU u) m KR) := by
      rw [show aftS 3 sb t = sb by simp [aftS]]
      rw [show aftN 3 n = n by simp [aftN]]
      rw [show aftU 3 n k u U = U by simp [aftU]]
      rw [show aftU 3 n k nk N = N by simp [aftU]]
      rw [show aftR 3 n k m R = R by simp [aftR]]
      rw [show aftZ 3 z (lessTo KU u z) (foundT z KU u) m = z by simp [aftZ]]
      rw [show aftKU 3 (lessTo KU u z) (foundT z KU u) u m KU = KU by simp [aftKU]]
      rw [show aftKR 3 (lessTo KU u z) (foundT z KU u) m KR = KR by simp [aftKR]]
      exact NR
    exact bodyPost_ret (v := roomV nm (nx + 1) (.slice oo n oc) (.slice po z pc) sb) (by simp [results, Tryz.results24, go_sem, q0, q1, q2, q3, q4]) rfl ⟨⟨_, rfl, NR2⟩, bl⟩
  · skip
    go_wp2_with first
      | (go_at_call 54; rw [HY.out]; go_fit cQ; rintro e w5 ⟨rfl, b5⟩; have l5 := b5.size; have A5 := (b5.block w.heap.size (by omega)).trans HYA.out; have B5 := (b5.block (w.heap.size + 1) (by omega)).trans HYB.out; have C5 := (b5.block (w.heap.size + 1 + 1) (by omega)).trans HYC.out; have M5 := OwnL.below HMY.out b5; have K5 := OwnL.below HKY.out b5; have W5 : Below w.heap.size w w5 := bY.trans (b5.mono (by omega)); obtain ⟨d0, d1, d2, d3, d4⟩ := rm_cells A5; obtain ⟨e0, e1, e2, e3, e4, e5, e6, e7, e8⟩ := nine_at B5; obtain ⟨z0, z1, z2, z3, z4⟩ := rm_cells C5; have f5 : ∀ j, w5.frozen? ⟨w.heap.size, j, none⟩ = false := (fun j => by simp [World.frozen?, A5]); have f6 : ∀ j, w5.frozen? ⟨w.heap.size + 1 + 1, j, none⟩ = false := (fun j => by simp [World.frozen?, C5]); have HA5 : Hid (w5.heap[w.heap.size]? = _) := A5; have HB5 : Hid (w5.heap[w.heap.size + 1]? = _) := B5; have HC5 : Hid (w5.heap[w.heap.size + 1 + 1]? = _) := C5; have HM5 : Hid (OwnM w5 (w.heap.size + 3) (.slice oo n oc) n U N R) := M5; have HK5 : Hid (OwnK w5 (w.heap.size + 3) (.slice po z pc) z KU KR) := K5; clear A5 B5 C5 M5 K5)
    have FB : Below w.heap.size w (w5.setCell ⟨w.heap.size, 4, none⟩ (.string t)) := W5.setCell (p := ⟨w.heap.size, 4, none⟩) (Nat.le_refl _) _
    have FM : OwnM (w5.setCell ⟨w.heap.size, 4, none⟩ (.string t)) (w.heap.size + 3) (.slice oo n oc) n U N R := OwnL.set HM5.out ⟨w.heap.size, 4, none⟩ _ (by show w.heap.size < w.heap.size + 3; omega)
    have FK : OwnK (w5.setCell ⟨w.heap.size, 4, none⟩ (.string t)) (w.heap.size + 3) (.slice po z pc) z KU KR := OwnL.set HK5.out ⟨w.heap.size, 4, none⟩ _ (by show w.heap.size < w.heap.size + 3; omega)
    have FC := (Below.heap_setCell w5 ⟨w.heap.size, 4, none⟩ (.string t) (w.heap.size + 1 + 1) (by show w.heap.size + 1 + 1 ≠ w.heap.size; omega)).trans HC5.out
    obtain ⟨NR, bl, q0, q1, q2, q3, q4⟩ := fin_room (nm := nm) (nx := nx + 1) (sb := t) FC (by omega) (by omega) FB FM FK AP
    obtain ⟨W9, hW9⟩ : ∃ W9, roomW (w5.setCell ⟨w.heap.size, 4, none⟩ (.string t)) (w.heap.size + 1 + 1) nm (nx + 1) (.slice oo n oc) (.slice po z pc) t = W9 := ⟨_, rfl⟩
    rw [hW9] at NR bl q0 q1 q2 q3 q4
    unfold roomW at hW9
    rw [hW9]
    have NR2 : NewRoom w W9 (roomV nm (nx + 1) (.slice oo n oc) (.slice po z pc) t) nm (nx + 1) (aftS 4 sb t) (aftN 4 n) (aftU 4 n k u U) (aftU 4 n k nk N) (aftR 4 n k m R) (aftZ 4 z (lessTo KU u z) (foundT z KU u) m) (aftKU 4 (lessTo KU u z) (foundT z KU u) u m KU) (aftKR 4 (lessTo KU u z) (foundT z KU u) m KR) := by
      rw [show aftS 4 sb t = t by simp [aftS]]
      rw [show aftN 4 n = n by simp [aftN]]
      rw [show aftU 4 n k u U = U by simp [aftU]]
      rw [show aftU 4 n k nk N = N by simp [aftU]]
      rw [show aftR 4 n k m R = R by simp [aftR]]
      rw [show aftZ 4 z (lessTo KU u z) (foundT z KU u) m = z by simp [aftZ]]
      rw [show aftKU 4 (lessTo KU u z) (foundT z KU u) u m KU = KU by simp [aftKU]]
      rw [show aftKR 4 (lessTo KU u z) (foundT z KU u) m KR = KR by simp [aftKR]]
      exact NR
    exact bodyPost_ret (v := roomV nm (nx + 1) (.slice oo n oc) (.slice po z pc) t) (by simp [results, Tryz.results24, go_sem, q0, q1, q2, q3, q4]) rfl ⟨⟨_, rfl, NR2⟩, bl⟩
  · skip
    obtain ⟨hkn, hof⟩ := hof (by decide)
    rw [hof] at cQ
    have hk0 : (0 : Int) ≤ (k : Int) := by omega
    have hkI : (k : Int) < (n : Int) := by omega
    obtain ⟨gg, rfl⟩ := OwnL.some HMY.out (by omega)
    have GB : w.heap.size + 3 ≤ gg := (OwnL.lt HMY.out gg rfl).1
    clear hof
    go_wp2_with first
      | (go_at_call 54; rw [HY.out]; go_fit cQ; rintro e w5 ⟨rfl, b5⟩; have l5 := b5.size; have A5 := (b5.block w.heap.size (by omega)).trans HYA.out; have B5 := (b5.block (w.heap.size + 1) (by omega)).trans HYB.out; have C5 := (b5.block (w.heap.size + 1 + 1) (by omega)).trans HYC.out; have M5 := OwnL.below HMY.out b5; have K5 := OwnL.below HKY.out b5; have W5 : Below w.heap.size w w5 := bY.trans (b5.mono (by omega)); obtain ⟨d0, d1, d2, d3, d4⟩ := rm_cells A5; obtain ⟨e0, e1, e2, e3, e4, e5, e6, e7, e8⟩ := nine_at B5; obtain ⟨z0, z1, z2, z3, z4⟩ := rm_cells C5; have f5 : ∀ j, w5.frozen? ⟨w.heap.size, j, none⟩ = false := (fun j => by simp [World.frozen?, A5]); have f6 : ∀ j, w5.frozen? ⟨w.heap.size + 1 + 1, j, none⟩ = false := (fun j => by simp [World.frozen?, C5]); have HA5 : Hid (w5.heap[w.heap.size]? = _) := A5; have HB5 : Hid (w5.heap[w.heap.size + 1]? = _) := B5; have HC5 : Hid (w5.heap[w.heap.size + 1 + 1]? = _) := C5; have HM5 : Hid (OwnM w5 (w.heap.size + 3) (.slice (some ⟨gg, 0, none⟩) n oc) n U N R) := M5; have HK5 : Hid (OwnK w5 (w.heap.size + 3) (.slice po z pc) z KU KR) := K5; obtain ⟨X, -, xh, -⟩ := OwnL.rowOf HM5.out; have c9 : w5.cell? ⟨gg, k * 3 + 2, none⟩ = some (.int .i64 (R k)) := OwnL.cellsOf HM5.out (memC_len _ _ _) k hkn 2 (by omega); have c8 : w5.frozen? ⟨gg, k * 3 + 2, none⟩ = false := frozen_row xh _; have gne : gg ≠ w.heap.size := (by omega); have gne2 : gg ≠ w.heap.size + 1 + 1 := (by omega); clear xh; clear A5 B5 C5 M5 K5)
    have FB : Below w.heap.size w (w5.setCell ⟨gg, k * 3 + 2, none⟩ (.int .i64 m)) := W5.setCell (p := ⟨gg, k * 3 + 2, none⟩) (by show w.heap.size ≤ gg; omega) _
    have FM : OwnM (w5.setCell ⟨gg, k * 3 + 2, none⟩ (.int .i64 m)) (w.heap.size + 3) (.slice (some ⟨gg, 0, none⟩) n oc) n U N (putAt k m R) := own_role HM5.out hkn
    have FK : OwnK (w5.setCell ⟨gg, k * 3 + 2, none⟩ (.int .i64 m)) (w.heap.size + 3) (.slice po z pc) z KU KR := OwnL.set_away HK5.out (AP gg rfl)
    have FC := (Below.heap_setCell w5 ⟨gg, k * 3 + 2, none⟩ (.int .i64 m) (w.heap.size + 1 + 1) (by show w.heap.size + 1 + 1 ≠ gg; omega)).trans HC5.out
    obtain ⟨NR, bl, q0, q1, q2, q3, q4⟩ := fin_room (nm := nm) (nx := nx + 1) (sb := sb) FC (by omega) (by omega) FB FM FK AP
    obtain ⟨W9, hW9⟩ : ∃ W9, roomW (w5.setCell ⟨gg, k * 3 + 2, none⟩ (.int .i64 m)) (w.heap.size + 1 + 1) nm (nx + 1) (.slice (some ⟨gg, 0, none⟩) n oc) (.slice po z pc) sb = W9 := ⟨_, rfl⟩
    rw [hW9] at NR bl q0 q1 q2 q3 q4
    unfold roomW at hW9
    rw [hW9]
    have NR2 : NewRoom w W9 (roomV nm (nx + 1) (.slice (some ⟨gg, 0, none⟩) n oc) (.slice po z pc) sb) nm (nx + 1) (aftS 5 sb t) (aftN 5 n) (aftU 5 n k u U) (aftU 5 n k nk N) (aftR 5 n k m R) (aftZ 5 z (lessTo KU u z) (foundT z KU u) m) (aftKU 5 (lessTo KU u z) (foundT z KU u) u m KU) (aftKR 5 (lessTo KU u z) (foundT z KU u) m KR) := by
      rw [show aftS 5 sb t = sb by simp [aftS]]
      rw [show aftN 5 n = n by simp [aftN]]
      rw [show aftU 5 n k u U = U by simp [aftU]]
      rw [show aftU 5 n k nk N = N by simp [aftU]]
      rw [show aftR 5 n k m R = putAt k m R by simp [aftR]]
      rw [show aftZ 5 z (lessTo KU u z) (foundT z KU u) m = z by simp [aftZ]]
      rw [show aftKU 5 (lessTo KU u z) (foundT z KU u) u m KU = KU by simp [aftKU]]
      rw [show aftKR 5 (lessTo KU u z) (foundT z KU u) m KR = KR by simp [aftKR]]
      exact NR
    exact bodyPost_ret (v := roomV nm (nx + 1) (.slice (some ⟨gg, 0, none⟩) n oc) (.slice po z pc) sb) (by simp [results, Tryz.results24, go_sem, q0, q1, q2, q3, q4]) rfl ⟨⟨_, rfl, NR2⟩, bl⟩
  · skip
    go_wp2_with first
      | (go_at_call 58; go_fit (cK w5 po pc (w.heap.size + 3) HK5.out (by omega)); rintro e w6 ⟨⟨v6, rfl, hd, hq⟩, hgr⟩; have HD : Hid _ := hd; have HQ : Hid _ := hq; have HG6 : Hid _ := hgr; have A6 := (hgr.block w.heap.size (by omega) (row_away (OwnL.lt HK5.out) (by omega))).trans HA5.out; have C6 := (hgr.block (w.heap.size + 1 + 1) (by omega) (row_away (OwnL.lt HK5.out) (by omega))).trans HC5.out; obtain ⟨h0, h1, h2, h3, h4⟩ := rm_cells A6; obtain ⟨t0, t1, t2, t3, t4⟩ := rm_cells C6; have f7 : ∀ j, w6.frozen? ⟨w.heap.size, j, none⟩ = false := (fun j => by simp [World.frozen?, A6]); have f8 : ∀ j, w6.frozen? ⟨w.heap.size + 1 + 1, j, none⟩ = false := (fun j => by simp [World.frozen?, C6]); have HC6 : Hid (w6.heap[w.heap.size + 1 + 1]? = _) := C6; obtain ⟨o6, c6, e6⟩ := OwnL.shape hd; subst e6; clear hd hq hgr A6 C6)
      | (go_at_call 54; rw [HY.out]; go_fit cQ; rintro e w5 ⟨rfl, b5⟩; have l5 := b5.size; have A5 := (b5.block w.heap.size (by omega)).trans HYA.out; have B5 := (b5.block (w.heap.size + 1) (by omega)).trans HYB.out; have C5 := (b5.block (w.heap.size + 1 + 1) (by omega)).trans HYC.out; have M5 := OwnL.below HMY.out b5; have K5 := OwnL.below HKY.out b5; have W5 : Below w.heap.size w w5 := bY.trans (b5.mono (by omega)); obtain ⟨d0, d1, d2, d3, d4⟩ := rm_cells A5; obtain ⟨e0, e1, e2, e3, e4, e5, e6, e7, e8⟩ := nine_at B5; obtain ⟨z0, z1, z2, z3, z4⟩ := rm_cells C5; have f5 : ∀ j, w5.frozen? ⟨w.heap.size, j, none⟩ = false := (fun j => by simp [World.frozen?, A5]); have f6 : ∀ j, w5.frozen? ⟨w.heap.size + 1 + 1, j, none⟩ = false := (fun j => by simp [World.frozen?, C5]); have HA5 : Hid (w5.heap[w.heap.size]? = _) := A5; have HB5 : Hid (w5.heap[w.heap.size + 1]? = _) := B5; have HC5 : Hid (w5.heap[w.heap.size + 1 + 1]? = _) := C5; have HM5 : Hid (OwnM w5 (w.heap.size + 3) (.slice oo n oc) n U N R) := M5; have HK5 : Hid (OwnK w5 (w.heap.size + 3) (.slice po z pc) z KU KR) := K5; clear A5 B5 C5 M5 K5)
    have g6 := HG6.out
    have l6 := g6.size
    have hd := HD.out
    have ML := OwnL.lt HM5.out
    have KL := OwnL.lt HK5.out
    obtain ⟨Z, hZ⟩ : ∃ Z, rankN z (lessTo KU u z) (foundT z KU u) (decide (m = 1)) = Z := ⟨_, rfl⟩
    skip
    have M6 : OwnM w6 (w.heap.size + 3) (.slice oo n oc) n U N R := OwnL.kept HM5.out g6 (apart_kept (fun q2 g1 g2 => AP q2 g2 g1))
    have B6 : Below w.heap.size w w6 := W5.grown g6 (by omega) (fun q2 hq2 => by have h := (KL q2 hq2).1; omega)
    have FB : Below w.heap.size w (w6.setCell ⟨w.heap.size, 3, none⟩ (.slice o6 (rankN z (lessTo KU u z) (foundT z KU u) (decide (m = 1))) c6)) := B6.setCell (p := ⟨w.heap.size, 3, none⟩) (Nat.le_refl _) _
    have FM := OwnL.set M6 ⟨w.heap.size, 3, none⟩ (.slice o6 (rankN z (lessTo KU u z) (foundT z KU u) (decide (m = 1))) c6) (by show w.heap.size < w.heap.size + 3; omega)
    have FK := OwnL.set hd ⟨w.heap.size, 3, none⟩ (.slice o6 (rankN z (lessTo KU u z) (foundT z KU u) (decide (m = 1))) c6) (by show w.heap.size < w.heap.size + 3; omega)
    have FC := (Below.heap_setCell w6 ⟨w.heap.size, 3, none⟩ (.slice o6 (rankN z (lessTo KU u z) (foundT z KU u) (decide (m = 1))) c6) (w.heap.size + 1 + 1) (by show w.heap.size + 1 + 1 ≠ w.heap.size; omega)).trans HC6.out
    have FA : Apart (.slice oo n oc) (.slice o6 (rankN z (lessTo KU u z) (foundT z KU u) (decide (m = 1))) c6) := fun q2 g1 g2 => by
      rcases HQ.out q2 g2 with h | h
      · exact AP q2 g1 h
      · have := (ML q2 g1).2; omega
    obtain ⟨NR, bl, q0, q1, q2, q3, q4⟩ := fin_room (nm := nm) (nx := nx + 1) (sb := sb) FC (by omega) (by omega) FB FM FK FA
    obtain ⟨W9, hW9⟩ : ∃ W9, roomW (w6.setCell ⟨w.heap.size, 3, none⟩ (.slice o6 (rankN z (lessTo KU u z) (foundT z KU u) (decide (m = 1))) c6)) (w.heap.size + 1 + 1) nm (nx + 1) (.slice oo n oc) (.slice o6 (rankN z (lessTo KU u z) (foundT z KU u) (decide (m = 1))) c6) sb = W9 := ⟨_, rfl⟩
    rw [hW9] at NR bl q0 q1 q2 q3 q4
    unfold roomW at hW9
    rw [hW9]
    have NR2 : NewRoom w W9 (roomV nm (nx + 1) (.slice oo n oc) (.slice o6 (rankN z (lessTo KU u z) (foundT z KU u) (decide (m = 1))) c6) sb) nm (nx + 1) (aftS 6 sb t) (aftN 6 n) (aftU 6 n k u U) (aftU 6 n k nk N) (aftR 6 n k m R) (aftZ 6 z (lessTo KU u z) (foundT z KU u) m) (aftKU 6 (lessTo KU u z) (foundT z KU u) u m KU) (aftKR 6 (lessTo KU u z) (foundT z KU u) m KR) := by
      rw [show aftS 6 sb t = sb by simp [aftS]]
      rw [show aftN 6 n = n by simp [aftN]]
      rw [show aftU 6 n k u U = U by simp [aftU]]
      rw [show aftU 6 n k nk N = N by simp [aftU]]
      rw [show aftR 6 n k m R = R by simp [aftR]]
      rw [show aftZ 6 z (lessTo KU u z) (foundT z KU u) m = rankN z (lessTo KU u z) (foundT z KU u) (decide (m = 1)) by simp [aftZ]]
      rw [show aftKU 6 (lessTo KU u z) (foundT z KU u) u m KU = rankU (lessTo KU u z) (foundT z KU u) (decide (m = 1)) u KU by simp [aftKU]]
      rw [show aftKR 6 (lessTo KU u z) (foundT z KU u) m KR = rankR (lessTo KU u z) (foundT z KU u) (decide (m = 1)) m KR by simp [aftKR]]
      exact NR
    exact bodyPost_ret (v := roomV nm (nx + 1) (.slice oo n oc) (.slice o6 (rankN z (lessTo KU u z) (foundT z KU u) (decide (m = 1))) c6) sb) (by simp [results, Tryz.results24, go_sem, q0, q1, q2, q3, q4]) rfl ⟨⟨_, rfl, NR2⟩, bl⟩
end Go.Proofs.YtgjlgddglgffmaaGreatDoor.Hub
