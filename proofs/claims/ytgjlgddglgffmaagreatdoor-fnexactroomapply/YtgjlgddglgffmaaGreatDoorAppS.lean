/-
  spec.l6Copy: a room of one's own.
-/
import Derived.Test.YtgjlgddglgffmaaGreatDoorRowL
namespace Go.Proofs.YtgjlgddglgffmaaGreatDoor.Hub
open Go.RowKit
set_option linter.unusedVariables false

/-- Two lists lie in different blocks. -/
def Apart (a b : Value) : Prop := ∀ q, a.ownBlock = some q → b.ownBlock ≠ some q
/-- A room with lists of its own. -/
def NewRoom (w w' : World) (v : Value) (nm : ByteArray) (nx : Int) (sb : ByteArray) (n : Nat) (U N : Nat → ByteArray) (R : Nat → Int) (z : Nat) (KU : Nat → ByteArray) (KR : Nat → Int) : Prop :=
  ∃ vm vk, v = roomV nm nx vm vk sb ∧ OwnM w' w.heap.size vm n U N R ∧ OwnK w' w.heap.size vk z KU KR ∧ Apart vm vk
theorem info_mem : (Tryz.prog.info? 64).map (fun i => (i.zero, i.size, i.bytes)) = some (some (.agg #[.string ⟨#[]⟩, .string ⟨#[]⟩, .int .i64 0]), 3, 40) := by kernel_rfl
theorem info_rank : (Tryz.prog.info? 68).map (fun i => (i.zero, i.size, i.bytes)) = some (some (.agg #[.string ⟨#[]⟩, .int .i64 0]), 2, 24) := by kernel_rfl
theorem rm_cells {W : World} {E : Nat} {T : TypeId} {c0 c1 c2 c3 c4 : Value} (h : W.heap[E]? = some (.cells #[c0, c1, c2, c3, c4] T (0, 0))) : W.cell? ⟨E, 0, none⟩ = some c0 ∧ W.cell? ⟨E, 1, none⟩ = some c1 ∧ W.cell? ⟨E, 2, none⟩ = some c2 ∧ W.cell? ⟨E, 3, none⟩ = some c3 ∧ W.cell? ⟨E, 4, none⟩ = some c4 := by
  simp only [World.cell?, h]
  exact ⟨rfl, rfl, rfl, rfl, rfl⟩
/-- A room, stored field by field. -/
def roomW (W : World) (E : Nat) (nm : ByteArray) (nx : Int) (vm vk : Value) (sb : ByteArray) : World :=
  ((((W.setCell ⟨E, 0, none⟩ (.string nm)).setCell ⟨E, 1, none⟩ (.int .i64 nx)).setCell ⟨E, 2, none⟩ vm).setCell ⟨E, 3, none⟩ vk).setCell ⟨E, 4, none⟩ (.string sb)
theorem roomW_heap {W : World} {E : Nat} {T : TypeId} {c0 c1 c2 c3 c4 : Value} (h : W.heap[E]? = some (.cells #[c0, c1, c2, c3, c4] T (0, 0))) (nm : ByteArray) (nx : Int) (vm vk : Value) (sb : ByteArray) :
    (roomW W E nm nx vm vk sb).heap[E]? = some (.cells #[.string nm, .int .i64 nx, vm, vk, .string sb] T (0, 0)) := by
  unfold roomW
  have := set_heap _ E 4 _ _ _ (.string sb) (set_heap _ E 3 _ _ _ vk (set_heap _ E 2 _ _ _ vm (set_heap _ E 1 _ _ _ (.int .i64 nx) (set_heap W E 0 _ _ _ (.string nm) h))))
  simp only [List.setIfInBounds_toArray, List.set_cons_zero, List.set_cons_succ] at this
  exact this
theorem roomW_below {B : Nat} {V W : World} (h : Below B V W) {E : Nat} (hE : B ≤ E) (nm : ByteArray) (nx : Int) (vm vk : Value) (sb : ByteArray) : Below B V (roomW W E nm nx vm vk sb) :=
  ((((h.setCell (p := ⟨E, 0, none⟩) hE _).setCell (p := ⟨E, 1, none⟩) hE _).setCell (p := ⟨E, 2, none⟩) hE _).setCell (p := ⟨E, 3, none⟩) hE _).setCell (p := ⟨E, 4, none⟩) hE _
theorem OwnL.roomW {W : World} {base : Nat} {T : TypeId} {s : Nat} {v : Value} {n : Nat} {g : Nat → List Value} (h : OwnL W base T s v n g) {E : Nat} (hE : E < base) (nm : ByteArray) (nx : Int) (vm vk : Value) (sb : ByteArray) : OwnL (roomW W E nm nx vm vk sb) base T s v n g := by
  unfold Hub.roomW
  exact ((((h.set ⟨E, 0, none⟩ _ hE).set ⟨E, 1, none⟩ _ hE).set ⟨E, 2, none⟩ _ hE).set ⟨E, 3, none⟩ _ hE).set ⟨E, 4, none⟩ _ hE

set_option maxRecDepth 100000 in
set_option maxHeartbeats 4000000 in
theorem l6Copy_any (nm sb : ByteArray) (nx : Int) (vm vk : Value) (n : Nat) (U N : Nat → ByteArray) (R : Nat → Int) (z : Nat) (KU : Nat → ByteArray) (KR : Nat → Int) (w : World) (hm : MemAt w vm n U N R) (hk : RankAt w vk z KU KR) (hn : n ≤ 1048600) (hz : z ≤ 1048600) :
    Calls Tryz.prog 17 #[roomV nm nx vm vk sb] w fun e w' => (∃ v, e = .returned v ∧ NewRoom w w' v nm nx sb n U N R z KU KR) ∧ Below w.heap.size w w' := by
  obtain ⟨i0, hi0, hz0, hz1, hz2⟩ := info_parts info_mem
  obtain ⟨i1, hi1, hy0, hy1, hy2⟩ := info_parts info_rank
  have hm' := hm
  have hk' := hk
  obtain ⟨mo, mc, rfl, -⟩ := hm'
  obtain ⟨ko, kc, rfl, -⟩ := hk'
  have bX : Below w.heap.size w ((((w.alloc (.cells #[.string nm, .int .i64 nx, .slice mo n mc, .slice ko z kc, .string sb] 33)).alloc (.cells #[.string ⟨#[]⟩, .int .i64 0, .slice none 0 0, .slice none 0 0, .string ⟨#[]⟩] 33)).alloc (.cells #[.string nm, .int .i64 nx, .slice mo n mc, .slice ko z kc, .string sb] 33)).alloc (.cells #[] 64)) := ((((Below.refl _ w).alloc (Nat.le_refl _) _).alloc (by simp) _).alloc (by simp <;> omega) _).alloc (by simp <;> omega) _
  have hA : ((((w.alloc (.cells #[.string nm, .int .i64 nx, .slice mo n mc, .slice ko z kc, .string sb] 33)).alloc (.cells #[.string ⟨#[]⟩, .int .i64 0, .slice none 0 0, .slice none 0 0, .string ⟨#[]⟩] 33)).alloc (.cells #[.string nm, .int .i64 nx, .slice mo n mc, .slice ko z kc, .string sb] 33)).alloc (.cells #[] 64)).heap[w.heap.size]? = some (.cells #[.string nm, .int .i64 nx, .slice mo n mc, .slice ko z kc, .string sb] 33 (0, 0)) := by
    rw [Below.heap_alloc _ _ _ (by simp <;> omega), Below.heap_alloc _ _ _ (by simp <;> omega), Below.heap_alloc _ _ _ (by simp)]
    exact World.alloc_heap_new w _
  have hB : ((((w.alloc (.cells #[.string nm, .int .i64 nx, .slice mo n mc, .slice ko z kc, .string sb] 33)).alloc (.cells #[.string ⟨#[]⟩, .int .i64 0, .slice none 0 0, .slice none 0 0, .string ⟨#[]⟩] 33)).alloc (.cells #[.string nm, .int .i64 nx, .slice mo n mc, .slice ko z kc, .string sb] 33)).alloc (.cells #[] 64)).heap[w.heap.size + 1]? = some (.cells #[.string ⟨#[]⟩, .int .i64 0, .slice none 0 0, .slice none 0 0, .string ⟨#[]⟩] 33 (0, 0)) := by
    rw [Below.heap_alloc _ _ _ (by simp <;> omega), Below.heap_alloc _ _ _ (by simp)]
    have := World.alloc_heap_new (w.alloc (.cells #[.string nm, .int .i64 nx, .slice mo n mc, .slice ko z kc, .string sb] 33)) (.cells #[.string ⟨#[]⟩, .int .i64 0, .slice none 0 0, .slice none 0 0, .string ⟨#[]⟩] 33)
    simpa using this
  have hC : ((((w.alloc (.cells #[.string nm, .int .i64 nx, .slice mo n mc, .slice ko z kc, .string sb] 33)).alloc (.cells #[.string ⟨#[]⟩, .int .i64 0, .slice none 0 0, .slice none 0 0, .string ⟨#[]⟩] 33)).alloc (.cells #[.string nm, .int .i64 nx, .slice mo n mc, .slice ko z kc, .string sb] 33)).alloc (.cells #[] 64)).heap[w.heap.size + 1 + 1]? = some (.cells #[.string nm, .int .i64 nx, .slice mo n mc, .slice ko z kc, .string sb] 33 (0, 0)) := by
    rw [Below.heap_alloc _ _ _ (by simp)]
    have := World.alloc_heap_new ((w.alloc (.cells #[.string nm, .int .i64 nx, .slice mo n mc, .slice ko z kc, .string sb] 33)).alloc (.cells #[.string ⟨#[]⟩, .int .i64 0, .slice none 0 0, .slice none 0 0, .string ⟨#[]⟩] 33)) (.cells #[.string nm, .int .i64 nx, .slice mo n mc, .slice ko z kc, .string sb] 33)
    simpa using this
  have OW : ((((w.alloc (.cells #[.string nm, .int .i64 nx, .slice mo n mc, .slice ko z kc, .string sb] 33)).alloc (.cells #[.string ⟨#[]⟩, .int .i64 0, .slice none 0 0, .slice none 0 0, .string ⟨#[]⟩] 33)).alloc (.cells #[.string nm, .int .i64 nx, .slice mo n mc, .slice ko z kc, .string sb] 33)).alloc (.cells #[] 64)).ownsRow (w.heap.size + 3) 64 3 (.slice (some ⟨w.heap.size + 1 + 1 + 1, 0, none⟩) 0 0) 0 [] := by
    have := World.ownsRow_made (base := w.heap.size + 3) (e := 64) (size := 3) (((w.alloc (.cells #[.string nm, .int .i64 nx, .slice mo n mc, .slice ko z kc, .string sb] 33)).alloc (.cells #[.string ⟨#[]⟩, .int .i64 0, .slice none 0 0, .slice none 0 0, .string ⟨#[]⟩] 33)).alloc (.cells #[.string nm, .int .i64 nx, .slice mo n mc, .slice ko z kc, .string sb] 33)) #[] 0 (by simp) (Nat.zero_le _) rfl
    simpa using this
  have SRC := mem_list.1 (hm.below bX)
  go_enter Tryz.func17, Tryz.ntmps17
  go_wp2_with first
    | (at_builtin; refine wpList_append_list rfl _ _ _ rfl w4.heap.size 68 i1 _ 2 24 Tryz.underlying31 hi1 hy0 hy1 hy2 rfl (by omega) (.slice (some ⟨w4.heap.size, 0, none⟩) 0 0) 0 [] rfl OW2 _ z (rankC KU KR) rfl SRC2 (rankC_len _ _) (rankC_one _ _ _) (by unfold maxLen; omega) (by omega) (by simp) (w4.heap.size + 1) (by simp) ?_; intro o6 c6 w6 hown6 hgrow6 hat6; have fB := (hgrow6.block (w.heap.size + 1) (by simp <;> omega) (fun e => by have h := Option.some.inj e; dsimp only at h; omega)).trans gB.out; have fC := (hgrow6.block (w.heap.size + 1 + 1) (by simp <;> omega) (fun e => by have h := Option.some.inj e; dsimp only at h; omega)).trans gC.out; have HB6 : Hid (w6.heap[w.heap.size + 1]? = some (.cells #[.string ⟨#[]⟩, .int .i64 0, .slice none 0 0, .slice none 0 0, .string ⟨#[]⟩] 33 (0, 0))) := fB; have HC6 : Hid (w6.heap[w.heap.size + 1 + 1]? = _) := fC; obtain ⟨r0, r1, r2, r3, r4⟩ := rm_cells fC; obtain ⟨s0, s1, s2, s3, s4⟩ := rm_cells fB; have f1 : ∀ i, w6.frozen? ⟨w.heap.size + 1, i, none⟩ = false := (fun i => (by simp [World.frozen?, fB])); have f2 : ∀ i, w6.frozen? ⟨w.heap.size + 1 + 1, i, none⟩ = false := (fun i => (by simp [World.frozen?, fC])); clear fB fC)
    | (at_builtin; refine wpList_append_list rfl _ _ _ rfl (w.heap.size + 3) 64 i0 _ 3 40 Tryz.underlying30 hi0 hz0 hz1 hz2 rfl (by omega) (.slice (some ⟨w.heap.size + 1 + 1 + 1, 0, none⟩) 0 0) 0 [] rfl OW _ n (memC U N R) rfl SRC (memC_len _ _ _) (memC_one _ _ _ _) (by unfold maxLen; omega) (by omega) (by simp) (w.heap.size + 1 + 1 + 1 + 1) (by simp) ?_; intro oo cc w4 hown4 hgrow4 hat4; have l4 := hgrow4.size; simp at l4; have l0 : w.heap.size < w4.heap.size := (by omega); have l2 : w.heap.size + 1 + 1 < w4.heap.size := (by omega); have eA := (hgrow4.block w.heap.size (by simp <;> omega) (fun e => by have h := Option.some.inj e; dsimp only at h; omega)).trans hA; have eB := (hgrow4.block (w.heap.size + 1) (by simp <;> omega) (fun e => by have h := Option.some.inj e; dsimp only at h; omega)).trans hB; have eC := (hgrow4.block (w.heap.size + 1 + 1) (by simp <;> omega) (fun e => by have h := Option.some.inj e; dsimp only at h; omega)).trans hC; have b4 : Below w.heap.size w w4 := bX.grown hgrow4 bX.size (fun q hq => by have h := Option.some.inj hq; dsimp only at h; omega); have OM4 : OwnL w4 (w.heap.size + 3) 64 3 (.slice oo n cc) n (memC U N R) := (by unfold OwnL; rw [Nat.zero_add] at hown4; exact hown4); have S5 : Hid ((w4.setCell ⟨w.heap.size + 1 + 1, 2, none⟩ (.slice oo n cc)).heap[w.heap.size + 1 + 1]? = _) := set_heap w4 (w.heap.size + 1 + 1) 2 _ _ _ (.slice oo n cc) eC; have bS5 : Below w.heap.size w ((w4.setCell ⟨w.heap.size + 1 + 1, 2, none⟩ (.slice oo n cc)).alloc (.cells #[] 68)) := (b4.setCell (p := ⟨w.heap.size + 1 + 1, 2, none⟩) (by show w.heap.size ≤ w.heap.size + 1 + 1; omega) _).alloc (by simp <;> omega) _; have OW2 : ((w4.setCell ⟨w.heap.size + 1 + 1, 2, none⟩ (.slice oo n cc)).alloc (.cells #[] 68)).ownsRow w4.heap.size 68 2 (.slice (some ⟨w4.heap.size, 0, none⟩) 0 0) 0 [] := (by have := World.ownsRow_made (base := w4.heap.size) (e := 68) (size := 2) (w4.setCell ⟨w.heap.size + 1 + 1, 2, none⟩ (.slice oo n cc)) #[] 0 (by simp) (Nat.zero_le _) rfl; simpa using this); have SRC2 := rank_list.1 (hk.below bS5); have gB : Hid (((w4.setCell ⟨w.heap.size + 1 + 1, 2, none⟩ (.slice oo n cc)).alloc (.cells #[] 68)).heap[w.heap.size + 1]? = some (.cells #[.string ⟨#[]⟩, .int .i64 0, .slice none 0 0, .slice none 0 0, .string ⟨#[]⟩] 33 (0, 0))) := (Below.heap_alloc _ _ _ (by simp <;> omega)).trans ((Below.heap_setCell _ _ _ _ (by simp)).trans eB); have gC : Hid (((w4.setCell ⟨w.heap.size + 1 + 1, 2, none⟩ (.slice oo n cc)).alloc (.cells #[] 68)).heap[w.heap.size + 1 + 1]? = _) := (Below.heap_alloc _ _ _ (by simp <;> omega)).trans S5.out; have HOM : Hid (OwnL w4 (w.heap.size + 3) 64 3 (.slice oo n cc) n (memC U N R)) := OM4; obtain ⟨p0, p1, p2, p3, p4⟩ := rm_cells eA; obtain ⟨q0, q1, q2, q3, q4⟩ := rm_cells eC; have f4 : ∀ i, w4.frozen? ⟨w.heap.size + 1 + 1, i, none⟩ = false := (fun i => (by simp [World.frozen?, eC])); clear eA eB eC OM4 hown4)
  have CL := OwnL.lt HOM.out
  have L6 := hgrow6.size
  simp at L6
  have O6 : OwnL w6 w4.heap.size 68 2 (.slice o6 z c6) z (rankC KU KR) := by
    unfold OwnL
    rw [Nat.zero_add] at hown6
    exact hown6
  have M6 : OwnL w6 (w.heap.size + 3) 64 3 (.slice oo n cc) n (memC U N R) := OwnL.kept ((HOM.out.set ⟨w.heap.size + 1 + 1, 2, none⟩ _ (by show w.heap.size + 1 + 1 < w.heap.size + 3; omega)).alloc _) hgrow6 (by
    cases hc : (Value.slice oo n cc).ownBlock with
    | none => exact .inl rfl
    | some q =>
      right
      intro e
      have h1 := (CL q hc).2
      have h2 := Option.some.inj e
      dsimp only at h2
      omega)
  have b6 : Below w.heap.size w w6 := bS5.grown hgrow6 bS5.size (fun q hq => by have h := Option.some.inj hq; dsimp only at h; omega)
  have e7 := set_heap w6 (w.heap.size + 1) 0 _ _ _ (.string nm) HB6.out
  have hB7 : (w6.setCell ⟨w.heap.size + 1 + 1, 3, none⟩ (.slice o6 z c6)).heap[w.heap.size + 1]? = some (.cells #[.string ⟨#[]⟩, .int .i64 0, .slice none 0 0, .slice none 0 0, .string ⟨#[]⟩] 33 (0, 0)) := (Below.heap_setCell _ _ _ _ (by simp)).trans HB6.out
  have N9 := rm_cells (roomW_heap hB7 nm nx (.slice oo n cc) (.slice o6 z c6) sb)
  have b9 : Below w.heap.size w (roomW (w6.setCell ⟨w.heap.size + 1 + 1, 3, none⟩ (.slice o6 z c6)) (w.heap.size + 1) nm nx (.slice oo n cc) (.slice o6 z c6) sb) := roomW_below (b6.setCell (p := ⟨w.heap.size + 1 + 1, 3, none⟩) (by show w.heap.size ≤ w.heap.size + 1 + 1; omega) _) (by omega) _ _ _ _ _
  have M9 : OwnL (roomW (w6.setCell ⟨w.heap.size + 1 + 1, 3, none⟩ (.slice o6 z c6)) (w.heap.size + 1) nm nx (.slice oo n cc) (.slice o6 z c6) sb) (w.heap.size + 3) 64 3 (.slice oo n cc) n (memC U N R) := OwnL.roomW (M6.set ⟨w.heap.size + 1 + 1, 3, none⟩ _ (by show w.heap.size + 1 + 1 < w.heap.size + 3; omega)) (by omega) _ _ _ _ _
  have K9 : OwnL (roomW (w6.setCell ⟨w.heap.size + 1 + 1, 3, none⟩ (.slice o6 z c6)) (w.heap.size + 1) nm nx (.slice oo n cc) (.slice o6 z c6) sb) w4.heap.size 68 2 (.slice o6 z c6) z (rankC KU KR) := OwnL.roomW (O6.set ⟨w.heap.size + 1 + 1, 3, none⟩ _ (by show w.heap.size + 1 + 1 < w4.heap.size; omega)) (by omega) _ _ _ _ _
  have KL := OwnL.lt O6
  have AP : Apart (.slice oo n cc) (.slice o6 z c6) := fun q h1 h2 => by
    have g1 := (CL q h1).2
    have g2 := (KL q h2).1
    omega
  obtain ⟨W9, hW9⟩ : ∃ W9, roomW (w6.setCell ⟨w.heap.size + 1 + 1, 3, none⟩ (.slice o6 z c6)) (w.heap.size + 1) nm nx (.slice oo n cc) (.slice o6 z c6) sb = W9 := ⟨_, rfl⟩
  rw [hW9] at N9 b9 M9 K9
  unfold roomW at hW9
  rw [hW9]
  obtain ⟨n0, n1, n2, n3, n4⟩ := N9
  exact bodyPost_ret (v := roomV nm nx (.slice oo n cc) (.slice o6 z c6) sb) (by simp [results, Tryz.results17, go_sem, n0, n1, n2, n3, n4]) rfl ⟨⟨_, rfl, _, _, rfl, M9.mono (by omega), K9.mono (by omega), AP⟩, b9⟩
end Go.Proofs.YtgjlgddglgffmaaGreatDoor.Hub
