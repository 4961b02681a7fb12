/-
  How the model writes an entry whose parts are small.
-/
import Derived.Test.YtjknjlaabppooaaDoorEntryText
import Derived.Test.YtjknjlaabppooaaDoorEntryPlain
import Derived.Deep.RegionHeld3
namespace Go.Proofs.YtjknjlaabppooaaDoor.Hub
open Go.RowKit
set_option linter.unusedVariables false

/-- An entry, written. -/
def putT (r : ByteArray) (q k : Nat) (u n t i f : ByteArray) (m : Nat) : ByteArray :=
  decB 3 q ++ ⟨#[124]⟩ ++ decB 0 k ++ ⟨#[124]⟩ ++ r ++ ⟨#[124]⟩ ++ u ++ ⟨#[124]⟩ ++ fieldT n ++ ⟨#[124]⟩ ++ fieldT t ++ ⟨#[124]⟩ ++ fieldT i ++ ⟨#[124]⟩ ++ fieldT f ++ ⟨#[124]⟩ ++ decB 0 m

set_option maxRecDepth 100000 in
set_option maxHeartbeats 8000000 in
theorem l8Put_any (r u n t i f : ByteArray) (q k m : Nat) (w : World) (hq : q < 10000) (hk : k < 10) (hm : m < 10) (hr : r.size ≤ 100) (hu : u.size ≤ 100) (hn : n.size ≤ 100) (ht : t.size ≤ 100) (hi : i.size ≤ 100) (hf : f.size ≤ 100) :
    Calls Tryd.prog 14 #[entV r q k u n t i f m] w fun e w' => e = .returned (.string (putT r q k u n t i f m)) ∧ Below w.heap.size w w' := by
  have cq := fun W => l1Dec_any 3 q (by omega) (by omega) W
  have ck := fun W => l1Dec_any 0 k (by omega) (by omega) W
  have cm := fun W => l1Dec_any 0 m (by omega) (by omega) W
  have cn := fun W => l8Field_any n (by omega) W
  have ct := fun W => l8Field_any t (by omega) W
  have ci := fun W => l8Field_any i (by omega) W
  have cf := fun W => l8Field_any f (by omega) W
  unfold putT
  have zq : (decB 3 q).size ≤ 4 := decB_size 3 q
  have zk : (decB 0 k).size ≤ 1 := decB_size 0 k
  have zm : (decB 0 m).size ≤ 1 := decB_size 0 m
  have zn : (fieldT n).size ≤ 200 := Nat.le_trans (fieldPre_size n _) (by omega)
  have zt : (fieldT t).size ≤ 200 := Nat.le_trans (fieldPre_size t _) (by omega)
  have zi : (fieldT i).size ≤ 200 := Nat.le_trans (fieldPre_size i _) (by omega)
  have zf : (fieldT f).size ≤ 200 := Nat.le_trans (fieldPre_size f _) (by omega)
  generalize decB 3 q = Dq at *
  generalize decB 0 k = Dk at *
  generalize decB 0 m = Dm at *
  generalize fieldT n = Fn at *
  generalize fieldT t = Ft at *
  generalize fieldT i = Fi at *
  generalize fieldT f = Ff at *
  obtain ⟨W1, hW1⟩ : ∃ W1, W1 = w.alloc (.cells #[.string r, .int .i64 q, .int .i64 k, .string u, .string n, .string t, .string i, .string f, .int .i64 m] 23) := ⟨_, rfl⟩
  obtain ⟨B, hB⟩ : ∃ B, B = w.heap.size := ⟨_, rfl⟩
  have b0 : Below w.heap.size w W1 := by rw [hW1]; exact (Below.refl _ w).alloc (Nat.le_refl _) _
  have hlt : B < W1.heap.size := by rw [hW1, hB]; simp
  have NEW : Hid (∀ W : World, Below W1.heap.size W1 W → W.cell? ⟨B, 0, none⟩ = some (.string r) ∧ W.cell? ⟨B, 1, none⟩ = some (.int .i64 q) ∧ W.cell? ⟨B, 2, none⟩ = some (.int .i64 k) ∧ W.cell? ⟨B, 3, none⟩ = some (.string u) ∧ W.cell? ⟨B, 4, none⟩ = some (.string n) ∧ W.cell? ⟨B, 5, none⟩ = some (.string t) ∧ W.cell? ⟨B, 6, none⟩ = some (.string i) ∧ W.cell? ⟨B, 7, none⟩ = some (.string f) ∧ W.cell? ⟨B, 8, none⟩ = some (.int .i64 m)) := fun W bb => by
    have q : ∀ j, W.cell? ⟨B, j, none⟩ = (#[.string r, .int .i64 q, .int .i64 k, .string u, .string n, .string t, .string i, .string f, .int .i64 m] : Array Value)[j]? := fun j => (bb.cell (p := ⟨B, j, none⟩) hlt).trans (by rw [hW1, hB]; exact new_cell w _ _ j)
    exact ⟨q 0, q 1, q 2, q 3, q 4, q 5, q 6, q 7, q 8⟩
  have BD : Below W1.heap.size W1 W1.drew := (Below.refl W1.heap.size W1).drew
  go_enter Tryd.func14, Tryd.ntmps14
  go_wp2_with fail
  rw [← hW1, ← hB]
  clear hW1 hB
  refine wp_region_held_drew (S := (fun W => W.cell? ⟨B, 0, none⟩ = some (.string r) ∧ W.cell? ⟨B, 1, none⟩ = some (.int .i64 q) ∧ W.cell? ⟨B, 2, none⟩ = some (.int .i64 k) ∧ W.cell? ⟨B, 3, none⟩ = some (.string u) ∧ W.cell? ⟨B, 4, none⟩ = some (.string n) ∧ W.cell? ⟨B, 5, none⟩ = some (.string t) ∧ W.cell? ⟨B, 6, none⟩ = some (.string i) ∧ W.cell? ⟨B, 7, none⟩ = some (.string f) ∧ W.cell? ⟨B, 8, none⟩ = some (.int .i64 m))) (by kernel_rfl) ?_ (fun hHeld => ?_)
  · exact NEW.out _ BD
  refine wpAnyH_take (i := 0) (v := ?_) rfl (by kernel_rfl) (by kernel_rfl) (by kernel_rfl) (fun _ _ _ h => h) (Or.inl ⟨by rfl, ?takeYep0⟩) (by assumption) ?takeRep0
  case takeYep0 => (intro w hSw; (try dsimp only at hSw); go_simp; try (with_reducible rfl))
  simp only [Act.put, List.setIfInBounds_toArray, List.set_cons_zero, List.set_cons_succ, List.getElem_toArray, List.getElem_cons_zero]
  refine wpAnyH_take (i := 1) (v := ?_) rfl (by kernel_rfl) (by kernel_rfl) (by kernel_rfl) (fun _ _ _ h => h) (Or.inl ⟨by rfl, ?takeYep1⟩) (by assumption) ?takeRep1
  case takeYep1 => (intro w hSw; (try dsimp only at hSw); go_simp; try (with_reducible rfl))
  simp only [Act.put, List.setIfInBounds_toArray, List.set_cons_zero, List.set_cons_succ, List.getElem_toArray, List.getElem_cons_zero, List.getElem_cons_succ]
  refine wpAnyH_take (i := 4) (v := ?_) rfl (by kernel_rfl) (by kernel_rfl) (by kernel_rfl) (fun _ _ _ h => h) (Or.inl ⟨by rfl, ?takeYep4⟩) (by assumption) ?takeRep4
  case takeYep4 => (intro w hSw; (try dsimp only at hSw); go_simp; try (with_reducible rfl))
  simp only [Act.put, List.setIfInBounds_toArray, List.set_cons_zero, List.set_cons_succ, List.getElem_toArray, List.getElem_cons_zero, List.getElem_cons_succ]
  refine wpAnyH_take (i := 5) (v := ?_) rfl (by kernel_rfl) (by kernel_rfl) (by kernel_rfl) (fun _ _ _ h => h) (Or.inl ⟨by rfl, ?takeYep5⟩) (by assumption) ?takeRep5
  case takeYep5 => (intro w hSw; (try dsimp only at hSw); go_simp; try (with_reducible rfl))
  simp only [Act.put, List.setIfInBounds_toArray, List.set_cons_zero, List.set_cons_succ, List.getElem_toArray, List.getElem_cons_zero, List.getElem_cons_succ]
  refine wpAnyH_take (i := 9) (v := ?_) rfl (by kernel_rfl) (by kernel_rfl) (by kernel_rfl) (fun _ _ _ h => h) (Or.inl ⟨by rfl, ?takeYep9⟩) (by assumption) ?takeRep9
  case takeYep9 => (intro w hSw; (try dsimp only at hSw); go_simp; try (with_reducible rfl))
  simp only [Act.put, List.setIfInBounds_toArray, List.set_cons_zero, List.set_cons_succ, List.getElem_toArray, List.getElem_cons_zero, List.getElem_cons_succ]
  refine wpAnyH_take (i := 10) (v := ?_) rfl (by kernel_rfl) (by kernel_rfl) (by kernel_rfl) (fun _ _ _ h => h) (Or.inl ⟨by rfl, ?takeYep10⟩) (by assumption) ?takeRep10
  case takeYep10 => (intro w hSw; (try dsimp only at hSw); go_simp; try (with_reducible rfl))
  simp only [Act.put, List.setIfInBounds_toArray, List.set_cons_zero, List.set_cons_succ, List.getElem_toArray, List.getElem_cons_zero, List.getElem_cons_succ]
  refine wpAnyH_take (i := 13) (v := ?_) rfl (by kernel_rfl) (by kernel_rfl) (by kernel_rfl) (fun _ _ _ h => h) (Or.inl ⟨by rfl, ?takeYep13⟩) (by assumption) ?takeRep13
  case takeYep13 => (intro w hSw; (try dsimp only at hSw); go_simp; try (with_reducible rfl))
  simp only [Act.put, List.setIfInBounds_toArray, List.set_cons_zero, List.set_cons_succ, List.getElem_toArray, List.getElem_cons_zero, List.getElem_cons_succ]
  refine wpAnyH_take (i := 14) (v := ?_) rfl (by kernel_rfl) (by kernel_rfl) (by kernel_rfl) (fun _ _ _ h => h) (Or.inl ⟨by rfl, ?takeYep14⟩) (by assumption) ?takeRep14
  case takeYep14 => (intro w hSw; (try dsimp only at hSw); go_simp; try (with_reducible rfl))
  simp only [Act.put, List.setIfInBounds_toArray, List.set_cons_zero, List.set_cons_succ, List.getElem_toArray, List.getElem_cons_zero, List.getElem_cons_succ]
  refine wpAnyH_take (i := 17) (v := ?_) rfl (by kernel_rfl) (by kernel_rfl) (by kernel_rfl) (fun _ _ _ h => h) (Or.inl ⟨by rfl, ?takeYep17⟩) (by assumption) ?takeRep17
  case takeYep17 => (intro w hSw; (try dsimp only at hSw); go_simp; try (with_reducible rfl))
  simp only [Act.put, List.setIfInBounds_toArray, List.set_cons_zero, List.set_cons_succ, List.getElem_toArray, List.getElem_cons_zero, List.getElem_cons_succ]
  refine wpAnyH_take (i := 18) (v := ?_) rfl (by kernel_rfl) (by kernel_rfl) (by kernel_rfl) (fun _ _ _ h => h) (Or.inl ⟨by rfl, ?takeYep18⟩) (by assumption) ?takeRep18
  case takeYep18 => (intro w hSw; (try dsimp only at hSw); go_simp; try (with_reducible rfl))
  simp only [Act.put, List.setIfInBounds_toArray, List.set_cons_zero, List.set_cons_succ, List.getElem_toArray, List.getElem_cons_zero, List.getElem_cons_succ]
  refine wpAnyH_take (i := 22) (v := ?_) rfl (by kernel_rfl) (by kernel_rfl) (by kernel_rfl) (fun _ _ _ h => h) (Or.inl ⟨by rfl, ?takeYep22⟩) (by assumption) ?takeRep22
  case takeYep22 => (intro w hSw; (try dsimp only at hSw); go_simp; try (with_reducible rfl))
  simp only [Act.put, List.setIfInBounds_toArray, List.set_cons_zero, List.set_cons_succ, List.getElem_toArray, List.getElem_cons_zero, List.getElem_cons_succ]
  refine wpAnyH_take (i := 23) (v := ?_) rfl (by kernel_rfl) (by kernel_rfl) (by kernel_rfl) (fun _ _ _ h => h) (Or.inl ⟨by rfl, ?takeYep23⟩) (by assumption) ?takeRep23
  case takeYep23 => (intro w hSw; (try dsimp only at hSw); go_simp; try (with_reducible rfl))
  simp only [Act.put, List.setIfInBounds_toArray, List.set_cons_zero, List.set_cons_succ, List.getElem_toArray, List.getElem_cons_zero, List.getElem_cons_succ]
  refine wpAnyH_ready (rs := [2]) (by kernel_rfl) (by simp) ?_
  refine AllReadyH.cons rfl (fun K hK => ?_) AllReadyH.nil
  go_simp
  refine (cq _).mono ?_
  rintro e w1 ⟨rfl, q1⟩
  have b1 : Below W1.heap.size W1 w1 := BD.trans (q1.mono BD.size)
  clear q1
  go_wp2_with fail
  refine hK.out _ _ (NEW.out w1 b1) (fun hHeldep2 => ?_)
  clear hK K
  try simp only [Act.put, List.setIfInBounds_toArray, List.set_cons_zero, List.set_cons_succ, List.getElem_toArray, List.getElem_cons_zero, List.getElem_cons_succ]
  refine wpAnyH_take (i := 3) (v := ?_) rfl (by kernel_rfl) (by kernel_rfl) (by kernel_rfl) (fun _ _ _ h => h) (Or.inl ⟨by rfl, ?takeYep3⟩) (by assumption) ?takeRep3
  case takeYep3 => (intro w hSw; (try dsimp only at hSw); go_simp; rw [if_neg (by omega)])
  simp only [Act.put, List.setIfInBounds_toArray, List.set_cons_zero, List.set_cons_succ, List.getElem_toArray, List.getElem_cons_zero, List.getElem_cons_succ]
  refine wpAnyH_ready (rs := [6]) (by kernel_rfl) (by simp) ?_
  refine AllReadyH.cons rfl (fun K hK => ?_) AllReadyH.nil
  go_simp
  refine (ck _).mono ?_
  rintro e w2 ⟨rfl, q2⟩
  have b2 : Below W1.heap.size W1 w2 := b1.trans (q2.mono b1.size)
  clear q2
  go_wp2_with fail
  refine hK.out _ _ (NEW.out w2 b2) (fun hHeldep6 => ?_)
  clear hK K
  try simp only [Act.put, List.setIfInBounds_toArray, List.set_cons_zero, List.set_cons_succ, List.getElem_toArray, List.getElem_cons_zero, List.getElem_cons_succ]
  refine wpAnyH_take (i := 7) (v := ?_) rfl (by kernel_rfl) (by kernel_rfl) (by kernel_rfl) (fun _ _ _ h => h) (Or.inl ⟨by rfl, ?takeYep7⟩) (by assumption) ?takeRep7
  case takeYep7 => (intro w hSw; (try dsimp only at hSw); go_simp; rw [if_neg (by omega)])
  simp only [Act.put, List.setIfInBounds_toArray, List.set_cons_zero, List.set_cons_succ, List.getElem_toArray, List.getElem_cons_zero, List.getElem_cons_succ]
  refine wpAnyH_take (i := 8) (v := ?_) rfl (by kernel_rfl) (by kernel_rfl) (by kernel_rfl) (fun _ _ _ h => h) (Or.inl ⟨by rfl, ?takeYep8⟩) (by assumption) ?takeRep8
  case takeYep8 => (intro w hSw; (try dsimp only at hSw); go_simp; rw [if_neg (by omega)])
  simp only [Act.put, List.setIfInBounds_toArray, List.set_cons_zero, List.set_cons_succ, List.getElem_toArray, List.getElem_cons_zero, List.getElem_cons_succ]
  refine wpAnyH_take (i := 11) (v := ?_) rfl (by kernel_rfl) (by kernel_rfl) (by kernel_rfl) (fun _ _ _ h => h) (Or.inl ⟨by rfl, ?takeYep11⟩) (by assumption) ?takeRep11
  case takeYep11 => (intro w hSw; (try dsimp only at hSw); go_simp; rw [if_neg (by omega)])
  simp only [Act.put, List.setIfInBounds_toArray, List.set_cons_zero, List.set_cons_succ, List.getElem_toArray, List.getElem_cons_zero, List.getElem_cons_succ]
  refine wpAnyH_take (i := 12) (v := ?_) rfl (by kernel_rfl) (by kernel_rfl) (by kernel_rfl) (fun _ _ _ h => h) (Or.inl ⟨by rfl, ?takeYep12⟩) (by assumption) ?takeRep12
  case takeYep12 => (intro w hSw; (try dsimp only at hSw); go_simp; rw [if_neg (by omega)])
  simp only [Act.put, List.setIfInBounds_toArray, List.set_cons_zero, List.set_cons_succ, List.getElem_toArray, List.getElem_cons_zero, List.getElem_cons_succ]
  refine wpAnyH_take (i := 15) (v := ?_) rfl (by kernel_rfl) (by kernel_rfl) (by kernel_rfl) (fun _ _ _ h => h) (Or.inl ⟨by rfl, ?takeYep15⟩) (by assumption) ?takeRep15
  case takeYep15 => (intro w hSw; (try dsimp only at hSw); go_simp; rw [if_neg (by omega)])
  simp only [Act.put, List.setIfInBounds_toArray, List.set_cons_zero, List.set_cons_succ, List.getElem_toArray, List.getElem_cons_zero, List.getElem_cons_succ]
  refine wpAnyH_take (i := 16) (v := ?_) rfl (by kernel_rfl) (by kernel_rfl) (by kernel_rfl) (fun _ _ _ h => h) (Or.inl ⟨by rfl, ?takeYep16⟩) (by assumption) ?takeRep16
  case takeYep16 => (intro w hSw; (try dsimp only at hSw); go_simp; rw [if_neg (by omega)])
  simp only [Act.put, List.setIfInBounds_toArray, List.set_cons_zero, List.set_cons_succ, List.getElem_toArray, List.getElem_cons_zero, List.getElem_cons_succ]
  refine wpAnyH_ready (rs := [19]) (by kernel_rfl) (by simp) ?_
  refine AllReadyH.cons rfl (fun K hK => ?_) AllReadyH.nil
  go_simp
  refine (cn _).mono ?_
  rintro e w3 ⟨rfl, rfl⟩
  go_wp2_with fail
  refine hK.out _ _ (NEW.out _ b2) (fun hHeldep19 => ?_)
  clear hK K
  try simp only [Act.put, List.setIfInBounds_toArray, List.set_cons_zero, List.set_cons_succ, List.getElem_toArray, List.getElem_cons_zero, List.getElem_cons_succ]
  refine wpAnyH_take (i := 20) (v := ?_) rfl (by kernel_rfl) (by kernel_rfl) (by kernel_rfl) (fun _ _ _ h => h) (Or.inl ⟨by rfl, ?takeYep20⟩) (by assumption) ?takeRep20
  case takeYep20 => (intro w hSw; (try dsimp only at hSw); go_simp; rw [if_neg (by omega)])
  simp only [Act.put, List.setIfInBounds_toArray, List.set_cons_zero, List.set_cons_succ, List.getElem_toArray, List.getElem_cons_zero, List.getElem_cons_succ]
  refine wpAnyH_take (i := 21) (v := ?_) rfl (by kernel_rfl) (by kernel_rfl) (by kernel_rfl) (fun _ _ _ h => h) (Or.inl ⟨by rfl, ?takeYep21⟩) (by assumption) ?takeRep21
  case takeYep21 => (intro w hSw; (try dsimp only at hSw); go_simp; rw [if_neg (by omega)])
  simp only [Act.put, List.setIfInBounds_toArray, List.set_cons_zero, List.set_cons_succ, List.getElem_toArray, List.getElem_cons_zero, List.getElem_cons_succ]
  refine wpAnyH_ready (rs := [24]) (by kernel_rfl) (by simp) ?_
  refine AllReadyH.cons rfl (fun K hK => ?_) AllReadyH.nil
  go_simp
  refine (ct _).mono ?_
  rintro e w3 ⟨rfl, rfl⟩
  go_wp2_with fail
  refine hK.out _ _ (NEW.out _ b2) (fun hHeldep24 => ?_)
  clear hK K
  try simp only [Act.put, List.setIfInBounds_toArray, List.set_cons_zero, List.set_cons_succ, List.getElem_toArray, List.getElem_cons_zero, List.getElem_cons_succ]
  refine wpAnyH_take (i := 25) (v := ?_) rfl (by kernel_rfl) (by kernel_rfl) (by kernel_rfl) (fun _ _ _ h => h) (Or.inl ⟨by rfl, ?takeYep25⟩) (by assumption) ?takeRep25
  case takeYep25 => (intro w hSw; (try dsimp only at hSw); go_simp; rw [if_neg (by omega)])
  simp only [Act.put, List.setIfInBounds_toArray, List.set_cons_zero, List.set_cons_succ, List.getElem_toArray, List.getElem_cons_zero, List.getElem_cons_succ]
  refine wpAnyH_take (i := 26) (v := ?_) rfl (by kernel_rfl) (by kernel_rfl) (by kernel_rfl) (fun _ _ _ h => h) (Or.inl ⟨by rfl, ?takeYep26⟩) (by assumption) ?takeRep26
  case takeYep26 => (intro w hSw; (try dsimp only at hSw); go_simp; try (with_reducible rfl))
  simp only [Act.put, List.setIfInBounds_toArray, List.set_cons_zero, List.set_cons_succ, List.getElem_toArray, List.getElem_cons_zero, List.getElem_cons_succ]
  refine wpAnyH_done (by kernel_rfl) ?_ _
  obtain ⟨O, hO⟩ : ∃ O, Dq ++ ⟨#[124]⟩ ++ Dk ++ ⟨#[124]⟩ ++ r ++ ⟨#[124]⟩ ++ u ++ ⟨#[124]⟩ ++ Fn ++ ⟨#[124]⟩ ++ Ft = O := ⟨_, rfl⟩
  have zO : O.size ≤ 700 := by
    have z1 : (⟨#[124]⟩ : ByteArray).size = 1 := rfl
    rw [← hO]; simp only [ByteArray.size_append]; omega
  rw [hO]
  have HO : Hid (Dq ++ ⟨#[124]⟩ ++ Dk ++ ⟨#[124]⟩ ++ r ++ ⟨#[124]⟩ ++ u ++ ⟨#[124]⟩ ++ Fn ++ ⟨#[124]⟩ ++ Ft = O) := hO
  clear hO
  have BE := b2.drew
  go_wp2_with fail
  refine wp_region_held_drew (S := (fun W => W.cell? ⟨B, 0, none⟩ = some (.string r) ∧ W.cell? ⟨B, 1, none⟩ = some (.int .i64 q) ∧ W.cell? ⟨B, 2, none⟩ = some (.int .i64 k) ∧ W.cell? ⟨B, 3, none⟩ = some (.string u) ∧ W.cell? ⟨B, 4, none⟩ = some (.string n) ∧ W.cell? ⟨B, 5, none⟩ = some (.string t) ∧ W.cell? ⟨B, 6, none⟩ = some (.string i) ∧ W.cell? ⟨B, 7, none⟩ = some (.string f) ∧ W.cell? ⟨B, 8, none⟩ = some (.int .i64 m))) (by kernel_rfl) ?_ (fun hHeld => ?_)
  · exact NEW.out _ BE
  refine wpAnyH_take (i := 0) (v := ?_) rfl (by kernel_rfl) (by kernel_rfl) (by kernel_rfl) (fun _ _ _ h => h) (Or.inl ⟨by rfl, ?takeYeq0⟩) (by assumption) ?takeReq0
  case takeYeq0 => (intro w hSw; (try dsimp only at hSw); go_simp; try (with_reducible rfl))
  simp only [Act.put, List.setIfInBounds_toArray, List.set_cons_zero, List.set_cons_succ, List.getElem_toArray, List.getElem_cons_zero]
  refine wpAnyH_take (i := 2) (v := ?_) rfl (by kernel_rfl) (by kernel_rfl) (by kernel_rfl) (fun _ _ _ h => h) (Or.inl ⟨by rfl, ?takeYeq2⟩) (by assumption) ?takeReq2
  case takeYeq2 => (intro w hSw; (try dsimp only at hSw); go_simp; try (with_reducible rfl))
  simp only [Act.put, List.setIfInBounds_toArray, List.set_cons_zero, List.set_cons_succ, List.getElem_toArray, List.getElem_cons_zero, List.getElem_cons_succ]
  refine wpAnyH_take (i := 3) (v := ?_) rfl (by kernel_rfl) (by kernel_rfl) (by kernel_rfl) (fun _ _ _ h => h) (Or.inl ⟨by rfl, ?takeYeq3⟩) (by assumption) ?takeReq3
  case takeYeq3 => (intro w hSw; (try dsimp only at hSw); go_simp; try (with_reducible rfl))
  simp only [Act.put, List.setIfInBounds_toArray, List.set_cons_zero, List.set_cons_succ, List.getElem_toArray, List.getElem_cons_zero, List.getElem_cons_succ]
  refine wpAnyH_take (i := 7) (v := ?_) rfl (by kernel_rfl) (by kernel_rfl) (by kernel_rfl) (fun _ _ _ h => h) (Or.inl ⟨by rfl, ?takeYeq7⟩) (by assumption) ?takeReq7
  case takeYeq7 => (intro w hSw; (try dsimp only at hSw); go_simp; try (with_reducible rfl))
  simp only [Act.put, List.setIfInBounds_toArray, List.set_cons_zero, List.set_cons_succ, List.getElem_toArray, List.getElem_cons_zero, List.getElem_cons_succ]
  refine wpAnyH_take (i := 8) (v := ?_) rfl (by kernel_rfl) (by kernel_rfl) (by kernel_rfl) (fun _ _ _ h => h) (Or.inl ⟨by rfl, ?takeYeq8⟩) (by assumption) ?takeReq8
  case takeYeq8 => (intro w hSw; (try dsimp only at hSw); go_simp; try (with_reducible rfl))
  simp only [Act.put, List.setIfInBounds_toArray, List.set_cons_zero, List.set_cons_succ, List.getElem_toArray, List.getElem_cons_zero, List.getElem_cons_succ]
  refine wpAnyH_take (i := 12) (v := ?_) rfl (by kernel_rfl) (by kernel_rfl) (by kernel_rfl) (fun _ _ _ h => h) (Or.inl ⟨by rfl, ?takeYeq12⟩) (by assumption) ?takeReq12
  case takeYeq12 => (intro w hSw; (try dsimp only at hSw); go_simp; try (with_reducible rfl))
  simp only [Act.put, List.setIfInBounds_toArray, List.set_cons_zero, List.set_cons_succ, List.getElem_toArray, List.getElem_cons_zero, List.getElem_cons_succ]
  refine wpAnyH_take (i := 13) (v := ?_) rfl (by kernel_rfl) (by kernel_rfl) (by kernel_rfl) (fun _ _ _ h => h) (Or.inl ⟨by rfl, ?takeYeq13⟩) (by assumption) ?takeReq13
  case takeYeq13 => (intro w hSw; (try dsimp only at hSw); go_simp; try (with_reducible rfl))
  simp only [Act.put, List.setIfInBounds_toArray, List.set_cons_zero, List.set_cons_succ, List.getElem_toArray, List.getElem_cons_zero, List.getElem_cons_succ]
  refine wpAnyH_take (i := 1) (v := ?_) rfl (by kernel_rfl) (by kernel_rfl) (by kernel_rfl) (fun _ _ _ h => h) (Or.inl ⟨by rfl, ?takeYeq1⟩) (by assumption) ?takeReq1
  case takeYeq1 => (intro w hSw; (try dsimp only at hSw); go_simp; rw [if_neg (by omega)])
  simp only [Act.put, List.setIfInBounds_toArray, List.set_cons_zero, List.set_cons_succ, List.getElem_toArray, List.getElem_cons_zero, List.getElem_cons_succ]
  refine wpAnyH_ready (rs := [4]) (by kernel_rfl) (by simp) ?_
  refine AllReadyH.cons rfl (fun K hK => ?_) AllReadyH.nil
  go_simp
  refine (ci _).mono ?_
  rintro e w3 ⟨rfl, rfl⟩
  go_wp2_with fail
  refine hK.out _ _ (NEW.out _ BE) (fun hHeldeq4 => ?_)
  clear hK K
  try simp only [Act.put, List.setIfInBounds_toArray, List.set_cons_zero, List.set_cons_succ, List.getElem_toArray, List.getElem_cons_zero, List.getElem_cons_succ]
  refine wpAnyH_take (i := 5) (v := ?_) rfl (by kernel_rfl) (by kernel_rfl) (by kernel_rfl) (fun _ _ _ h => h) (Or.inl ⟨by rfl, ?takeYeq5⟩) (by assumption) ?takeReq5
  case takeYeq5 => (intro w hSw; (try dsimp only at hSw); go_simp; rw [if_neg (by omega)])
  simp only [Act.put, List.setIfInBounds_toArray, List.set_cons_zero, List.set_cons_succ, List.getElem_toArray, List.getElem_cons_zero, List.getElem_cons_succ]
  refine wpAnyH_take (i := 6) (v := ?_) rfl (by kernel_rfl) (by kernel_rfl) (by kernel_rfl) (fun _ _ _ h => h) (Or.inl ⟨by rfl, ?takeYeq6⟩) (by assumption) ?takeReq6
  case takeYeq6 => (intro w hSw; (try dsimp only at hSw); go_simp; rw [if_neg (by omega)])
  simp only [Act.put, List.setIfInBounds_toArray, List.set_cons_zero, List.set_cons_succ, List.getElem_toArray, List.getElem_cons_zero, List.getElem_cons_succ]
  refine wpAnyH_ready (rs := [9]) (by kernel_rfl) (by simp) ?_
  refine AllReadyH.cons rfl (fun K hK => ?_) AllReadyH.nil
  go_simp
  refine (cf _).mono ?_
  rintro e w3 ⟨rfl, rfl⟩
  go_wp2_with fail
  refine hK.out _ _ (NEW.out _ BE) (fun hHeldeq9 => ?_)
  clear hK K
  try simp only [Act.put, List.setIfInBounds_toArray, List.set_cons_zero, List.set_cons_succ, List.getElem_toArray, List.getElem_cons_zero, List.getElem_cons_succ]
  refine wpAnyH_take (i := 10) (v := ?_) rfl (by kernel_rfl) (by kernel_rfl) (by kernel_rfl) (fun _ _ _ h => h) (Or.inl ⟨by rfl, ?takeYeq10⟩) (by assumption) ?takeReq10
  case takeYeq10 => (intro w hSw; (try dsimp only at hSw); go_simp; rw [if_neg (by omega)])
  simp only [Act.put, List.setIfInBounds_toArray, List.set_cons_zero, List.set_cons_succ, List.getElem_toArray, List.getElem_cons_zero, List.getElem_cons_succ]
  refine wpAnyH_take (i := 11) (v := ?_) rfl (by kernel_rfl) (by kernel_rfl) (by kernel_rfl) (fun _ _ _ h => h) (Or.inl ⟨by rfl, ?takeYeq11⟩) (by assumption) ?takeReq11
  case takeYeq11 => (intro w hSw; (try dsimp only at hSw); go_simp; rw [if_neg (by omega)])
  simp only [Act.put, List.setIfInBounds_toArray, List.set_cons_zero, List.set_cons_succ, List.getElem_toArray, List.getElem_cons_zero, List.getElem_cons_succ]
  refine wpAnyH_ready (rs := [14]) (by kernel_rfl) (by simp) ?_
  refine AllReadyH.cons rfl (fun K hK => ?_) AllReadyH.nil
  go_simp
  refine (cm _).mono ?_
  rintro e w4 ⟨rfl, q4⟩
  have b4 : Below W1.heap.size W1 w4 := BE.trans (q4.mono BE.size)
  clear q4
  go_wp2_with fail
  refine hK.out _ _ (NEW.out w4 b4) (fun hHeldeq14 => ?_)
  clear hK K
  try simp only [Act.put, List.setIfInBounds_toArray, List.set_cons_zero, List.set_cons_succ, List.getElem_toArray, List.getElem_cons_zero, List.getElem_cons_succ]
  refine wpAnyH_take (i := 15) (v := ?_) rfl (by kernel_rfl) (by kernel_rfl) (by kernel_rfl) (fun _ _ _ h => h) (Or.inl ⟨by rfl, ?takeYeq15⟩) (by assumption) ?takeReq15
  case takeYeq15 => (intro w hSw; (try dsimp only at hSw); go_simp; rw [if_neg (by omega)])
  simp only [Act.put, List.setIfInBounds_toArray, List.set_cons_zero, List.set_cons_succ, List.getElem_toArray, List.getElem_cons_zero, List.getElem_cons_succ]
  refine wpAnyH_take (i := 16) (v := ?_) rfl (by kernel_rfl) (by kernel_rfl) (by kernel_rfl) (fun _ _ _ h => h) (Or.inl ⟨by rfl, ?takeYeq16⟩) (by assumption) ?takeReq16
  case takeYeq16 => (intro w hSw; (try dsimp only at hSw); go_simp; try (with_reducible rfl))
  simp only [Act.put, List.setIfInBounds_toArray, List.set_cons_zero, List.set_cons_succ, List.getElem_toArray, List.getElem_cons_zero, List.getElem_cons_succ]
  refine wpAnyH_done (by kernel_rfl) ?_ _
  go_wp2
  have HO' := HO.out
  rw [HO']
  go_ret
  exact ⟨rfl, b0.trans (b4.mono b0.size)⟩
end Go.Proofs.YtjknjlaabppooaaDoor.Hub
