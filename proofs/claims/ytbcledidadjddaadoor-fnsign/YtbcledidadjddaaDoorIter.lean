/-
  The program's textParts and the function that it hands back: it gives the parts of a text one after the other, up to the first that is not whole, to whatever body keeps the iterator's own cells.
-/
import Derived.RangeFuncNested
import Derived.RangeFuncBound
import Derived.RangeFuncCalls
import Derived.RangeFuncLeaves
import Derived.Shelf.Abstract
import Derived.Shelf.RegionOpen
import Derived.WalkKit
import Derived.OwnWalkIn
import Derived.TacticsInMore
import Derived.LoopNIn
import Derived.LoopIn
import Derived.Test.YtbcledidadjddaaDoorPartsPlain
namespace Go.Proofs.YtbcledidadjddaaDoor.Hub
open Go.RowKit Go.Shelf Go.Proofs
attribute [local go_sem] Oper.semAt_some
set_option linter.unusedVariables false

/-- What a round of the body keeps: all that lay below n₀, and all cells but those of block b and rows of bytes. -/
structure KeepRest (n₀ b : Nat) (W W' : World) : Prop where
  below : Below n₀ W W'
  cells : ∀ (k : Nat) (c : Array Value) (t : TypeId) (f : Nat × Nat), W.heap[k]? = some (.cells c t f) → t ≠ 5 → k ≠ b → W'.heap[k]? = some (.cells c t f)
theorem KeepRest.trans {n₀ b : Nat} {A B C : World} (h : KeepRest n₀ b A B) (k : KeepRest n₀ b B C) : KeepRest n₀ b A C :=
  ⟨h.below.trans k.below, fun i c t f hi ht hb => k.cells i c t f (h.cells i c t f hi ht hb) ht hb⟩
theorem KeepRest.putObj {n₀ b : Nat} {w : World} (hn : n₀ ≤ w.heap.size) (W : World) (l : Nat) (o o' : Obj) (hl : w.heap.size ≤ l) (h : W.heap[l]? = some o) (hc : o.isCells = false) (hw : o.isWalk = false) : KeepRest n₀ b W (W.putObj l o') :=
  ⟨belowK_b (w := w) hn W l o o' hl h hc hw, fun k c t f hk _ _ => by
    have hne : k ≠ l := by
      intro e
      rw [e, h] at hk
      cases hk
      cases hc
    exact (World.putObj_heap_other hne).trans hk⟩

theorem textParts_any (s : ByteArray) (w : World) :
    Calls Tryd.prog 43 #[.string s] w fun e w' => e = .returned (.func (.func 68) #[] #[.pointer (some ⟨w.heap.size, 0, none⟩)]) ∧ w' = w.alloc (.cells #[.string s] 9) := by
  have hmf : ∀ (fn : Fn) (first cap : Array Value) (w : World), (Instr.makeFunc fn first cap).run Tryd.prog w = .ok (.func fn first cap) w := fun _ _ _ _ => rfl
  go_enter Tryd.func43, Tryd.ntmps43
  go_wp2
  go_ret
  exact ⟨rfl, rfl⟩

theorem grown_of_below {W W' : World} (h : Below W.heap.size W W') : W.grownBy W' none := ⟨h.os, h.tape, h.output, h.size, fun k hk _ => h.block k hk⟩

set_option maxRecDepth 100000 in
set_option maxHeartbeats 4000000 in
theorem parts_in (n : Nat) (hn : 1 ≤ n) (l Bs n₀ b : Nat) (s : ByteArray) (hs : s.size ≤ 1099511627776) (hBb : Bs ≠ b) (w0 : World) (hn0 : n₀ = w0.heap.size) (hE : Env w0) (J Jx : List (Int × Int × Int) → World → Prop)
    (W : World) (hW0 : Below n₀ w0 W) (hJ : AbidesFrom W.heap.size J) (hb : b < W.heap.size)
    (hY : ∀ pre (x : Int × Int × Int) W1, J pre W1 → pre.length < s.size → YieldAt Fence.wide (n - 1) Tryd.prog l #[.agg #[.int .i64 x.1, .int .i64 x.2.1, .int .i64 x.2.2]] W1 fun e W' =>
      (e = .returned (.bool true) ∧ J (pre ++ [x]) W' ∧ KeepRest n₀ b W1 W') ∨ (e = .returned (.bool false) ∧ Jx (pre ++ [x]) W'))
    (hBs : W.heap[Bs]? = some (.cells #[.string s] 9 (0, 0))) (h0 : J [] W) :
    CallsIn Fence.wide n Tryd.prog 68 #[.func (.yield l) #[] #[], .pointer (some ⟨Bs, 0, none⟩)] W fun e W' => (∃ v, e = .returned v) ∧
      ((∃ ys, ys = partsAll s ∧ J ys W') ∨ (∃ pre, pre <+: partsAll s ∧ Jx pre W')) := by
  refine callsIn_of_wp Tryd.func68 rfl trivial ?_ rfl
  simp only [Tryd.ntmps68, List.size_toArray, List.length_cons, List.length_nil, Nat.reduceAdd, Nat.reduceSub, Array.replicate_succ, Array.replicate_zero, List.push_toArray, List.append_toArray, List.nil_append, List.cons_append]
  gi_wp2
  gi_loopw [3] (fun a wr => ∃ (p f : Nat) (pre : List (Int × Int × Int)), a = .int .i64 p ∧ p ≤ s.size ∧ s.size ≤ p + f ∧ Hid (pre ++ partsFrom s f p = partsAll s) ∧ J pre wr ∧ Below n₀ w0 wr ∧ wr.heap[Bs]? = some (.cells #[.string s] 9 (0, 0)) ∧ W.heap.size ≤ wr.heap.size)
    (fun a _ => s.size - (intOf a).toNat)
  case atStart => exact ⟨0, s.size, [], rfl, by omega, by omega, rfl, h0, hW0, hBs, Nat.le_refl _⟩
  case round =>
    obtain ⟨p, f, pre, rfl, hp, hf, hpre, hJs, hbl, hbs, hsz⟩ := hrel
    have hcell : wr.cell? ⟨Bs, 0, none⟩ = some (.string s) := by simp [World.cell?, hbs]
    by_cases hlt : p < s.size
    · have hsz1 := size_extract s p
      have hfp := fun w1 hE1 => firstPart_any (s.extract p s.size) (by omega) (by omega) w1 hE1
      rw [part_extract s p hlt] at hfp
      have hEr : Env wr := by subst hn0; exact hE.below hbl
      obtain ⟨g, rfl⟩ : ∃ g, f = g + 1 := ⟨f - 1, by omega⟩
      have hnext : partsFrom s (g + 1) p = part s p :: (if (part s p).2.2 = 0 then partsFrom s g (p + (part s p).2.1.toNat) else []) := by
        rw [partsFrom, if_pos hlt]
      have hwh := part_whole s p hlt
      obtain ⟨x, hx⟩ : ∃ x, part s p = x := ⟨_, rfl⟩
      rw [hx] at hfp hnext hwh
      obtain ⟨x1, x2, x3⟩ := x
      simp only at hnext hwh
      have hpre2 := hpre.out
      rw [hnext] at hpre2
      have hlen : pre.length < s.size := by
        have h1 := congrArg List.length hpre2
        have h2 := partsFrom_len s s.size 0
        rw [List.length_append, List.length_cons] at h1
        unfold partsAll at h1
        omega
      have HP : Hid (pre ++ (x1, x2, x3) :: (if x3 = 0 then partsFrom s g (p + x2.toNat) else []) = partsAll s) := hpre2
      clear hpre hpre2 hnext hx
      gi_wp2_with fail
      refine ⟨trivial, ?_⟩
      refine (callsIn_wide.2 (hfp _ hEr)).mono ?_
      rintro e w1 ⟨rfl, hg⟩
      unfold agg3
      have hB1 : Below wr.heap.size wr (w1.alloc (.cells #[.int .i64 x1, .int .i64 x2, .int .i64 x3] 64)) := hg.alloc hg.size _
      have hJ1 := hJ pre wr _ none hJs (grown_of_below hB1) (fun r e => by cases e)
      obtain ⟨fn, tmps, assign, body, hy, hR⟩ := hY pre (x1, x2, x3) _ hJ1 hlen
      dsimp only at hy
      have hbs1 : (w1.alloc (.cells #[.int .i64 x1, .int .i64 x2, .int .i64 x3] 64)).heap[Bs]? = some (.cells #[.string s] 9 (0, 0)) := (hB1.block Bs (Array.getElem?_eq_some_iff.1 hbs).1).trans hbs
      have hown : (w1.alloc (.cells #[.int .i64 x1, .int .i64 x2, .int .i64 x3] 64)).heap[w1.heap.size]? = some (.cells #[.int .i64 x1, .int .i64 x2, .int .i64 x3] 64 (0, 0)) := World.alloc_heap_new _ _
      have hbl1 : Below n₀ w0 (w1.alloc (.cells #[.int .i64 x1, .int .i64 x2, .int .i64 x3] 64)) := hbl.trans (hB1.mono (by have := hbl.size; omega))
      have hsz2 : W.heap.size ≤ (w1.alloc (.cells #[.int .i64 x1, .int .i64 x2, .int .i64 x3] 64)).heap.size := Nat.le_trans hsz hB1.size
      have hbne : w1.heap.size ≠ b := by have := hg.size; omega
      gi_wp2
      refine hR.mono ?_
      rintro e W3 (⟨rfl, hJ3, hk3⟩ | ⟨rfl, hJx3⟩)
      · have hown3 := hk3.cells _ _ _ _ hown (by decide) hbne
        have hbs3 := hk3.cells _ _ _ _ hbs1 (by decide) hBb
        have c1 : W3.cell? ⟨w1.heap.size, 1, none⟩ = some (.int .i64 x2) := by simp [World.cell?, hown3]
        have c2 : W3.cell? ⟨w1.heap.size, 2, none⟩ = some (.int .i64 x3) := by simp [World.cell?, hown3]
        have hsz3 : W.heap.size ≤ W3.heap.size := Nat.le_trans hsz2 hk3.below.size
        have hbl3 := hbl1.trans hk3.below
        by_cases h3 : x3 = 0
        · obtain ⟨m, k, hmk, hk1, hk2, _⟩ := hwh h3
          simp only [Prod.mk.injEq] at hmk
          obtain ⟨rfl, rfl, _⟩ := hmk
          have hnew : Hid ((pre ++ [((m : Int), (k : Int), x3)]) ++ partsFrom s g (p + k) = partsAll s) := by
            have h9 : (pre ++ [((m : Int), (k : Int), x3)]) ++ partsFrom s g (p + k) = partsAll s := by
              rw [← HP.out, if_pos h3, Int.toNat_natCast]; simp
            exact h9
          subst h3
          clear HP hwh hown hbs1 hR hy hJ1 hown3
          gi_wp2
          go_roundw
          case rel => exact ⟨p + k, g, pre ++ [((m : Int), (k : Int), 0)], by go_num, by omega, by omega, hnew, hJ3, hbl3, hbs3, hsz3⟩
          case measure => simp [intOf]; omega
        · have q3 : (x3 != 0) = true := by rw [bne_iff_ne]; exact h3
          have hfin : Hid (pre ++ [(x1, x2, x3)] = partsAll s) := by
            have h9 : pre ++ [(x1, x2, x3)] = partsAll s := by rw [← HP.out, if_neg h3]
            exact h9
          clear HP hwh hown hbs1 hR hy hJ1 hown3 h3
          gi_wp2
          refine bodyPost_ret (results_none rfl _ _ _) rfl ?_
          exact ⟨⟨_, rfl⟩, .inl ⟨_, hfin.out, hJ3⟩⟩
      · have hfin : Hid (pre ++ [(x1, x2, x3)] <+: partsAll s) := by
          have h9 : pre ++ [(x1, x2, x3)] <+: partsAll s := ⟨_, by rw [← HP.out]; simp; rfl⟩
          exact h9
        clear HP hwh hown hbs1 hR hy hJ1
        gi_wp2
        refine bodyPost_ret (results_none rfl _ _ _) rfl ?_
        exact ⟨⟨_, rfl⟩, .inr ⟨_, hfin.out, hJx3⟩⟩
    · have hfin : Hid (pre = partsAll s) := by
        have h9 : pre = partsAll s := by
          rw [← hpre.out]
          cases f with
          | zero => simp [partsFrom]
          | succ f => simp [partsFrom, hlt]
        exact h9
      clear hpre
      gi_wp2
      go_end0
      exact ⟨⟨_, rfl⟩, .inl ⟨_, hfin.out, hJs⟩⟩
end Go.Proofs.YtbcledidadjddaaDoor.Hub
