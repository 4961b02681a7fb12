/-
  The program's Unescape: at every text of at most 2^40 bytes it answers unT.
-/
import Derived.Test.YtbcledidadjddaaDoorIter
import Derived.Test.YtbcledidadjddaaDoorBuilder
import Derived.RangeFuncBox
namespace Go.Proofs.YtbcledidadjddaaDoor.Hub
open Go.RowKit Go.Shelf Go.Proofs
attribute [local go_sem] Oper.semAt_some
set_option linter.unusedVariables false

theorem parts_stops (n : Nat) (hn : 1 ≤ n) (Bs n₀ b : Nat) (s : ByteArray) (hs : s.size ≤ 1099511627776) (hBb : Bs ≠ b) (w0 : World) (hn0 : n₀ = w0.heap.size) (hE : Env w0) (wL : World) (hL : Below n₀ w0 wL) (hb : b < wL.heap.size)
    (hBs : wL.heap[Bs]? = some (.cells #[.string s] 9 (0, 0))) :
    SeqStopsK Fence.wide n Tryd.prog 68 #[.pointer (some ⟨Bs, 0, none⟩)] (fun x : Int × Int × Int => #[.agg #[.int .i64 x.1, .int .i64 x.2.1, .int .i64 x.2.2]]) (KeepRest n₀ b) (fun xs => xs = partsAll s) (fun pre => pre <+: partsAll s) s.size wL :=
  fun l J Jx W hW hJ _ hY h0 => parts_in n hn l Bs n₀ b s hs hBb w0 hn0 hE J Jx W (hL.trans (hW.mono (by have := hL.size; omega))) hJ (Nat.lt_of_lt_of_le hb hW.size) hY ((hW.block Bs (Array.getElem?_eq_some_iff.1 hBs).1).trans hBs) h0

/-- A builder stays one while what is no cells turns, and new blocks are laid. -/
theorem builder_kept {T e : TypeId} {B b : Nat} {bs : List Value} {W W' : World} {row : Option Nat} (h : Lib.IsBuilderF T e B b bs W) (hg : W.grownBy W' row) (hr : ∀ r, row = some r → ∃ o : Obj, W.heap[r]? = some o ∧ o.isCells = false) : Lib.IsBuilderF T e B b bs W' := by
  have key : ∀ p, Lib.BuilderAtF T e B b p bs W → Lib.BuilderAtF T e B b p bs W' := fun p h => by
    obtain ⟨hB, v, hb, hown, hne⟩ := h
    refine ⟨hB, v, (grownBy_keeps_cells hg hr hb rfl).trans hb, ⟨hown.1, ?_⟩, hne⟩
    rcases hown.2 with hn | ⟨g, cap, cur, fz, hv, hbg, hgg, rest⟩
    · exact .inl hn
    · exact .inr ⟨g, cap, cur, fz, hv, hbg, (grownBy_keeps_cells hg hr hgg rfl).trans hgg, rest⟩
  exact h.elim (fun x => .inl (key _ x)) (fun x => .inr (key _ x))

theorem keepRest_of_others {n₀ B b : Nat} {W W' : World} (hn : n₀ ≤ B) (hb : Below B W W') (ho : Lib.OthersKept 5 (some b) W W') : KeepRest n₀ b W W' :=
  ⟨hb.mono hn, fun k c t f hk ht hkb => ho k _ hk (fun e => hkb (Option.some.inj e)) (fun c' f' e => by injection e with _ e2 _; exact ht e2)⟩
theorem keepRest_of_below {n₀ b : Nat} {W W' : World} (hn : n₀ ≤ W.heap.size) (hb : Below W.heap.size W W') : KeepRest n₀ b W W' :=
  ⟨hb.mono hn, fun k c t f hk _ _ => (hb.block k (Array.getElem?_eq_some_iff.1 hk).1).trans hk⟩
theorem keepsFrom_of_below {n : Nat} {W W' : World} (hb : Below W.heap.size W W') : KeepsFrom n W W' :=
  ⟨hb.size, fun k o _ hk _ => (hb.block k (Array.getElem?_eq_some_iff.1 hk).1).trans hk⟩
theorem keepsFrom_of_others {n B b : Nat} {W W' : World} (hn : b < n) (hb : Below B W W') (ho : Lib.OthersKept 5 (some b) W W') : KeepsFrom n W W' :=
  ⟨hb.size, fun k o hk hko hc => ho k o hko (fun e => by have := Option.some.inj e; omega) (fun c' f' e => by subst e; cases hc)⟩
theorem builder_below {T e : TypeId} {B b : Nat} {bs : List Value} {W W' : World} (h : Lib.IsBuilderF T e B b bs W) (hb : Below W.heap.size W W') : Lib.IsBuilderF T e B b bs W' :=
  builder_kept h (grown_of_below hb) (fun r e => by cases e)
theorem boxed_below {W W' : World} {B : Nat} {t : TypeId} {v : Value} (h : Boxed W B t v) (hb : Below W.heap.size W W') : Boxed W' B t v := (hb.block B h.lt).trans h
theorem boxed_others {W W' : World} {B b : Nat} {t : TypeId} {v : Value} (h : Boxed W B t v) (ht : t ≠ 5) (hB : B ≠ b) (ho : Lib.OthersKept 5 (some b) W W') : Boxed W' B t v :=
  ho B _ h (fun e => hB (Option.some.inj e)) (fun c' f' e => by injection e with _ e2 _; exact ht e2)
theorem cells3_kept {W W' : World} {row : Option Nat} {B : Nat} {c : Array Value} {t : TypeId} (h : W.heap[B]? = some (.cells c t (0, 0))) (hg : W.grownBy W' row) (hr : ∀ r, row = some r → ∃ o : Obj, W.heap[r]? = some o ∧ o.isCells = false) : W'.heap[B]? = some (.cells c t (0, 0)) :=
  (grownBy_keeps_cells hg hr h rfl).trans h
theorem all_snoc (pre : List (Int × Int × Int)) (x : Int × Int × Int) : (pre ++ [x]).all goodB = (pre.all goodB && goodB x) := by simp

set_option maxRecDepth 100000 in
set_option maxHeartbeats 4000000 in
theorem unescape_any (s : ByteArray) (w : World) (hs : s.size ≤ 1099511627776) (hE : Env w) :
    Calls Tryd.prog 20 #[.string s] w fun e w' => e = .returned (.tuple #[.string (unT s).1, .bool (unT s).2]) ∧ Below w.heap.size w w' := by
  refine (callsIn_wide (n := 3)).1 ?_
  refine callsIn_of_wp_marks Tryd.func20 rfl trivial ?_ rfl
  simp only [Tryd.ntmps20, List.size_toArray, List.length_cons, List.length_nil, Nat.reduceAdd, Nat.reduceSub, Array.replicate_succ, Array.replicate_zero, List.push_toArray, List.append_toArray, List.nil_append, List.cons_append]
  gi_wp2_with fail
  refine ⟨trivial, ?_⟩
  refine (callsIn_wide.2 (textParts_any s _)).mono ?_
  rintro e w' ⟨rfl, rfl⟩
  gi_wp2_with fail
  have bR := (((Boxed.new w 9 (.string ⟨#[]⟩)).alloc (.cells #[.bool false] 4)).alloc (.cells #[.pointer none, .slice none 0 0] 47)).alloc (.cells #[.string s] 9)
  have bO := ((Boxed.new (w.alloc (.cells #[.string ⟨#[]⟩] 9)) 4 (.bool false)).alloc (.cells #[.pointer none, .slice none 0 0] 47)).alloc (.cells #[.string s] 9)
  have bB := (Lib.IsBuilderF.of (Lib.fresh_isBuilder 47 5 ((w.alloc (.cells #[.string ⟨#[]⟩] 9)).alloc (.cells #[.bool false] 4)))).alloc (.cells #[.string s] 9)
  have bS := Boxed.new (((w.alloc (.cells #[.string ⟨#[]⟩] 9)).alloc (.cells #[.bool false] 4)).alloc (.cells #[.pointer none, .slice none 0 0] 47)) 9 (.string s)
  have hB0 : Below w.heap.size w ((((w.alloc (.cells #[.string ⟨#[]⟩] 9)).alloc (.cells #[.bool false] 4)).alloc (.cells #[.pointer none, .slice none 0 0] 47)).alloc (.cells #[.string s] 9)) := ((((Below.refl _ w).alloc (Nat.le_refl _) _).alloc (by simp) _).alloc (by simp; omega) _).alloc (by simp; omega) _
  have hsz : ((((w.alloc (.cells #[.string ⟨#[]⟩] 9)).alloc (.cells #[.bool false] 4)).alloc (.cells #[.pointer none, .slice none 0 0] 47)).alloc (.cells #[.string s] 9)).heap.size = w.heap.size + 4 := by simp
  simp only [World.size_alloc] at bR bO bB bS
  obtain ⟨W0, hW0⟩ : ∃ W0, (((w.alloc (.cells #[.string ⟨#[]⟩] 9)).alloc (.cells #[.bool false] 4)).alloc (.cells #[.pointer none, .slice none 0 0] 47)).alloc (.cells #[.string s] 9) = W0 := ⟨_, rfl⟩
  rw [hW0] at bR bO bB bS hB0 hsz ⊢
  clear hW0
  refine wpIn_rangeFunc_ownH rfl (by decide) (gf := 68) (lb := #[.pointer (some ⟨w.heap.size + 1 + 1 + 1, 0, none⟩)]) rfl trivial (enters_of Tryd.func68 (by kernel_rfl) rfl)
    (parts_stops 2 (by decide) (w.heap.size + 1 + 1 + 1) w.heap.size (w.heap.size + 1 + 1) s hs (by omega) w rfl hE W0 hB0 (by omega) bS) KeepRest.trans (KeepRest.putObj (w := W0) (by omega)) (Below.refl _ _) (fun _ => rfl)
    (fun pre W => ((pre.all goodB = true ∧ Lib.IsBuilderF 47 5 (w.heap.size + 1 + 1) (w.heap.size + 1 + 1) (Lib.byteCells (outL pre)) W) ∧ (Boxed W w.heap.size 9 (.string ⟨#[]⟩) ∧ Boxed W (w.heap.size + 1) 4 (.bool false))) ∧ Below w.heap.size w W)
    (fun c pre W => ((c = .ret ∧ pre.all goodB = false) ∧ (Boxed W w.heap.size 9 (.string ⟨#[]⟩) ∧ Boxed W (w.heap.size + 1) 4 (.bool false))) ∧ Below w.heap.size w W)
    (OwnFrom.and (OwnFrom.and (Own.from (fun p A B row h hg hr => ⟨h.1, builder_kept h.2 hg hr⟩) _) (OwnFrom.and (Own.from (boxed_own _ _ _) _) (Own.from (boxed_own _ _ _) _))) (ownFrom_below (Nat.le_refl _) (by omega)))
    (fun c => OwnFrom.and (OwnFrom.and (ownFrom_pure _ _) (OwnFrom.and (Own.from (boxed_own _ _ _) _) (Own.from (boxed_own _ _ _) _))) (ownFrom_below (Nat.le_refl _) (by omega)))
    ⟨⟨⟨rfl, bB⟩, bR, bO⟩, hB0⟩
    (fun x a' W => ∃ Bx, w.heap.size + 1 + 1 < Bx ∧ W.heap[Bx]? = some (.cells #[.int .i64 x.1, .int .i64 x.2.1, .int .i64 x.2.2] 64 (0, 0)) ∧ a' = { tmps := #[.string s, undef, .pointer (some ⟨w.heap.size, 0, none⟩), .pointer (some ⟨w.heap.size + 1, 0, none⟩), .pointer (some ⟨w.heap.size + 1 + 1, 0, none⟩), .pointer (some ⟨Bx, 0, none⟩), .string s, .func (.func 68) #[] #[.pointer (some ⟨w.heap.size + 1 + 1 + 1, 0, none⟩)], .agg #[.int .i64 x.1, .int .i64 x.2.1, .int .i64 x.2.2], undef, undef, undef, undef, undef, undef, undef, undef, undef, undef, undef, undef], defers := [] })
    (fun x a' _ X Y row h hg hr => by obtain ⟨Bx, h1, h2, h3⟩ := h; exact ⟨Bx, h1, cells3_kept h2 hg (fun r e => (hr r e).2), h3⟩)
    ?assign ?body ?done ?stop
  case assign =>
    rintro l pre ⟨x1, x2, x3⟩ W K ⟨⟨⟨hg, hb⟩, bR1, bO1⟩, hB1⟩ hK
    have hbl := hb.elim (fun h => h.lt) (fun h => h.lt)
    gi_wp2
    exact hK _ _ ((KeepsOthers.alloc _ _).from _) (keepRest_of_below hB1.size ((Below.refl _ W).alloc (Nat.le_refl _) _)) ⟨⟨⟨hg, hb.alloc _⟩, bR1.alloc _, bO1.alloc _⟩, hB1.alloc hB1.size _⟩ ⟨W.heap.size, hbl, World.alloc_heap_new _ _, rfl⟩
  case body =>
    rintro l pre ⟨x1, x2, x3⟩ a' W hl ⟨r, hr⟩ ⟨⟨⟨hg, hb⟩, bR1, bO1⟩, hB1⟩ ⟨Bx, hBx, hX, rfl⟩ hlt
    have hbl := hb.elim (fun h => h.lt) (fun h => h.lt)
    have hle := outL_le pre
    have cR := bR1.cell
    have fR := bR1.frozen
    have cO := bO1.cell
    have fO := bO1.frozen
    have c0 : W.cell? ⟨Bx, 0, none⟩ = some (.int .i64 x1) := by simp [World.cell?, hX]
    have c1 : W.cell? ⟨Bx, 1, none⟩ = some (.int .i64 x2) := by simp [World.cell?, hX]
    have c2 : W.cell? ⟨Bx, 2, none⟩ = some (.int .i64 x3) := by simp [World.cell?, hX]
    dsimp only
    have hstop : ∀ W1, Below W.heap.size W W1 → goodB (x1, x2, x3) = false → KeepsFrom W0.heap.size W ((W1.setCell ⟨w.heap.size, 0, none⟩ (.string ⟨#[]⟩)).setCell ⟨w.heap.size + 1, 0, none⟩ (.bool false)) ∧ (((Code.ret = Code.ret ∧ (pre ++ [(x1, x2, x3)]).all goodB = false) ∧ (Boxed ((W1.setCell ⟨w.heap.size, 0, none⟩ (.string ⟨#[]⟩)).setCell ⟨w.heap.size + 1, 0, none⟩ (.bool false)) w.heap.size 9 (.string ⟨#[]⟩) ∧ Boxed ((W1.setCell ⟨w.heap.size, 0, none⟩ (.string ⟨#[]⟩)).setCell ⟨w.heap.size + 1, 0, none⟩ (.bool false)) (w.heap.size + 1) 4 (.bool false))) ∧ Below w.heap.size w ((W1.setCell ⟨w.heap.size, 0, none⟩ (.string ⟨#[]⟩)).setCell ⟨w.heap.size + 1, 0, none⟩ (.bool false))) := by
      intro W1 hb1 hg1
      have r1 := boxed_below bR1 hb1
      have o1 := boxed_below bO1 hb1
      refine ⟨(keepsFrom_of_below hb1).trans (((KeepsOthers.setCell _ _ _).trans (KeepsOthers.setCell _ _ _)).from _), ⟨⟨rfl, by rw [all_snoc, hg1, Bool.and_false]⟩, (r1.set _).other (by omega) _, (o1.other (by omega) _).set _⟩, ?_⟩
      exact ((hB1.trans (hb1.mono hB1.size)).setCell (p := ⟨w.heap.size, 0, none⟩) (Nat.le_refl _) _).setCell (p := ⟨w.heap.size + 1, 0, none⟩) (by simp) _
    by_cases h3 : x3 = 0
    · subst h3
      gi_wp2_with fail
      refine ⟨trivial, ?_⟩
      refine (CallsIn.inRound l (callsIn_wide.2 (isRaw_any (x1, x2, 0) 60 (by decide) W))).mono ?_
      rintro e W1 ⟨rfl, hb1⟩
      have r1 := boxed_below bR1 hb1
      have o1 := boxed_below bO1 hb1
      have b1 := builder_below hb hb1
      have hX1 := (hb1.block Bx (Array.getElem?_eq_some_iff.1 hX).1).trans hX
      have d0 : W1.cell? ⟨Bx, 0, none⟩ = some (.int .i64 x1) := by simp [World.cell?, hX1]
      have cR1 := r1.cell
      have fR1 := r1.frozen
      have cO1 := o1.cell
      have fO1 := o1.frozen
      have hbl1 := hb1.size
      cases hraw : rawB (x1, x2, 0) 60
      · have hgd : goodB (x1, x2, 0) = true := by unfold goodB; rw [hraw]; rfl
        clear hstop hr
        have hps := putS_small x1
        have hpl : (putS x1).size = (putS x1).data.toList.length := rfl
        have hlen : (Lib.byteCells (outL pre)).length + (putS x1).size ≤ 140737488355328 := by rw [Lib.byteCells_length]; omega
        have hsp := signPut_any x1 W1
        have hwe : Lib.byteCells (outL (pre ++ [(x1, x2, 0)])) = Lib.byteCells (outL pre) ++ Lib.strCells (putS x1) := by rw [outL_snoc]; simp [Lib.byteCells, Lib.strCells]
        have HWE : Hid (Lib.byteCells (outL (pre ++ [(x1, x2, 0)])) = Lib.byteCells (outL pre) ++ Lib.strCells (putS x1)) := hwe
        have hws := writeString_any (w.heap.size + 1 + 1) (w.heap.size + 1 + 1) _ (putS x1) W1 b1 hlen (by omega)
        clear hwe hpl hps
        generalize putS x1 = E at *
        gi_wp2_with fail
        refine ⟨trivial, ?_⟩
        refine (CallsIn.inRound l (callsIn_wide.2 hsp)).mono ?_
        rintro e w2 ⟨rfl, rfl⟩
        gi_wp2_with fail
        refine ⟨trivial, ?_⟩
        refine (CallsIn.inRound l (callsIn_wide.2 hws)).mono ?_
        rintro e W2 ⟨rfl, h2, hbl2, hk2⟩
        gi_wp2_with fail
        refine ⟨(keepsFrom_of_below hb1).trans (keepsFrom_of_others (by omega) hbl2 hk2), (keepRest_of_below hB1.size hb1).trans (keepRest_of_others (by omega) hbl2 hk2), ⟨⟨⟨by rw [all_snoc, hg, hgd]; rfl, by rw [HWE.out]; exact .inr h2⟩, boxed_others r1 (by decide) (by omega) hk2, boxed_others o1 (by decide) (by omega) hk2⟩, (hB1.trans (hb1.mono hB1.size)).trans (hbl2.mono (by omega))⟩⟩
      · have hgd : goodB (x1, x2, 0) = false := by unfold goodB; rw [hraw]; simp
        have hfin := hstop W1 hb1 hgd
        clear hstop
        gi_wp2_with fail
        exact ⟨hfin.1, ⟨⟨rfl, hfin.2.1.1.2⟩, hfin.2.1.2⟩, hfin.2.2⟩
    · have q3 : (x3 != 0) = true := by rw [bne_iff_ne]; exact h3
      have hgd : goodB (x1, x2, x3) = false := by unfold goodB; simp [h3]
      have hfin := hstop W (Below.refl _ _) hgd
      clear hstop
      gi_wp2_with fail
      refine ⟨trivial, ?_⟩
      gi_wp2_with fail
      exact ⟨hfin.1, ⟨⟨rfl, hfin.2.1.1.2⟩, hfin.2.1.2⟩, hfin.2.2⟩
  case done =>
    rintro D zs W hD rfl ⟨⟨⟨hg, hb⟩, bR1, bO1⟩, hB1⟩ hK
    have hun := unT_parts s
    rw [if_pos hg] at hun
    have hbl := hb.elim (fun h => h.lt) (fun h => h.lt)
    have HS := Tryd.Builder_String_any_k (w.heap.size + 1 + 1) (w.heap.size + 1 + 1) (outL (partsAll s)) W hb (by omega)
    have hof : (⟨(outL (partsAll s)).toArray⟩ : ByteArray) = ofL (outL (partsAll s)) := rfl
    rw [hof] at HS
    generalize ofL (outL (partsAll s)) = E at HS hun
    have HUN : Hid (unT s = (E, true)) := hun
    clear hof hun hg hb
    gi_wp2_with fail
    refine ⟨trivial, ?_⟩
    refine (callsIn_wide.2 HS).mono ?_
    rintro e W2 ⟨rfl, _, hbl2, hk2⟩
    have r1 := boxed_others bR1 (by decide) (by omega) hk2
    have o1 := boxed_others bO1 (by decide) (by omega) hk2
    have cR1 := r1.cell
    have fR1 := r1.frozen
    have cO1 := o1.cell
    have fO1 := o1.frozen
    have hK2 := hk2 D _ hK (fun e => by have := Option.some.inj e; omega) (fun c' f' e => by cases e)
    have hB2 := hB1.trans (hbl2.mono (by omega))
    clear HS
    gi_wp2_with fail
    have hK3 := ((KeepsOthers.setCell W2 ⟨w.heap.size, 0, none⟩ (.string E)).trans (KeepsOthers.setCell _ ⟨w.heap.size + 1, 0, none⟩ (.bool true))).same D _ hK2 rfl
    refine ⟨by simp, .inl ⟨_, _, rfl, run_takeDeferred hK3, ?_⟩⟩
    have e1 := (boxed_own w.heap.size 9 (fun (_ : Unit) => Value.string E) () _ _ _ ((r1.set (.string E)).other (B' := w.heap.size + 1) (by omega) (.bool true)) (grownBy_putObj' _ D (.deferred none)) (fun r e => by cases e; exact ⟨_, hK3, rfl⟩)).cell
    have e2 := (boxed_own (w.heap.size + 1) 4 (fun (_ : Unit) => Value.bool true) () _ _ _ ((o1.other (B' := w.heap.size) (by omega) (.string E)).set (.bool true)) (grownBy_putObj' _ D (.deferred none)) (fun r e => by cases e; exact ⟨_, hK3, rfl⟩)).cell
    refine ⟨.tuple #[.string E, .bool true], ?_, by rw [HUN.out], ((hB2.setCell (p := ⟨w.heap.size, 0, none⟩) (Nat.le_refl _) _).setCell (p := ⟨w.heap.size + 1, 0, none⟩) (by simp) _).trans (belowK_b (w := w) (Nat.le_refl _) _ D _ _ (by omega) hK3 rfl rfl)⟩
    simp [results, Tryd.f20, go_sem, e1, e2]
  case stop =>
    rintro D c pre W hD hpre ⟨⟨⟨rfl, hg⟩, bR1, bO1⟩, hB1⟩ hK
    have hun := unT_parts s
    rw [if_neg (by
      intro h
      obtain ⟨t, ht⟩ := hpre
      rw [← ht, List.all_append, hg] at h
      cases h)] at hun
    have HUN : Hid (unT s = (⟨#[]⟩, false)) := hun
    clear hun
    gi_wp2_with fail
    refine ⟨by simp, .inl ⟨_, _, rfl, run_takeDeferred hK, ?_⟩⟩
    have e1 := (boxed_own w.heap.size 9 (fun (_ : Unit) => Value.string ⟨#[]⟩) () _ _ _ bR1 (grownBy_putObj' _ D (.deferred none)) (fun r e => by cases e; exact ⟨_, hK, rfl⟩)).cell
    have e2 := (boxed_own (w.heap.size + 1) 4 (fun (_ : Unit) => Value.bool false) () _ _ _ bO1 (grownBy_putObj' _ D (.deferred none)) (fun r e => by cases e; exact ⟨_, hK, rfl⟩)).cell
    refine ⟨.tuple #[.string ⟨#[]⟩, .bool false], ?_, by rw [HUN.out], hB1.trans (belowK_b (w := w) (Nat.le_refl _) W D _ _ (by omega) hK rfl rfl)⟩
    simp [results, Tryd.f20, go_sem, e1, e2]
end Go.Proofs.YtbcledidadjddaaDoor.Hub
