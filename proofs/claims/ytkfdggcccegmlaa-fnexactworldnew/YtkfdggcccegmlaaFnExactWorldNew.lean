/-
  For every list of accounts the law FnExactWorldNew returns true: impl.WorldNew answers as spec.WorldNew, every field; it writes into no argument, and what it answers owns its memory. No condition: the law itself passes lists with more than 1048576 accounts and bytes together by.
-/
import Derived.Test.YtkfdggcccegmlaaRows
import Derived.Test.YtkfdggcccegmlaaArgAcc
import Derived.Test.YtkfdggcccegmlaaWldL
import Derived.ProofKit
import Derived.OpenShut
import Derived.ShutString
import Derived.Carry
namespace Go.Proofs.Ytkfdggcccegmlaa.fnExactWorldNew
open Go.ChangeShapes Go.WideShapes Go.ChangeAt Go.RowKit
open Go.ChangeMaps (open_string shut_string)
set_option linter.unusedVariables false

theorem either {w w' : World} {e : Ending} {n n' : Nat} {U N : Nat → ByteArray} (h : Hub.NewWld w w' e n U N) (hn' : (if Hub.accsT n U N = true then n else 0) = n') : ∃ a c mid, e = .returned (Hub.wldV a c) ∧ Hub.OwnA w' w.heap.size a n' U N ∧ Hub.OwnC w' mid c n' (fun _ => -1) (fun _ => 0) (fun _ => ⟨#[]⟩) ∧ w.heap.size ≤ mid ∧ ∀ q, a.ownBlock = some q → q < mid := by
  obtain ⟨a, c, mid, he, h⟩ := h
  rcases h with ⟨h, o, p, q, r⟩ | ⟨h, rfl, rfl⟩
  · rw [if_pos h] at hn'; subst hn'; exact ⟨a, c, mid, he, o, p, q, r⟩
  · rw [h, if_neg (by decide)] at hn'; subst hn'
    exact ⟨_, _, w.heap.size, he, ⟨rfl, .inl ⟨rfl, rfl⟩⟩, Hub.OwnC.nil _ _ _ _ _, Nat.le_refl _, fun q h => by cases h⟩
theorem own_below {W W' : World} {base n : Nat} {a : Value} {U N : Nat → ByteArray} (h : Hub.OwnA W base a n U N) (bb : Below W.heap.size W W') : Hub.OwnA W' base a n U N :=
  World.ownsRow.kept (row := none) h ⟨bb.os, bb.tape, bb.output, bb.size, fun q hq _ => bb.block q hq⟩ (Classical.em _)
theorem below_row {B : Nat} {V W W' : World} {row : Option Nat} (h : Below B V W) (g : W.grownBy W' row) (hB : B ≤ W.heap.size) (hr : ∀ q, row = some q → B ≤ q) : Below B V W' := h.grown g hB hr

theorem below_two {B : Nat} {V W W' : World} {a c : Value} (h : Below B V W) (g : W'.os = W.os ∧ W'.tape = W.tape ∧ W'.output = W.output ∧ W.heap.size ≤ W'.heap.size ∧ ∀ q, q < W.heap.size → a.ownBlock ≠ some q → c.ownBlock ≠ some q → W'.heap[q]? = W.heap[q]?) (hB : B ≤ W.heap.size) (ha : ∀ q, a.ownBlock = some q → B ≤ q) (hc : ∀ q, c.ownBlock = some q → B ≤ q) : Below B V W' := by
  obtain ⟨g1, g2, g3, g4, g5⟩ := g
  refine ⟨g1.trans h.os, g2.trans h.tape, g3.trans h.output, Nat.le_trans h.size g4, fun q hq => ?_⟩
  exact (g5 q (by omega) (fun e => by have := ha q e; omega) (fun e => by have := hc q e; omega)).trans (h.block q hq)

set_option maxRecDepth 100000 in
set_option maxHeartbeats 8000000 in
theorem walk (v : Value) (n : Nat) (U N : Nat → ByteArray) (w : World) (hm : Hub.AccAt w v n U N) (hs : ∀ j, j < n → (U j).size ≤ maxLen ∧ (N j).size ≤ maxLen) :
    Calls Try.prog 3 #[v] w fun e w' => e = .returned (.bool true) ∧ Below w.heap.size w w' := by
  unfold maxLen at hs
  have cS := Hub.szAccountS_any v n U N 1048576 w (by omega) (by omega) hm (fun j hj => by have := hs j hj; omega)
  have HM : Hid (Hub.AccAt w v n U N) := hm
  obtain ⟨o, cap, rfl, -⟩ := hm
  go_enter Try.func3, Try.ntmps3
  go_wp2_with fail
  go_fit cS
  rintro e w1 ⟨⟨z, rfl, hz⟩, b1⟩
  rcases hz with hz | ⟨hz, hz1, hz2, hz3⟩
  · go_wp2_with fail
    go_ret
    exact ⟨rfl, b1⟩
  have hz' : ¬ z < 0 := by omega
  have hn : n ≤ 1048576 := by omega
  have hs2 : ∀ j, j < n → (U j).size ≤ 1048576 ∧ (N j).size ≤ 1048576 := fun j hj => by have := hz3 j hj; omega
  have TO := fun W (bb : Below w.heap.size w W) => Hub.toAccountS_any (.slice o n cap) n U N W (HM.out.below bb) hn
  obtain ⟨n', hn'⟩ : ∃ n', (if Hub.accsT n U N = true then n else 0) = n' := ⟨_, rfl⟩
  have hn2 : n' ≤ 4 := by
    rw [← hn']
    split
    · rename_i hT
      unfold Hub.accsT Hub.inI at hT
      simp only [Bool.and_eq_true, decide_eq_true_eq] at hT
      omega
    · omega
  have EI := fun {w w' : World} {e : Ending} (h : Hub.NewWld w w' e n U N) => either h hn'
  clear hz3 hs cS hn'
  go_wp2_with fail
  refine (TO w1 b1).mono ?_
  rintro e w2 ⟨⟨a2, rfl, O2⟩, p2⟩
  have b2 := b1.trans (p2.mono b1.size)
  go_wp2_with fail
  refine (Hub.specWorld_any a2 n U N w2 O2.at hs2 hn).mono ?_
  rintro e w3 ⟨h3, p3⟩
  obtain ⟨aw, cw, midw, rfl, OW, PW, -⟩ := EI h3
  clear h3
  have b3 := b2.trans (p3.mono b2.size)
  obtain ⟨wo, wc, rfl⟩ := Hub.OwnA.shape OW
  obtain ⟨co, cc, rfl⟩ := PW.shape
  obtain ⟨V3, hV3⟩ : ∃ V, w3.alloc (.cells (Hub.wldC (.slice wo n' wc) (.slice co n' cc)) 31) = V := ⟨_, rfl⟩
  have d3 : Below w3.heap.size w3 V3 := by rw [← hV3]; exact (Below.refl _ w3).alloc (Nat.le_refl _) _
  have e3 : V3.heap[w3.heap.size]? = some (.cells (Hub.wldC (.slice wo n' wc) (.slice co n' cc)) 31 (0, 0)) := by rw [← hV3]; exact World.alloc_heap_new w3 _
  have l3 : w3.heap.size < V3.heap.size := by rw [← hV3]; simp
  have B3 := b3.trans (d3.mono b3.size)
  have WW : Hid (∀ W, Below V3.heap.size V3 W → (W.heap[w3.heap.size]? = some (.cells (Hub.wldC (.slice wo n' wc) (.slice co n' cc)) 31 (0, 0))) ∧ Hub.AccAt W (.slice wo n' wc) n' U N ∧ Hub.CliAt W (.slice co n' cc) n' (fun _ => -1) (fun _ => 0) (fun _ => ⟨#[]⟩)) := fun W bb => ⟨(bb.block _ l3).trans e3, OW.at.below (d3.trans (bb.mono d3.size)), PW.at.below (d3.trans (bb.mono d3.size))⟩
  have HV3 : Hid (w3.alloc (.cells (Hub.wldC (.slice wo n' wc) (.slice co n' cc)) 31) = V3) := hV3
  clear hV3
  go_wp2_with fail
  rw [HV3.out]
  refine (TO V3 B3).mono ?_
  rintro e w4 ⟨⟨ax, rfl, OX⟩, p4⟩
  obtain ⟨xo, xc, rfl⟩ := Hub.OwnA.shape OX
  have B4 := B3.trans (p4.mono B3.size)
  go_wp2_with fail
  refine (Hub.implWorld_any (.slice xo n xc) n U N w4 OX.at hs2 hn).mono ?_
  rintro e w5 ⟨h5, p5⟩
  obtain ⟨ag, cg, mid, rfl, OG, PG, hmid, hq⟩ := EI h5
  clear h5
  obtain ⟨go, gc, rfl⟩ := Hub.OwnA.shape OG
  obtain ⟨ho, hc, rfl⟩ := PG.shape
  obtain ⟨V5, hV5⟩ : ∃ V, w5.alloc (.cells (Hub.wldC (.slice go n' gc) (.slice ho n' hc)) 31) = V := ⟨_, rfl⟩
  have d5 : Below w5.heap.size w5 V5 := by rw [← hV5]; exact (Below.refl _ w5).alloc (Nat.le_refl _) _
  have e5 : V5.heap[w5.heap.size]? = some (.cells (Hub.wldC (.slice go n' gc) (.slice ho n' hc)) 31 (0, 0)) := by rw [← hV5]; exact World.alloc_heap_new w5 _
  have l5 : w5.heap.size < V5.heap.size := by rw [← hV5]; simp
  have HV5 : Hid (w5.alloc (.cells (Hub.wldC (.slice go n' gc) (.slice ho n' hc)) 31) = V5) := hV5
  clear hV5
  have q35 : Below V3.heap.size V3 V5 := p4.trans ((p5.trans (d5.mono p5.size)).mono p4.size)
  have OG5 := own_below OG d5
  have PG5 := PG.below d5
  have AG := World.ownsRow.lt OG
  have CG := World.ownsRow.lt PG
  have AX := World.ownsRow.lt OX
  have z4 := p4.size
  have z5 := p5.size
  have z6 := d5.size
  have kw : w3.heap.size < w5.heap.size := by omega
  have W5 := (WW.out V5 q35).1
  obtain ⟨r0, r1, r2, r3, r4, r5, r6⟩ := Hub.seven_cells W5
  obtain ⟨y0, y1, y2, y3, y4, y5, y6⟩ := Hub.seven_cells e5
  obtain ⟨m0, m1, m2, m3, m4, m5, m6⟩ := Hub.seven_cells (WW.out w5 (p4.trans (p5.mono p4.size))).1
  go_wp2_with fail
  rw [HV5.out]
  refine (Hub.eqWorld_same (.slice go n' gc) (.slice wo n' wc) (.slice ho n' hc) (.slice co n' cc) n' n' U N _ _ _ V5 OG5.at (WW.out V5 q35).2.1 PG5.at (WW.out V5 q35).2.2).mono ?_
  rintro e w6 ⟨rfl, p6⟩
  have q36 := q35.trans (p6.mono q35.size)
  have B6 := B3.trans (q36.mono B3.size)
  go_wp2_with fail
  refine (TO w6 B6).mono ?_
  rintro e w7 ⟨⟨ay, rfl, OY⟩, p7⟩
  go_wp2_with fail
  have c47 : Below w4.heap.size w4 w7 := (p5.trans (d5.mono p5.size)).trans ((p6.trans (p7.mono p6.size)).mono (by omega))
  refine (Hub.eqAccountS_same (.slice xo n xc) ay n U N w7 (own_below OX c47).at OY.at).mono ?_
  rintro e w8 ⟨rfl, p8⟩
  have c48 := c47.trans (p8.mono c47.size)
  go_wp2_with fail
  refine (Hub.markAccountS_any V3.heap.size (.slice xo n xc) n 1 U N w8 (own_below OX c48) (by omega) (by omega)).mono ?_
  rintro e w9 ⟨rfl, OX9, g9⟩
  have c58 : Below V5.heap.size V5 w8 := p6.trans ((p7.trans (p8.mono p7.size)).mono p6.size)
  have q38 : Below V3.heap.size V3 w8 := q35.trans (c58.mono q35.size)
  have q39 : Below V3.heap.size V3 w9 := below_row q38 g9 q38.size (fun q hq => (AX q hq).1)
  have OG9 : Hub.OwnA w9 w4.heap.size (.slice go n' gc) n' U N := World.ownsRow.kept (own_below OG5 c58) g9 (by
    cases hq : (Value.slice go n' gc).ownBlock with
    | none => exact .inl rfl
    | some q => right; intro e; have h1 := (AG q hq).1; have h2 := (AX q e.symm).2; omega)
  have PG9 : Hub.OwnC w9 mid (.slice ho n' hc) n' (fun _ => -1) (fun _ => 0) (fun _ => ⟨#[]⟩) := World.ownsRow.kept (PG5.below c58) g9 (by
    cases hq : (Value.slice ho n' hc).ownBlock with
    | none => exact .inl rfl
    | some q => right; intro e; have h1 := (CG q hq).1; have h2 := (AX q e.symm).2; omega)
  have G9 : w9.heap[w5.heap.size]? = some (.cells (Hub.wldC (.slice go n' gc) (.slice ho n' hc)) 31 (0, 0)) := (g9.block _ (by have := c58.size; omega) (fun e => by have h2 := (AX _ e.symm).2; omega)).trans ((c58.block _ l5).trans e5)
  have W9 := (WW.out w9 q39).1
  obtain ⟨s0, s1, s2, s3, s4, s5, s6⟩ := Hub.seven_cells W9
  obtain ⟨t0, t1, t2, t3, t4, t5, t6⟩ := Hub.seven_cells G9
  obtain ⟨kk, hkk⟩ : ∃ kk, 1 + 2 * n = kk := ⟨_, rfl⟩
  rw [hkk]
  have zk : ¬ (kk : Int) < 0 := by omega
  clear r0 r1 r2 r3 r4 r5 r6 y0 y1 y2 y3 y4 y5 y6
  go_wp2_with fail
  refine (Hub.eqWorld_same (.slice go n' gc) (.slice wo n' wc) (.slice ho n' hc) (.slice co n' cc) n' n' U N _ _ _ w9 OG9.at (WW.out w9 q39).2.1 PG9.at (WW.out w9 q39).2.2).mono ?_
  rintro e w10 ⟨rfl, p10⟩
  have z58 := c58.size
  have z89 := g9.size
  have z910 := p10.size
  have G10 : w10.heap[w5.heap.size]? = some (.cells (Hub.wldC (.slice go n' gc) (.slice ho n' hc)) 31 (0, 0)) := (p10.block _ (by omega)).trans G9
  have q310 := q39.trans (p10.mono q39.size)
  obtain ⟨f0, f1, f2, f3, f4, f5, f6⟩ := Hub.seven_cells G10
  clear s0 s1 s2 s3 s4 s5 s6 t0 t1 t2 t3 t4 t5 t6
  go_wp2_with fail
  refine (Hub.markWorld_any w4.heap.size mid (.slice go n' gc) (.slice ho n' hc) n' n' U N _ _ _ w10 (own_below OG9 p10) (PG9.below p10) hn2 hn2 hq hmid).mono ?_
  rintro e w11 ⟨rfl, OM, PM, g11⟩
  have z1011 := g11.2.2.2.1
  have G11 : w11.heap[w5.heap.size]? = some (.cells (Hub.wldC (.slice go n' gc) (.slice ho n' hc)) 31 (0, 0)) := (g11.2.2.2.2 _ (by omega) (fun e => by have h2 := (AG _ e).2; omega) (fun e => by have h2 := (CG _ e).2; omega)).trans G10
  have q311 : Below V3.heap.size V3 w11 := below_two q310 g11 q310.size (fun q hq => by have h2 := (AG _ hq).1; omega) (fun q hq => by have h2 := (CG _ hq).1; omega)
  obtain ⟨j0, j1, j2, j3, j4, j5, j6⟩ := Hub.seven_cells G11
  have HE := fun W h k => Hub.heldWorld_any (.slice go n' gc) (.slice ho n' hc) n' n' W h k hn2 hn2
  obtain ⟨mm, hmm⟩ : ∃ mm, 1 + 2 * n' + 3 * n' = mm := ⟨_, rfl⟩
  rw [hmm]
  have zm : ¬ (mm : Int) < 0 := by omega
  have HE2 : Hid (∀ W, Below w11.heap.size w11 W → Calls Try.prog 12 #[Hub.wldV (.slice go n' gc) (.slice ho n' hc), .int .i64 1] W fun e w' => e = .returned (.int .i64 (mm : Int)) ∧ Below W.heap.size W w') := fun W bb => by rw [← hmm]; exact HE W (OM.at.below bb) (PM.at.below bb)
  clear HE hmm
  go_wp2_with fail
  refine (HE2.out w11 (Below.refl _ _)).mono ?_
  rintro e w12 ⟨rfl, p12⟩
  have q312 := q311.trans (p12.mono q311.size)
  have B12 := B3.trans (q312.mono B3.size)
  go_wp2_with fail
  refine (TO w12 B12).mono ?_
  rintro e w13 ⟨⟨az, rfl, OZ⟩, p13⟩
  go_wp2_with fail
  refine (Hub.implWorld_any az n U N w13 OZ.at hs2 hn).mono ?_
  rintro e w14 ⟨h14, p14⟩
  obtain ⟨ah, ch, mid2, rfl, OH, PH, -⟩ := EI h14
  clear h14
  obtain ⟨io, ic, rfl⟩ := Hub.OwnA.shape OH
  obtain ⟨jo, jc, rfl⟩ := PH.shape
  have c1214 : Below w12.heap.size w12 w14 := p13.trans (p14.mono p13.size)
  have q314 := q312.trans (c1214.mono q312.size)
  obtain ⟨V14, hV14⟩ : ∃ V, w14.alloc (.cells (Hub.wldC (.slice io n' ic) (.slice jo n' jc)) 31) = V := ⟨_, rfl⟩
  have d14 : Below w14.heap.size w14 V14 := by rw [← hV14]; exact (Below.refl _ w14).alloc (Nat.le_refl _) _
  have HV14 : Hid (w14.alloc (.cells (Hub.wldC (.slice io n' ic) (.slice jo n' jc)) 31) = V14) := hV14
  clear hV14
  have q3v := q314.trans (d14.mono q314.size)
  obtain ⟨k0, k1, k2, k3, k4, k5, k6⟩ := Hub.seven_cells (WW.out w14 q314).1
  have lw : w3.heap.size < w14.heap.size := by have := q314.size; omega
  go_wp2_with fail
  rw [HV14.out]
  refine (Hub.eqWorld_same (.slice io n' ic) (.slice wo n' wc) (.slice jo n' jc) (.slice co n' cc) n' n' U N _ _ _ V14 (own_below OH d14).at (WW.out V14 q3v).2.1 (PH.below d14).at (WW.out V14 q3v).2.2).mono ?_
  rintro e w15 ⟨rfl, p15⟩
  have c1115 : Below w11.heap.size w11 w15 := (p12.trans (c1214.mono p12.size)).trans ((d14.trans (p15.mono d14.size)).mono (by have := p12.size; have := c1214.size; omega))
  have G15 : w15.heap[w5.heap.size]? = some (.cells (Hub.wldC (.slice go n' gc) (.slice ho n' hc)) 31 (0, 0)) := (c1115.block _ (by omega)).trans G11
  obtain ⟨i0, i1, i2, i3, i4, i5, i6⟩ := Hub.seven_cells G15
  have q315 := q3v.trans (p15.mono q3v.size)
  go_wp2_with fail
  refine (HE2.out w15 c1115).mono ?_
  rintro e w16 ⟨rfl, p16⟩
  have B16 := B3.trans ((q315.trans (p16.mono q315.size)).mono B3.size)
  go_wp2_with fail
  go_ret
  exact ⟨rfl, B16⟩

theorem own : ownKnob Try.prog.godebug = none := by kernel_rfl
theorem laidOut : laidOutB Try.prog = true := by kernel_rfl
set_option maxRecDepth 100000 in
theorem lifted (os : Os) (started : os.Started) (H : Type) (enc : TypeId × Value → H) :
    ReturnsInHanded {} Try.checked os 3 .any (Rows.fnExactWorldNewSpec.pre6 enc Try.prog Try.f3 Rows.fnExactWorldNewRow.domain false) (Rows.fnExactWorldNewSpec.post enc Try.prog Try.f3 false true false false) := by
  refine returnsInHanded_of_change (C := Try.checked) own started (by kernel_rfl) Try.func3
    (ChangeSpec.witness6 (enc := enc) (C := Try.checked) false ⟨#[], #[.slice none 0 0], []⟩ 8 (by kernel_rfl) (by kernel_rfl) (by kernel_rfl) (by kernel_rfl)) ?_
  intro W base args ds gs before hval0 hW hcnd _
  have hval : ∀ (j : Nat) t v, Try.f3.params[j]? = some t → args[j]? = some v → Value.okWide Try.prog W .any base t v := hval0
  have hW' := hW
  obtain ⟨p, q, hA0, hV, rfl, hfz, hnd⟩ := hW
  have hA : DataW.TrodAll enc Try.prog W 0 (fun _ => true) true Try.f3.params.toList args.toList ds p := hA0
  rw [Try.params3] at hA hval
  obtain ⟨v0, vs0, d0, ds0, p0, q_0, hargs, rfl, rfl, h0, r0⟩ := trodAll_cons hA
  obtain ⟨rfl, rfl, rfl⟩ := trodAll_nil r0
  obtain rfl : args = #[v0] := by cases args; simp_all
  obtain ⟨rfl, rfl⟩ := trodVars_none hV
  obtain ⟨n0, U0, N0, hm0, hw0⟩ := Hub.open_acc (hval 0 22 v0 rfl rfl) h0
  clear hA0 hval0
  simp only [List.append_nil] at hW'
  have hlt0 := hW'.lt
  refine (walk v0 n0 U0 N0 W hm0 hw0).mono fun e W' ⟨he, bel⟩ => ?_
  subst he
  exact ⟨_, rfl, _, _, _, [], _, [], hW', trodAll_mk1 (shut_bool Try.underlying4 _), (trodAll_cons_mk (Below.trod laidOut (by kernel_rfl) (of_decide_eq_true (by kernel_rfl)) h0 bel (fun x hx => hlt0 x (by simp [hx]))) trodAll_mk0), rfl, bel.frame _, fun h => by cases h⟩

theorem over : Rows.fnExactWorldNewRow.holds Try.pinned (OpenSpec.ofChange Rows.fnExactWorldNewSpec) :=
  OpenClaim.holds_of_wide 3 Try.f3 rfl rfl rfl rfl rfl rfl rfl ⟨rfl, rfl, rfl, rfl, rfl⟩ rfl rfl rfl rfl rfl (by kernel_rfl) Try.func3 (by kernel_rfl)
    (of_decide_eq_true (by kernel_rfl)) (by unfold Func.isWrapper; first | (rw [if_pos (by decide +kernel)]; kernel_rfl) | (rw [if_neg (by decide +kernel)]; exact ⟨rfl, rfl⟩))
    (fun os started H enc _ => lifted os started H enc)
theorem proved : Rows.FnExactWorldNewSaid := over
#print axioms proved
end Go.Proofs.Ytkfdggcccegmlaa.fnExactWorldNew

namespace Go.Proofs.Ytkfdggcccegmlaa
/-- The statement. -/
theorem fnExactWorldNew_holds : Rows.FnExactWorldNewSaid := fnExactWorldNew.proved
end Go.Proofs.Ytkfdggcccegmlaa
