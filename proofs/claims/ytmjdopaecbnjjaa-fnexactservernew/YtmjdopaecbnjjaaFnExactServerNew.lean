/-
  For every list of accounts the law FnExactServerNew returns true: impl.ServerNew answers as spec.ServerNew, every field; it writes into no argument, and what it answers owns its memory. No condition: the law itself passes lists with more than 1048576 accounts and bytes together by.
-/
import Derived.Test.YtmjdopaecbnjjaaRows
import Derived.Test.YtmjdopaecbnjjaaArgAcc
import Derived.Test.YtmjdopaecbnjjaaNewL
import Derived.ProofKit
import Derived.OpenShut
import Derived.ShutString
import Derived.Carry
namespace Go.Proofs.Ytmjdopaecbnjjaa.fnExactServerNew
open Go.ChangeShapes Go.WideShapes Go.ChangeAt Go.RowKit
open Go.ChangeMaps (open_string shut_string)
set_option linter.unusedVariables false

theorem either {W : World} {base n : Nat} {U N : Nat → ByteArray} {a : Value} (h : (Hub.accsT n U N = true ∧ Hub.OwnA W base a n U N) ∨ (Hub.accsT n U N = false ∧ a = .slice none 0 0)) : Hub.OwnA W base a (if Hub.accsT n U N = true then n else 0) U N := by
  rcases h with ⟨h, o⟩ | ⟨h, rfl⟩
  · rw [if_pos h]; exact o
  · rw [h, if_neg (by decide)]; exact ⟨rfl, .inl ⟨rfl, rfl⟩⟩

theorem own_below {W W' : World} {base n : Nat} {a : Value} {U N : Nat → ByteArray} (h : Hub.OwnA W base a n U N) (bb : Below W.heap.size W W') : Hub.OwnA W' base a n U N :=
  World.ownsRow.kept (row := none) h ⟨bb.os, bb.tape, bb.output, bb.size, fun q hq _ => bb.block q hq⟩ (Classical.em _)
theorem below_row {B : Nat} {V W W' : World} {row : Option Nat} (h : Below B V W) (g : W.grownBy W' row) (hB : B ≤ W.heap.size) (hr : ∀ q, row = some q → B ≤ q) : Below B V W' := h.grown g hB hr

set_option maxRecDepth 100000 in
set_option maxHeartbeats 8000000 in
theorem walk (v : Value) (n : Nat) (U N : Nat → ByteArray) (w : World) (hm : Hub.AccAt w v n U N) (hs : ∀ j, j < n → (U j).size ≤ maxLen ∧ (N j).size ≤ maxLen) :
    Calls Try.prog 3 #[v] w fun e w' => e = .returned (.bool true) ∧ Below w.heap.size w w' := by
  unfold maxLen at hs
  have cS := Hub.szAccountS_any v n U N 1048576 w (by omega) (by omega) hm (fun j hj => by have := hs j hj; omega)
  have HM : Hid (Hub.AccAt w v n U N) := hm
  obtain ⟨o, cap, rfl, -⟩ := hm
  go_enter Try.func3, Try.ntmps3
  go_wp2_with fail
  go_fit cS
  rintro e w1 ⟨⟨z, rfl, hz⟩, b1⟩
  rcases hz with hz | ⟨hz, hz1, hz2, hz3⟩
  · go_wp2_with fail
    go_ret
    exact ⟨rfl, b1⟩
  have hz' : ¬ z < 0 := by omega
  have hn : n ≤ 1048576 := by omega
  have hs2 : ∀ j, j < n → (U j).size ≤ 1048576 ∧ (N j).size ≤ 1048576 := fun j hj => by have := hz3 j hj; omega
  have TO := fun W (bb : Below w.heap.size w W) => Hub.toAccountS_any (.slice o n cap) n U N W (HM.out.below bb) hn
  obtain ⟨n', hn'⟩ : ∃ n', (if Hub.accsT n U N = true then n else 0) = n' := ⟨_, rfl⟩
  have hn2 : n' ≤ 1048600 := by rw [← hn']; split <;> omega
  have EI : ∀ {W : World} {base : Nat} {a : Value}, ((Hub.accsT n U N = true ∧ Hub.OwnA W base a n U N) ∨ (Hub.accsT n U N = false ∧ a = .slice none 0 0)) → Hub.OwnA W base a n' U N := fun h => by rw [← hn']; exact either h
  clear hz3 hs cS hn'
  go_wp2_with fail
  refine (TO w1 b1).mono ?_
  rintro e w2 ⟨⟨a2, rfl, O2⟩, p2⟩
  have b2 := b1.trans (p2.mono b1.size)
  go_wp2_with fail
  refine (Hub.specNew_any a2 n U N w2 O2.at hs2 hn).mono ?_
  rintro e w3 ⟨⟨aw, rfl, h3⟩, p3⟩
  have b3 := b2.trans (p3.mono b2.size)
  have OW := EI h3
  obtain ⟨wo, wl, wc, rfl⟩ : ∃ o l c, aw = Value.slice o l c := by
    rcases OW.2 with ⟨e, _⟩ | ⟨g, c, cur, e, _⟩
    · exact ⟨_, _, _, e⟩
    · exact ⟨_, _, _, e⟩
  obtain ⟨V3, hV3⟩ : ∃ V, w3.alloc (.cells #[.slice wo wl wc, .slice none 0 0, .string ⟨#[]⟩, .slice none 0 0, .int .i64 0] 28) = V := ⟨_, rfl⟩
  have d3 : Below w3.heap.size w3 V3 := by rw [← hV3]; exact (Below.refl _ w3).alloc (Nat.le_refl _) _
  have e3 : V3.heap[w3.heap.size]? = some (.cells #[.slice wo wl wc, .slice none 0 0, .string ⟨#[]⟩, .slice none 0 0, .int .i64 0] 28 (0, 0)) := by rw [← hV3]; exact World.alloc_heap_new w3 _
  have l3 : w3.heap.size < V3.heap.size := by rw [← hV3]; simp
  have B3 := b3.trans (d3.mono b3.size)
  have WW : Hid (∀ W, Below V3.heap.size V3 W → (W.heap[w3.heap.size]? = some (.cells #[.slice wo wl wc, .slice none 0 0, .string ⟨#[]⟩, .slice none 0 0, .int .i64 0] 28 (0, 0))) ∧ Hub.AccAt W (.slice wo wl wc) n' U N) := fun W bb => ⟨(bb.block _ l3).trans e3, OW.at.below (d3.trans (bb.mono d3.size))⟩
  have HV3 : Hid (w3.alloc (.cells #[.slice wo wl wc, .slice none 0 0, .string ⟨#[]⟩, .slice none 0 0, .int .i64 0] 28) = V3) := hV3
  clear hV3
  go_wp2_with fail
  rw [HV3.out]
  refine (TO V3 B3).mono ?_
  rintro e w4 ⟨⟨ax, rfl, OX⟩, p4⟩
  obtain ⟨xo, xl, xc, rfl⟩ : ∃ o l c, ax = Value.slice o l c := by
    rcases OX.2 with ⟨e, _⟩ | ⟨g, c, cur, e, _⟩
    · exact ⟨_, _, _, e⟩
    · exact ⟨_, _, _, e⟩
  have B4 := B3.trans (p4.mono B3.size)
  go_wp2_with fail
  refine (Hub.implNew_any (.slice xo xl xc) n U N w4 OX.at hs2 hn).mono ?_
  rintro e w5 ⟨⟨ag, rfl, h5⟩, p5⟩
  have OG := EI h5
  obtain ⟨go, gl, gc, rfl⟩ : ∃ o l c, ag = Value.slice o l c := by
    rcases OG.2 with ⟨e, _⟩ | ⟨g, c, cur, e, _⟩
    · exact ⟨_, _, _, e⟩
    · exact ⟨_, _, _, e⟩
  obtain ⟨V5, hV5⟩ : ∃ V, w5.alloc (.cells #[.slice go gl gc, .slice none 0 0, .string ⟨#[]⟩, .slice none 0 0, .int .i64 0] 28) = V := ⟨_, rfl⟩
  have d5 : Below w5.heap.size w5 V5 := by rw [← hV5]; exact (Below.refl _ w5).alloc (Nat.le_refl _) _
  have e5 : V5.heap[w5.heap.size]? = some (.cells #[.slice go gl gc, .slice none 0 0, .string ⟨#[]⟩, .slice none 0 0, .int .i64 0] 28 (0, 0)) := by rw [← hV5]; exact World.alloc_heap_new w5 _
  have l5 : w5.heap.size < V5.heap.size := by rw [← hV5]; simp
  have HV5 : Hid (w5.alloc (.cells #[.slice go gl gc, .slice none 0 0, .string ⟨#[]⟩, .slice none 0 0, .int .i64 0] 28) = V5) := hV5
  clear hV5
  have q35 : Below V3.heap.size V3 V5 := p4.trans ((p5.trans (d5.mono p5.size)).mono p4.size)
  have OG5 := own_below OG d5
  have AG := World.ownsRow.lt OG
  have AX := World.ownsRow.lt OX
  have z4 := p4.size
  have z5 := p5.size
  have z6 := d5.size
  have kw : w3.heap.size < w5.heap.size := by omega
  have W5 := (WW.out V5 q35).1
  obtain ⟨r0, r1, r2, r3, r4⟩ := Hub.five_cells W5
  obtain ⟨y0, y1, y2, y3, y4⟩ := Hub.five_cells e5
  have kW : w5.cell? ⟨w3.heap.size, 0, none⟩ = some (.slice wo wl wc) := (Hub.five_cells (WW.out w5 (p4.trans (p5.mono p4.size))).1).1
  obtain ⟨m0, m1, m2, m3, m4⟩ := Hub.five_cells (WW.out w5 (p4.trans (p5.mono p4.size))).1
  go_wp2_with fail
  rw [HV5.out]
  refine (Hub.eqServer_same (.slice go gl gc) (.slice wo wl wc) n' U N V5 OG5.at (WW.out V5 q35).2).mono ?_
  rintro e w6 ⟨rfl, p6⟩
  have q36 := q35.trans (p6.mono q35.size)
  have B6 := B3.trans (q36.mono B3.size)
  go_wp2_with fail
  refine (TO w6 B6).mono ?_
  rintro e w7 ⟨⟨ay, rfl, OY⟩, p7⟩
  go_wp2_with fail
  have c47 : Below w4.heap.size w4 w7 := (p5.trans (d5.mono p5.size)).trans ((p6.trans (p7.mono p6.size)).mono (by omega))
  refine (Hub.eqAccountS_same (.slice xo xl xc) ay n U N w7 (own_below OX c47).at OY.at).mono ?_
  rintro e w8 ⟨rfl, p8⟩
  have c48 := c47.trans (p8.mono c47.size)
  go_wp2_with fail
  refine (Hub.markAccountS_any V3.heap.size (.slice xo xl xc) n 1 U N w8 (own_below OX c48) (by omega) (by omega)).mono ?_
  rintro e w9 ⟨rfl, OX9, g9⟩
  have c58 : Below V5.heap.size V5 w8 := p6.trans ((p7.trans (p8.mono p7.size)).mono p6.size)
  have q38 : Below V3.heap.size V3 w8 := q35.trans (c58.mono q35.size)
  have q39 : Below V3.heap.size V3 w9 := below_row q38 g9 q38.size (fun q hq => (AX q hq).1)
  have OG9 : Hub.OwnA w9 w4.heap.size (.slice go gl gc) n' U N := World.ownsRow.kept (own_below OG5 c58) g9 (by
    cases hq : (Value.slice go gl gc).ownBlock with
    | none => exact .inl rfl
    | some q => right; intro e; have h1 := (AG q hq).1; have h2 := (AX q e.symm).2; omega)
  have G9 : w9.heap[w5.heap.size]? = some (.cells #[.slice go gl gc, .slice none 0 0, .string ⟨#[]⟩, .slice none 0 0, .int .i64 0] 28 (0, 0)) := (g9.block _ (by have := c58.size; omega) (fun e => by have h2 := (AX _ e.symm).2; omega)).trans ((c58.block _ l5).trans e5)
  have W9 := (WW.out w9 q39).1
  obtain ⟨s0, s1, s2, s3, s4⟩ := Hub.five_cells W9
  obtain ⟨t0, t1, t2, t3, t4⟩ := Hub.five_cells G9
  obtain ⟨kk, hkk⟩ : ∃ kk, 1 + 2 * n = kk := ⟨_, rfl⟩
  rw [hkk]
  have zk : ¬ (kk : Int) < 0 := by omega
  clear r0 r1 r2 r3 r4 y0 y1 y2 y3 y4
  go_wp2_with fail
  refine (Hub.eqServer_same (.slice go gl gc) (.slice wo wl wc) n' U N w9 OG9.at (WW.out w9 q39).2).mono ?_
  rintro e w10 ⟨rfl, p10⟩
  have z58 := c58.size
  have z89 := g9.size
  have z910 := p10.size
  have G10 : w10.heap[w5.heap.size]? = some (.cells #[.slice go gl gc, .slice none 0 0, .string ⟨#[]⟩, .slice none 0 0, .int .i64 0] 28 (0, 0)) := (p10.block _ (by omega)).trans G9
  have q310 := q39.trans (p10.mono q39.size)
  obtain ⟨f0, f1, f2, f3, f4⟩ := Hub.five_cells G10
  clear s0 s1 s2 s3 s4 t0 t1 t2 t3 t4
  go_wp2_with fail
  refine (Hub.markServer_any w4.heap.size (.slice go gl gc) n' U N w10 (own_below OG9 p10) hn2).mono ?_
  rintro e w11 ⟨rfl, OM, g11⟩
  have z1011 := g11.size
  have G11 : w11.heap[w5.heap.size]? = some (.cells #[.slice go gl gc, .slice none 0 0, .string ⟨#[]⟩, .slice none 0 0, .int .i64 0] 28 (0, 0)) := (g11.block _ (by omega) (fun e => by have h2 := (AG _ e.symm).2; omega)).trans G10
  have q311 : Below V3.heap.size V3 w11 := below_row q310 g11 q310.size (fun q hq => by have h2 := (AG _ hq).1; omega)
  obtain ⟨j0, j1, j2, j3, j4⟩ := Hub.five_cells G11
  obtain ⟨mm, hmm⟩ : ∃ mm, 1 + 2 * n' = mm := ⟨_, rfl⟩
  rw [hmm]
  have zm : ¬ (mm : Int) < 0 := by omega
  have HE := fun W h => Hub.heldServer_any (.slice go gl gc) n' W h hn2
  rw [hmm] at HE
  go_wp2_with fail
  refine (HE w11 OM.at).mono ?_
  rintro e w12 ⟨rfl, p12⟩
  have q312 := q311.trans (p12.mono q311.size)
  have B12 := B3.trans (q312.mono B3.size)
  go_wp2_with fail
  refine (TO w12 B12).mono ?_
  rintro e w13 ⟨⟨az, rfl, OZ⟩, p13⟩
  go_wp2_with fail
  refine (Hub.implNew_any az n U N w13 OZ.at hs2 hn).mono ?_
  rintro e w14 ⟨⟨ah, rfl, h14⟩, p14⟩
  have OH := EI h14
  obtain ⟨ho, hl, hc, rfl⟩ : ∃ o l c, ah = Value.slice o l c := by
    rcases OH.2 with ⟨e, _⟩ | ⟨g, c, cur, e, _⟩
    · exact ⟨_, _, _, e⟩
    · exact ⟨_, _, _, e⟩
  have c1214 : Below w12.heap.size w12 w14 := p13.trans (p14.mono p13.size)
  have q314 := q312.trans (c1214.mono q312.size)
  obtain ⟨V14, hV14⟩ : ∃ V, w14.alloc (.cells #[.slice ho hl hc, .slice none 0 0, .string ⟨#[]⟩, .slice none 0 0, .int .i64 0] 28) = V := ⟨_, rfl⟩
  have d14 : Below w14.heap.size w14 V14 := by rw [← hV14]; exact (Below.refl _ w14).alloc (Nat.le_refl _) _
  have HV14 : Hid (w14.alloc (.cells #[.slice ho hl hc, .slice none 0 0, .string ⟨#[]⟩, .slice none 0 0, .int .i64 0] 28) = V14) := hV14
  clear hV14
  have q3v := q314.trans (d14.mono q314.size)
  obtain ⟨k0, k1, k2, k3, k4⟩ := Hub.five_cells (WW.out w14 q314).1
  have lw : w3.heap.size < w14.heap.size := by have := q314.size; omega
  go_wp2_with fail
  rw [HV14.out]
  refine (Hub.eqServer_same (.slice ho hl hc) (.slice wo wl wc) n' U N V14 (own_below OH d14).at (WW.out V14 q3v).2).mono ?_
  rintro e w15 ⟨rfl, p15⟩
  have c1115 : Below w11.heap.size w11 w15 := (p12.trans (c1214.mono p12.size)).trans ((d14.trans (p15.mono d14.size)).mono (by have := p12.size; have := c1214.size; omega))
  have G15 : w15.heap[w5.heap.size]? = some (.cells #[.slice go gl gc, .slice none 0 0, .string ⟨#[]⟩, .slice none 0 0, .int .i64 0] 28 (0, 0)) := (c1115.block _ (by omega)).trans G11
  obtain ⟨i0, i1, i2, i3, i4⟩ := Hub.five_cells G15
  have q315 := q3v.trans (p15.mono q3v.size)
  go_wp2_with fail
  refine (HE w15 (own_below OM c1115).at).mono ?_
  rintro e w16 ⟨rfl, p16⟩
  have B16 := B3.trans ((q315.trans (p16.mono q315.size)).mono B3.size)
  go_wp2_with fail
  go_ret
  exact ⟨rfl, B16⟩

theorem own : ownKnob Try.prog.godebug = none := by kernel_rfl
theorem laidOut : laidOutB Try.prog = true := by kernel_rfl
set_option maxRecDepth 100000 in
theorem lifted (os : Os) (started : os.Started) (H : Type) (enc : TypeId × Value → H) :
    ReturnsInHanded {} Try.checked os 3 .any (Rows.fnExactServerNewSpec.pre6 enc Try.prog Try.f3 Rows.fnExactServerNewRow.domain false) (Rows.fnExactServerNewSpec.post enc Try.prog Try.f3 false true false false) := by
  refine returnsInHanded_of_change (C := Try.checked) own started (by kernel_rfl) Try.func3
    (ChangeSpec.witness6 (enc := enc) (C := Try.checked) false ⟨#[], #[.slice none 0 0], []⟩ 8 (by kernel_rfl) (by kernel_rfl) (by kernel_rfl) (by kernel_rfl)) ?_
  intro W base args ds gs before hval0 hW hcnd _
  have hval : ∀ (j : Nat) t v, Try.f3.params[j]? = some t → args[j]? = some v → Value.okWide Try.prog W .any base t v := hval0
  have hW' := hW
  obtain ⟨p, q, hA0, hV, rfl, hfz, hnd⟩ := hW
  have hA : DataW.TrodAll enc Try.prog W 0 (fun _ => true) true Try.f3.params.toList args.toList ds p := hA0
  rw [Try.params3] at hA hval
  obtain ⟨v0, vs0, d0, ds0, p0, q_0, hargs, rfl, rfl, h0, r0⟩ := trodAll_cons hA
  obtain ⟨rfl, rfl, rfl⟩ := trodAll_nil r0
  obtain rfl : args = #[v0] := by cases args; simp_all
  obtain ⟨rfl, rfl⟩ := trodVars_none hV
  obtain ⟨n0, U0, N0, hm0, hw0⟩ := Hub.open_acc (hval 0 22 v0 rfl rfl) h0
  clear hA0 hval0
  simp only [List.append_nil] at hW'
  have hlt0 := hW'.lt
  refine (walk v0 n0 U0 N0 W hm0 hw0).mono fun e W' ⟨he, bel⟩ => ?_
  subst he
  exact ⟨_, rfl, _, _, _, [], _, [], hW', trodAll_mk1 (shut_bool Try.underlying4 _), (trodAll_cons_mk (Below.trod laidOut (by kernel_rfl) (of_decide_eq_true (by kernel_rfl)) h0 bel (fun x hx => hlt0 x (by simp [hx]))) trodAll_mk0), rfl, bel.frame _, fun h => by cases h⟩

theorem over : Rows.fnExactServerNewRow.holds Try.pinned (OpenSpec.ofChange Rows.fnExactServerNewSpec) :=
  OpenClaim.holds_of_wide 3 Try.f3 rfl rfl rfl rfl rfl rfl rfl ⟨rfl, rfl, rfl, rfl, rfl⟩ rfl rfl rfl rfl rfl (by kernel_rfl) Try.func3 (by kernel_rfl)
    (of_decide_eq_true (by kernel_rfl)) (by unfold Func.isWrapper; first | (rw [if_pos (by decide +kernel)]; kernel_rfl) | (rw [if_neg (by decide +kernel)]; exact ⟨rfl, rfl⟩))
    (fun os started H enc _ => lifted os started H enc)
theorem proved : Rows.FnExactServerNewSaid := over
#print axioms proved
end Go.Proofs.Ytmjdopaecbnjjaa.fnExactServerNew

namespace Go.Proofs.Ytmjdopaecbnjjaa
/-- The statement. -/
theorem fnExactServerNew_holds : Rows.FnExactServerNewSaid := fnExactServerNew.proved
end Go.Proofs.Ytmjdopaecbnjjaa
