/-
  For every list of entries and every room the law FnExactSeekNow returns true: impl.SeekNow answers as spec.SeekNow, entry by entry; it writes into no argument, and what it answers is memory of its own, behind another call too. No condition: the law itself passes by lists that have more than 1048576 entries and bytes together, and rooms of more than 1048576 bytes.
-/
import Derived.Test.YtkmagkpieihcgaaRows
import Derived.Test.YtkmagkpieihcgaaSeekI
import Derived.Test.YtkmagkpieihcgaaArgEnts
import Derived.ProofKit
import Derived.OpenShut
import Derived.ShutString
import Derived.Carry
namespace Go.Proofs.Ytkmagkpieihcgaa.fnExactSeekNow
open Go.ChangeShapes Go.WideShapes Go.ChangeAt Go.RowKit
open Go.ChangeMaps (open_string shut_string)
set_option linter.unusedVariables false

theorem away {v : Value} {base h : Nat} (H : ∀ q, v.ownBlock = some q → base ≤ q ∧ q < h) (u : Option Nat) (hu : ∀ q, u = some q → h ≤ q) : v.ownBlock = none ∨ v.ownBlock ≠ u := by
  cases hv : v.ownBlock with
  | none => exact .inl rfl
  | some q =>
    refine .inr (fun e => ?_)
    have h1 := (H q hv).2
    have h2 := hu q e.symm
    omega
theorem talk_mem (room user : ByteArray) (E : Nat → Hub.EntX) (n : Nat) (h : ∀ j, j < n → Hub.smallE (E j)) : Hub.smallL (Hub.talkL room user E n) := by
  intro j hj
  have hin : Hub.gtEnt (Hub.talkL room user E n) j ∈ Hub.talkL room user E n := by
    unfold Hub.gtEnt
    rw [List.getD_eq_getElem?_getD, List.getElem?_eq_getElem hj]
    exact List.getElem_mem hj
  have h2 := (List.mem_filter.1 hin).1
  obtain ⟨k, hk, e⟩ := List.mem_map.1 h2
  rw [← e]
  exact h k (List.mem_range.1 hk)
theorem now_len (T : List Hub.EntX) : ∀ k, (Hub.nowK (Hub.gtEnt T) k).length ≤ k
  | 0 => Nat.le_refl _
  | k + 1 => by
    have h1 := now_len T k
    have h2 := Hub.nowStep_len (Hub.nowK (Hub.gtEnt T) k) (Hub.gtEnt T k)
    unfold Hub.nowK
    omega
/-- What toEntryS answers, as a list of one's own. -/
theorem to_own {W w : World} {n : Nat} {E : Nat → Hub.EntX} {base : Nat} (hb : base ≤ w.heap.size) (hn : n ≤ 1048576) {c : Array Value} (hg : W.heap[w.heap.size]? = some (.cells c 33 (0, 0))) (hc : c.size = n * 9)
    (hA : ∀ j, j < n → c[j * 9]? = some (.string (E j).room) ∧ c[j * 9 + 1]? = some (.int .i64 (E j).seq) ∧ c[j * 9 + 2]? = some (.int .i64 (E j).kind) ∧ c[j * 9 + 3]? = some (.string (E j).user) ∧ c[j * 9 + 4]? = some (.string (E j).nick) ∧ c[j * 9 + 5]? = some (.string (E j).text) ∧ c[j * 9 + 6]? = some (.string (E j).id) ∧ c[j * 9 + 7]? = some (.string (E j).ref) ∧ c[j * 9 + 8]? = some (.int .i64 (E j).num)) :
    Hub.OwnEnt W base (.slice (some ⟨w.heap.size, 0, none⟩) n n) n E := Hub.ownEnt_of hb hg (Nat.le_refl _) (by unfold maxLen; omega) hc hA

set_option maxRecDepth 100000 in
set_option maxHeartbeats 4000000 in
theorem walk (v : Value) (n : Nat) (E : Nat → Hub.EntX) (room : ByteArray) (w : World) (hm : Hub.EntsAt w v n E) (hw : ∀ j, j < n → (E j).room.size ≤ maxLen ∧ (E j).user.size ≤ maxLen ∧ (E j).nick.size ≤ maxLen ∧ (E j).text.size ≤ maxLen ∧ (E j).id.size ≤ maxLen ∧ (E j).ref.size ≤ maxLen ∧ (Lit.int .i64 (E j).seq).wf = true ∧ (Lit.int .i64 (E j).kind).wf = true ∧ (Lit.int .i64 (E j).num).wf = true) (wr : room.size ≤ maxLen) :
    Calls Try.prog 3 #[v, .string room] w fun e w' => e = .returned (.bool true) ∧ Below w.heap.size w w' := by
  unfold maxLen at wr hw
  obtain ⟨o, cap, rfl⟩ := hm.shape
  by_cases hbig : (1048576 : Int) < (room.size : Int)
  · go_enter Try.func3, Try.ntmps3
    go_wp2_with fail
    go_ret
    exact ⟨rfl, Below.refl _ _⟩
  have cS := Hub.szEntryS_any _ n E 1048576 w (by omega) (by omega) hm (fun j hj => by obtain ⟨a, b, c, d, e, f, _⟩ := hw j hj; exact ⟨by omega, by omega, by omega, by omega, by omega, by omega⟩)
  have HM : Hid (∀ W, Below w.heap.size w W → Hub.EntsAt W (.slice o n cap) n E) := fun W b => hm.below b
  clear hm hw
  go_enter Try.func3, Try.ntmps3
  go_wp2_with fail
  go_fit cS
  rintro e w1 ⟨⟨z, rfl, hz⟩, b1⟩
  rcases hz with hz | ⟨hz0, hz1, hzn, hzs⟩
  · go_wp2_with fail
    go_ret
    exact ⟨rfl, b1⟩
  have hz' : ¬ z < 0 := by omega
  have hn : n ≤ 1048576 := by omega
  have TO : Hid (∀ W, Below w.heap.size w W → _) := fun W b => Hub.toEntryS_any _ n E W (HM.out W b) hn
  obtain ⟨T, hT⟩ : ∃ T, Hub.talkL room ⟨#[]⟩ E n = T := ⟨_, rfl⟩
  have hsT : Hub.smallL T := by
    rw [← hT]
    exact talk_mem _ _ _ _ (fun j hj => by obtain ⟨a, b, c, d, e, f⟩ := hzs j hj; exact ⟨by omega, by omega, by omega, by omega, by omega, by omega⟩)
  have hTl : T.length ≤ n := by rw [← hT]; exact Hub.talkL_len _ _ _ _
  have cI := fun v W h => Hub.seekNow_any room v n E T hT hn hsT W h
  have cM := fun v W h => Hub.specSeekNow_any room v n E T hT hn W h
  have hRl := now_len T T.length
  obtain ⟨R, hR⟩ : ∃ R, Hub.nowK (Hub.gtEnt T) T.length = R := ⟨_, rfl⟩
  rw [hR] at cI cM hRl
  have hRn : R.length ≤ 1048576 := by omega
  have CI : Hid (∀ (v : Value) (W : World), _) := cI
  have CM : Hid (∀ (v : Value) (W : World), _) := cM
  clear cI cM cS hT hR hsT hzs hTl hRl
  go_wp2_with fail
  refine (TO.out w1 b1).mono ?_
  rintro e w2 ⟨⟨c2, rfl, g2, k2, A2⟩, b2⟩
  have bw2 := b1.trans (b2.mono b1.size)
  have X2 := to_own (w := w1) (base := w1.heap.size) (Nat.le_refl _) hn g2 k2 A2
  have c := CM.out _ w2 X2.at
  clear g2 k2 A2 X2
  go_wp2_with fail
  refine c.mono ?_
  rintro e w3 ⟨x3, rfl, O3, b3⟩
  have bw3 := bw2.trans (b3.mono bw2.size)
  obtain ⟨p3, q3, rfl⟩ := Hub.OwnL.shape O3
  have HO3 : Hid (Hub.OwnEnt w3 w2.heap.size (.slice p3 R.length q3) R.length (Hub.gtEnt R)) := O3
  clear c O3
  go_wp2_with fail
  refine (TO.out w3 bw3).mono ?_
  rintro e w4 ⟨⟨c4, rfl, g4, k4, A4⟩, b4⟩
  have bw4 := bw3.trans (b4.mono bw3.size)
  have X4 := to_own (w := w3) (base := w3.heap.size) (Nat.le_refl _) hn g4 k4 A4
  have HX4 : Hid (Hub.OwnEnt w4 w3.heap.size _ n E) := X4
  have HO4 : Hid (Hub.OwnEnt w4 w2.heap.size (.slice p3 R.length q3) R.length (Hub.gtEnt R)) := Hub.OwnL.below HO3.out b4
  have hs34 := b4.size
  have c := CI.out _ w4 X4.at
  have hl3 := Hub.OwnL.lt HO3.out
  have HL3 : Hid _ := hl3
  clear g4 k4 A4 X4 hl3
  go_wp2_with fail
  refine c.mono ?_
  rintro e w5 ⟨x5, rfl, O5, b5⟩
  have bw5 := bw4.trans (b5.mono bw4.size)
  obtain ⟨p5, q5, rfl⟩ := Hub.OwnL.shape O5
  have HO5 : Hid (Hub.OwnEnt w5 w4.heap.size (.slice p5 R.length q5) R.length (Hub.gtEnt R)) := O5
  have HO35 : Hid (Hub.OwnEnt w5 w2.heap.size (.slice p3 R.length q3) R.length (Hub.gtEnt R)) := Hub.OwnL.below HO4.out b5
  have HX5 : Hid (Hub.OwnEnt w5 w3.heap.size _ n E) := Hub.OwnL.below HX4.out b5
  have cE := Hub.eqEntryS_same (.slice p5 R.length q5) (.slice p3 R.length q3) R.length (Hub.gtEnt R) w5 O5.at HO35.out.at
  have hl4 := Hub.OwnL.lt HX4.out
  have HL4 : Hid _ := hl4
  clear c O5 hl4
  go_wp2_with fail
  refine cE.mono ?_
  rintro e w6 ⟨rfl, b6⟩
  have bw6 := bw5.trans (b6.mono bw5.size)
  clear cE
  go_wp2_with fail
  refine (TO.out w6 bw6).mono ?_
  rintro e w7 ⟨⟨c7, rfl, g7, k7, A7⟩, b7⟩
  have bw7 := bw6.trans (b7.mono bw6.size)
  have X7 := to_own (w := w6) (base := w6.heap.size) (Nat.le_refl _) hn g7 k7 A7
  have HX57 : Hid (Hub.OwnEnt w7 w3.heap.size _ n E) := Hub.OwnL.below (Hub.OwnL.below HX5.out b6) b7
  have cE := Hub.eqEntryS_same _ _ n E w7 HX57.out.at X7.at
  clear g7 k7 A7 X7
  go_wp2_with fail
  refine cE.mono ?_
  rintro e w8 ⟨rfl, b8⟩
  have bw8 := bw7.trans (b8.mono bw7.size)
  have B58 : Below w5.heap.size w5 w8 := (b6.trans (b7.mono b6.size)).trans (b8.mono (Nat.le_trans b6.size b7.size))
  have HX8 : Hid (Hub.OwnEnt w8 w3.heap.size (.slice (some ⟨w3.heap.size, 0, none⟩) n n) n E) := Hub.OwnL.below HX57.out b8
  have HO38 : Hid (Hub.OwnEnt w8 w2.heap.size (.slice p3 R.length q3) R.length (Hub.gtEnt R)) := Hub.OwnL.below HO35.out B58
  have HO58 : Hid (Hub.OwnEnt w8 w4.heap.size (.slice p5 R.length q5) R.length (Hub.gtEnt R)) := Hub.OwnL.below HO5.out B58
  have cK := Hub.markEntryS_any w3.heap.size _ n 1 E w8 HX8.out (by omega) (by omega) (by omega)
  obtain ⟨K, hK⟩ : ∃ K : Int, ((1 + 9 * n : Nat) : Int) = K := ⟨_, rfl⟩
  have hK0 : ¬ K < 0 := by omega
  rw [hK] at cK
  have h34 : Hid (w3.heap.size < w4.heap.size) := (HL4.out w3.heap.size rfl).2
  have h23 := b3.size
  have hw3 := bw3.size
  clear cE hK
  go_wp2_with fail
  go_fit cK
  rintro e w9 ⟨rfl, X9, gr⟩
  have HG9 : Hid (w8.grownBy w9 (some w3.heap.size)) := gr
  have bw9 : Below w.heap.size w w9 := bw8.grown HG9.out bw8.size (fun q hq => by have := Option.some.inj hq; omega)
  have HO39 : Hid (Hub.OwnEnt w9 w2.heap.size (.slice p3 R.length q3) R.length (Hub.gtEnt R)) := Hub.OwnL.kept HO38.out HG9.out (away HL3.out _ (fun q hq => Nat.le_of_eq (Option.some.inj hq)))
  have HO59 : Hid (Hub.OwnEnt w9 w4.heap.size (.slice p5 R.length q5) R.length (Hub.gtEnt R)) := Hub.OwnL.kept HO58.out HG9.out (by
    cases hv : (Value.slice p5 R.length q5).ownBlock with
    | none => exact .inl rfl
    | some q => exact .inr (fun e => by
        have h1 := (Hub.OwnL.lt HO58.out q hv).1
        have h2 := Option.some.inj e
        have h3 := h34.out
        omega))
  have cE := Hub.eqEntryS_same (.slice p5 R.length q5) (.slice p3 R.length q3) R.length (Hub.gtEnt R) w9 HO59.out.at HO39.out.at
  clear cK X9 gr
  go_wp2_with fail
  refine cE.mono ?_
  rintro e w10 ⟨rfl, b10⟩
  have bw10 := bw9.trans (b10.mono bw9.size)
  have HO310 : Hid (Hub.OwnEnt w10 w2.heap.size (.slice p3 R.length q3) R.length (Hub.gtEnt R)) := Hub.OwnL.below HO39.out b10
  have O510 := Hub.OwnL.below HO59.out b10
  have cK := Hub.markEntryS_any w4.heap.size (.slice p5 R.length q5) R.length 1 (Hub.gtEnt R) w10 O510 (by omega) (by omega) (by omega)
  obtain ⟨Q, hQ⟩ : ∃ Q : Int, ((1 + 9 * R.length : Nat) : Int) = Q := ⟨_, rfl⟩
  have HQ : Hid (((1 + 9 * R.length : Nat) : Int) = Q) := hQ
  have hQ0 : ¬ Q < 0 := by omega
  have hQQ : (Q != Q) = false := bne_self_eq_false Q
  rw [hQ] at cK
  have HLG : Hid _ := Hub.OwnL.lt O510
  clear cE hQ O510
  go_wp2_with fail
  go_fit cK
  rintro e w11 ⟨rfl, G11, gr⟩
  have bw11 : Below w.heap.size w w11 := bw10.grown gr bw10.size (fun q hq => by have := (HLG.out q hq).1; have := h34.out; omega)
  have HO311 : Hid (Hub.OwnEnt w11 w2.heap.size (.slice p3 R.length q3) R.length (Hub.gtEnt R)) := Hub.OwnL.kept HO310.out gr (away HL3.out _ (fun q hq => by have := (HLG.out q hq).1; have := h34.out; omega))
  have HG11 : Hid (Hub.OwnEnt w11 w4.heap.size (.slice p5 R.length q5) R.length _) := G11
  have HH : Hid (∀ W, Below w11.heap.size w11 W → Calls Try.prog 10 #[.slice p5 R.length q5, .int .i64 1] W fun e w' => e = .returned (.int .i64 Q) ∧ Below W.heap.size W w') := fun W bb => by
    have h := Hub.heldEntryS_any (.slice p5 R.length q5) R.length 1 W (Hub.OwnEnt.at (Hub.OwnL.below HG11.out bb)) (by omega) (by omega) (by omega)
    rw [HQ.out] at h
    exact h
  clear cK G11 gr
  go_wp2_with fail
  refine (HH.out w11 (Below.refl _ _)).mono ?_
  rintro e w12 ⟨rfl, b12⟩
  have bw12 := bw11.trans (b12.mono bw11.size)
  go_wp2_with fail
  refine (TO.out w12 bw12).mono ?_
  rintro e w13 ⟨⟨c13, rfl, g13, k13, A13⟩, b13⟩
  have bw13 := bw12.trans (b13.mono bw12.size)
  have X13 := to_own (w := w12) (base := w12.heap.size) (Nat.le_refl _) hn g13 k13 A13
  have c := CI.out _ w13 X13.at
  clear g13 k13 A13 X13
  go_wp2_with fail
  refine c.mono ?_
  rintro e w14 ⟨x14, rfl, O14, b14⟩
  have bw14 := bw13.trans (b14.mono bw13.size)
  obtain ⟨p14, q14, rfl⟩ := Hub.OwnL.shape O14
  have B1114 : Below w11.heap.size w11 w14 := (b12.trans (b13.mono b12.size)).trans (b14.mono (Nat.le_trans b12.size b13.size))
  have O314 := Hub.OwnL.below HO311.out B1114
  have cE := Hub.eqEntryS_same (.slice p14 R.length q14) (.slice p3 R.length q3) R.length (Hub.gtEnt R) w14 (Hub.OwnEnt.at O14) (Hub.OwnEnt.at O314)
  clear c O14 O314
  go_wp2_with fail
  refine cE.mono ?_
  rintro e w15 ⟨rfl, b15⟩
  have bw15 := bw14.trans (b15.mono bw14.size)
  have B1115 : Below w11.heap.size w11 w15 := B1114.trans (b15.mono B1114.size)
  clear cE
  go_wp2_with fail
  refine (HH.out w15 B1115).mono ?_
  rintro e w16 ⟨rfl, b16⟩
  go_wp2_with fail
  go_ret
  exact ⟨rfl, bw15.trans (b16.mono bw15.size)⟩

theorem own : ownKnob Try.prog.godebug = none := by kernel_rfl
theorem laidOut : laidOutB Try.prog = true := by kernel_rfl
set_option maxRecDepth 100000 in
theorem lifted (os : Os) (started : os.Started) (H : Type) (enc : TypeId × Value → H) :
    ReturnsInHanded {} Try.checked os 3 .any (Rows.fnExactSeekNowSpec.pre6 enc Try.prog Try.f3 Rows.fnExactSeekNowRow.domain false) (Rows.fnExactSeekNowSpec.post enc Try.prog Try.f3 false true false false) := by
  refine returnsInHanded_of_change (C := Try.checked) own started (by kernel_rfl) Try.func3
    (ChangeSpec.witness6 (enc := enc) (C := Try.checked) false ⟨#[], #[.slice none 0 0, .string ByteArray.empty], []⟩ 8 (by kernel_rfl) (by kernel_rfl) (by kernel_rfl) (by kernel_rfl)) ?_
  intro W base args ds gs before hval0 hW hcnd _
  have hval : ∀ (j : Nat) t v, Try.f3.params[j]? = some t → args[j]? = some v → Value.okWide Try.prog W .any base t v := hval0
  have hW' := hW
  obtain ⟨p, q, hA0, hV, rfl, hfz, hnd⟩ := hW
  have hA : DataW.TrodAll enc Try.prog W 0 (fun _ => true) true Try.f3.params.toList args.toList ds p := hA0
  rw [Try.params3] at hA hval
  obtain ⟨v0, vs0, d0, ds0, p0, q_0, hargs, rfl, rfl, h0, r0⟩ := trodAll_cons hA
  obtain ⟨v1, vs1, d1, ds1, p1, q_1, hx1, rfl, rfl, h1, r1⟩ := trodAll_cons r0
  obtain ⟨hnil, rfl, rfl⟩ := trodAll_nil r1
  subst hnil
  obtain rfl : args = #[v0, v1] := by cases args; simp_all
  obtain ⟨rfl, rfl⟩ := trodVars_none hV
  obtain ⟨n0, E0, hm0, hw0⟩ := Hub.open_Ents (hval 0 22 v0 rfl rfl) h0
  obtain ⟨a1, e1, _, _, w1⟩ := open_string Try.underlying9 (hval 1 9 v1 rfl rfl) h1
  subst e1
  clear hA0 hval0
  simp only [List.append_nil] at hW'
  have hlt0 := hW'.lt
  refine (walk v0 n0 E0 a1 W hm0 hw0 w1).mono fun e W' ⟨he, bel⟩ => ?_
  subst he
  exact ⟨_, rfl, _, _, _, [], _, [], hW', trodAll_mk1 (shut_bool Try.underlying4 _), (trodAll_cons_mk (Below.trod laidOut (by kernel_rfl) (of_decide_eq_true (by kernel_rfl)) h0 bel (fun x hx => hlt0 x (by simp [hx]))) (trodAll_cons_mk (Below.trod laidOut (by kernel_rfl) (of_decide_eq_true (by kernel_rfl)) h1 bel (fun x hx => hlt0 x (by simp [hx]))) trodAll_mk0)), rfl, bel.frame _, fun h => by cases h⟩

theorem over : Rows.fnExactSeekNowRow.holds Try.pinned (OpenSpec.ofChange Rows.fnExactSeekNowSpec) :=
  OpenClaim.holds_of_wide 3 Try.f3 rfl rfl rfl rfl rfl rfl rfl ⟨rfl, rfl, rfl, rfl, rfl⟩ rfl rfl rfl rfl rfl (by kernel_rfl) Try.func3 (by kernel_rfl)
    (of_decide_eq_true (by kernel_rfl)) (by unfold Func.isWrapper; first | (rw [if_pos (by decide +kernel)]; kernel_rfl) | (rw [if_neg (by decide +kernel)]; exact ⟨rfl, rfl⟩))
    (fun os started H enc _ => lifted os started H enc)
theorem proved : Rows.FnExactSeekNowSaid := over
#print axioms proved
end Go.Proofs.Ytkmagkpieihcgaa.fnExactSeekNow

namespace Go.Proofs.Ytkmagkpieihcgaa
/-- The statement. -/
theorem fnExactSeekNow_holds : Rows.FnExactSeekNowSaid := fnExactSeekNow.proved
end Go.Proofs.Ytkmagkpieihcgaa
