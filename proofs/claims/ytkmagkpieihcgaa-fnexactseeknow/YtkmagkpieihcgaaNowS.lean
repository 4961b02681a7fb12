/-
  What stands in a room: the model's l14Now.
-/
import Derived.Test.YtkmagkpieihcgaaFirstS
namespace Go.Proofs.Ytkmagkpieihcgaa.Hub
open Go.RowKit
set_option linter.unusedVariables false
set_option linter.unusedSimpArgs false

/-- A list, one of which has another text. -/
def textAt (L : List EntX) (k : Nat) (t : ByteArray) : List EntX := L.set k { gtEnt L k with text := t }
theorem textAt_len (L : List EntX) (k : Nat) (t : ByteArray) : (textAt L k t).length = L.length := by unfold textAt; rw [List.length_set]
theorem textAt_at (L : List EntX) (k j : Nat) (t : ByteArray) (h : j < L.length) : gtEnt (textAt L k t) j = if j = k then { gtEnt L k with text := t } else gtEnt L j := by
  unfold textAt
  conv => lhs; unfold gtEnt
  rw [List.getD_eq_getElem?_getD, List.getElem?_set]
  by_cases e : k = j
  · subst e; rw [if_pos rfl, if_pos h, if_pos rfl]; rfl
  · rw [if_neg e, if_neg (fun h9 => e h9.symm)]
    unfold gtEnt
    rw [List.getD_eq_getElem?_getD]
def nowStep (L : List EntX) (e : EntX) : List EntX := if (e.ref.toList == []) = true then L ++ [e] else if firstD (gtEnt L) e L.length < 0 then L ++ [e] else textAt L (firstD (gtEnt L) e L.length).toNat e.text
def nowK (E : Nat → EntX) : Nat → List EntX
  | 0 => []
  | k + 1 => nowStep (nowK E k) (E k)
theorem nowStep_len (L : List EntX) (e : EntX) : (nowStep L e).length ≤ L.length + 1 := by
  unfold nowStep
  split
  · simp
  · split
    · simp
    · rw [textAt_len]; omega
/-- A store of a text into a row of one's own. -/
theorem own_text {W : World} {base g cap k : Nat} {L : List EntX} {t : ByteArray} (h : OwnEnt W base (.slice (some ⟨g, 0, none⟩) L.length cap) L.length (gtEnt L)) (hk : k < L.length) : OwnEnt (W.setCell ⟨g, k * 9 + 5, none⟩ (.string t)) base (.slice (some ⟨g, 0, none⟩) (textAt L k t).length cap) (textAt L k t).length (gtEnt (textAt L k t)) ∧ W.grownBy (W.setCell ⟨g, k * 9 + 5, none⟩ (.string t)) (some g) := by
  obtain ⟨h0, hh⟩ := h
  rcases hh with ⟨e, hn⟩ | ⟨g', cap', cur, e, hb, hg, hc, hM, hs, htk⟩
  · cases e
  · cases e
    have k1 := set_heap W g (k * 9 + 5) cur _ _ (.string t) hg
    refine ⟨?_, grown_againEnt (World.grownBy.refl _ _) _ _⟩
    have hat : ∀ j, j < L.length → ∀ i, i < 9 → cur[j * 9 + i]? = (EntC (gtEnt L) j)[i]? := fun j hj i hi => by
      have h1 := rowVs_at (EntC_len (gtEnt L)) L.length j i hj hi
      rw [← htk, List.getElem?_take, if_pos (by omega), Array.getElem?_toList] at h1
      exact h1
    rw [textAt_len]
    refine own_rowL (EntC_len _) (by decide) hb k1 hc hM (by simp [hs]) (fun j hj i hi => ?_)
    rw [at_set _ _ _ _ (by omega)]
    by_cases e5 : k * 9 + 5 = j * 9 + i
    · obtain ⟨rfl, rfl⟩ : k = j ∧ i = 5 := by omega
      rw [if_pos rfl]
      simp only [EntC, textAt_at L k k t hk, if_true]
      rfl
    · rw [if_neg e5, hat j hj i hi]
      simp only [EntC, textAt_at L k j t hj]
      by_cases ej : j = k
      · subst ej
        rw [if_pos rfl]
        match i, hi with
        | 0, _ => rfl
        | 1, _ => rfl
        | 2, _ => rfl
        | 3, _ => rfl
        | 4, _ => rfl
        | 5, _ => exact absurd rfl e5
        | 6, _ => rfl
        | 7, _ => rfl
        | 8, _ => rfl
      · rw [if_neg ej]
theorem apart {v u : Value} {a b : Nat} (H : ∀ q, v.ownBlock = some q → a + 1 ≤ q ∧ q < b) (hu : ∀ q, u.ownBlock = some q → q = a ∨ b ≤ q) : v.ownBlock = none ∨ v.ownBlock ≠ u.ownBlock := by
  cases hv : v.ownBlock with
  | none => exact .inl rfl
  | some q =>
    refine .inr (fun e => ?_)
    have h1 := H q hv
    rcases hu q e.symm with h | h <;> omega
set_option maxRecDepth 100000 in
set_option maxHeartbeats 4000000 in
theorem l14Now_any (room : ByteArray) (v : Value) (n : Nat) (E : Nat → EntX) (T : List EntX) (hT : talkL room ⟨#[]⟩ E n = T) (hn : n ≤ 1048576) (w : World) (hm : EntsAt w v n E) :
    Calls Try.prog 12 #[v, .string room] w fun e w' => ∃ u, e = .returned u ∧ OwnEnt w' w.heap.size u (nowK (gtEnt T) T.length).length (gtEnt (nowK (gtEnt T) T.length)) ∧ Below w.heap.size w w' := by
  have hTl : T.length ≤ 1048576 := by
    have := talkL_len room ⟨#[]⟩ E n
    rw [hT] at this
    omega
  obtain ⟨o, cap, rfl⟩ := hm.shape
  have b0 := below_alloc w (.cells #[] 33)
  have c7 := l7Of_any room ⟨#[]⟩ _ n E hn _ (hm.below b0)
  rw [hT] at c7
  clear hT hm
  obtain ⟨i0, hi, hz0, hz1, hz2⟩ := info_parts info_Ent
  have OW0 := World.ownsRow_made (e := 33) (size := 9) w #[] 0 (Nat.le_refl _) (Nat.zero_le _) rfl
  go_enter Try.func12, Try.ntmps12
  go_wp2_with fail
  refine c7.mono ?_
  rintro e w1 ⟨ul, rfl, OT, b1⟩
  rw [World.size_alloc] at OT
  obtain ⟨ot, ct, rfl⟩ := OwnL.shape OT
  have HTL : Hid (∀ q, (Value.slice ot T.length ct).ownBlock = some q → w.heap.size + 1 ≤ q ∧ q < w1.heap.size) := OwnL.lt OT
  have bw1 : Below w.heap.size w w1 := b0.trans (b1.mono (by simp))
  have hs1 := b1.size
  have OW1 : Hid (OwnEnt w1 w.heap.size (.slice (some ⟨w.heap.size, 0, none⟩) 0 0) 0 (gtEnt [])) := OwnL.below OW0 b1
  have OT1 : Hid (OwnEnt w1 (w.heap.size + 1) (.slice ot T.length ct) T.length (gtEnt T)) := OT
  clear OW0 OT b0 b1 c7
  go_wp2_with fail
  go_loopw [5, 7] (fun u i wr => ∃ (k cap2 : Nat) (oo : Option Addr) (L : List EntX), k ≤ T.length ∧ i = .int .i64 k ∧ L.length ≤ k ∧ u = .slice oo L.length cap2 ∧ Hid (OwnEnt wr w.heap.size (.slice oo L.length cap2) L.length (gtEnt L)) ∧ Hid (∀ q, (Value.slice oo L.length cap2).ownBlock = some q → q = w.heap.size ∨ w1.heap.size ≤ q) ∧ Hid (OwnEnt wr (w.heap.size + 1) (.slice ot T.length ct) T.length (gtEnt T)) ∧ Hid (nowK (gtEnt T) k = L) ∧ w1.heap.size ≤ wr.heap.size ∧ Below w.heap.size w wr) (fun _ i _ => T.length - (intOf i).toNat)
  case atStart => exact ⟨0, 0, some ⟨w.heap.size, 0, none⟩, [], Nat.zero_le _, rfl, Nat.le_refl _, rfl, OW1, fun q hq => .inl (Option.some.inj hq).symm, OT1, rfl, Nat.le_refl _, bw1⟩
  case round =>
    obtain ⟨k, cap2, oo, L, hk, rfl, hL, rfl, hown, HQ, OTr, HA, hsz, bw⟩ := hrel
    by_cases hlt : k < T.length
    · have HS : Hid (nowK (gtEnt T) (k + 1) = nowStep L (gtEnt T k)) := (by rw [← HA.out]; rfl : nowK (gtEnt T) (k + 1) = nowStep L (gtEnt T k))
      obtain ⟨o9, cap9, e9, h1, h2, hcc⟩ := OwnEnt.at OTr.out
      cases e9
      obtain ⟨b, f, ho, hb, c0, c1, c2, c3, c4, c5, c6, c7, c8⟩ := hcc k hlt
      subst ho
      have hct : T.length ≤ ct := h1
      have hct2 : ct ≤ 9223372036854775807 := h2
      have i1 : (0 : Int) ≤ (k : Int) := by omega
      have i2 : (k : Int) < (T.length : Int) := by omega
      have cF := l14First_any (.slice oo L.length cap2) L.length (gtEnt L) (gtEnt T k) (by omega) wr (OwnEnt.at hown.out)
      have hfr := firstD_range (gtEnt L) (gtEnt T k) L.length
      obtain ⟨x, hx⟩ : ∃ x, gtEnt T k = x := ⟨_, rfl⟩
      rw [hx] at c0 c1 c2 c3 c4 c5 c6 c7 c8 cF HS hfr
      obtain ⟨R, hR⟩ : ∃ R, firstD (gtEnt L) x L.length = R := ⟨_, rfl⟩
      rw [hR] at cF hfr
      have HR : Hid (firstD (gtEnt L) x L.length = R) := hR
      clear hx HA hcc h1 h2 hR
      go_wp2_with fail
      go_fit cF
      rintro e w2 ⟨rfl, b2⟩
      have d0 := (b2.cell (p := ⟨b, f + k * 9, none⟩) hb).trans c0
      have d1 := (b2.cell (p := ⟨b, f + k * 9 + 1, none⟩) hb).trans c1
      have d2 := (b2.cell (p := ⟨b, f + k * 9 + 2, none⟩) hb).trans c2
      have d3 := (b2.cell (p := ⟨b, f + k * 9 + 3, none⟩) hb).trans c3
      have d4 := (b2.cell (p := ⟨b, f + k * 9 + 4, none⟩) hb).trans c4
      have d5 := (b2.cell (p := ⟨b, f + k * 9 + 5, none⟩) hb).trans c5
      have d6 := (b2.cell (p := ⟨b, f + k * 9 + 6, none⟩) hb).trans c6
      have d7 := (b2.cell (p := ⟨b, f + k * 9 + 7, none⟩) hb).trans c7
      have d8 := (b2.cell (p := ⟨b, f + k * 9 + 8, none⟩) hb).trans c8
      have O2 : Hid (OwnEnt w2 w.heap.size (.slice oo L.length cap2) L.length (gtEnt L)) := OwnL.below hown.out b2
      have OT2 : Hid (OwnEnt w2 (w.heap.size + 1) (.slice (some ⟨b, f, none⟩) T.length ct) T.length (gtEnt T)) := OwnL.below OTr.out b2
      have bw2 : Below w.heap.size w w2 := bw.trans (b2.mono bw.size)
      have hs2 := b2.size
      have SRC : Hid _ := Entnew w2 x
      have hbs := bw.size
      clear c0 c1 c2 c3 c4 c5 c6 c7 c8 cF hown OTr b2
      cases q : (x.ref.toList == [])
      · by_cases hneg : R < 0
        · skip
          have HTT : Hid (nowK (gtEnt T) (k + 1) = L ++ [x]) := (by rw [HS.out]; unfold nowStep; rw [if_neg (by rw [q]; decide), if_pos (by rw [HR.out]; exact hneg)] : nowK (gtEnt T) (k + 1) = L ++ [x])
          clear HS
          go_wp2_with (at_builtin; refine wpList_append_list rfl _ _ _ rfl w.heap.size 33 i0 _ 9 120 Try.underlying24 hi hz0 hz1 hz2 rfl (by omega) (.slice oo L.length cap2) L.length (rowVs (EntC (gtEnt L)) L.length) rfl (OwnL.alloc O2.out _) (.slice (some ⟨w2.heap.size, 0, none⟩) 1 1) 1 (EntC (fun _ => x)) rfl SRC.out (fun _ => rfl) (Entcells x) (by unfold maxLen; omega) (by omega) (by simp; omega) (w2.heap.size + 1) (by simp) ?_; intro o3 c3 w3 hown3 hgrow hat; have HOW : Hid _ := hown3; have HGR : Hid _ := hgrow; have HAT : Hid _ := hat; clear hown3 hgrow hat)
          have O3 : OwnEnt w3 w.heap.size (.slice o3 (L.length + 1) c3) (L ++ [x]).length (gtEnt (L ++ [x])) := Entsnoc HOW.out
          have hll : (L ++ [x]).length = L.length + 1 := by simp
          have b3 : Below w.heap.size w w3 := ((bw2).alloc bw2.size _).grown HGR.out (by simp; omega) (fun q hq => (OwnL.lt O2.out q hq).1)
          have OT3 : Hid (OwnEnt w3 (w.heap.size + 1) (.slice (some ⟨b, f, none⟩) T.length ct) T.length (gtEnt T)) := OwnL.kept (OwnL.alloc OT2.out _) HGR.out (apart HTL.out HQ.out)
          have HQ3 : Hid (∀ q, (Value.slice o3 (L.length + 1) c3).ownBlock = some q → q = w.heap.size ∨ w1.heap.size ≤ q) := fun q hq => by
            rcases HAT.out with h | h
            · exact HQ.out q (by rw [← h]; exact hq)
            · rw [hq] at h
              have := Option.some.inj h
              right; omega
          have hs3 : w1.heap.size ≤ w3.heap.size := by have := HGR.out.size; simp at this; omega
          exact ⟨⟨k + 1, c3, o3, L ++ [x], by omega, by go_num, by omega, by rw [hll], (by rw [hll] at O3 ⊢; exact O3), (by rw [hll]; exact HQ3), OT3, HTT, hs3, b3⟩, by simp [intOf]; omega⟩
        · obtain ⟨m, rfl⟩ : ∃ m : Nat, R = (m : Int) := ⟨R.toNat, by omega⟩
          have hmL : m < L.length := by omega
          have m1 : (0 : Int) ≤ (m : Int) := by omega
          have m2 : (m : Int) < (L.length : Int) := by omega
          have HTT : Hid (nowK (gtEnt T) (k + 1) = textAt L m x.text) := (by rw [HS.out]; unfold nowStep; rw [if_neg (by rw [q]; decide), if_neg (by rw [HR.out]; exact hneg), HR.out]; rfl : nowK (gtEnt T) (k + 1) = textAt L m x.text)
          clear HS HR
          obtain ⟨g, hgo⟩ : ∃ g, oo = some ⟨g, 0, none⟩ := by
            rcases O2.out.2 with ⟨e, hn0⟩ | ⟨g, cc, cur, e, _⟩
            · omega
            · cases e; exact ⟨g, rfl⟩
          subst hgo
          obtain ⟨o8, cap8, e8, h1, h2, hcc⟩ := OwnEnt.at O2.out
          cases e8
          obtain ⟨b8, f8, ho8, hb8, t0, t1, t2, t3, t4, t5, t6, t7, t8⟩ := hcc m hmL
          cases ho8
          have hc2 : L.length ≤ cap2 := h1
          have hc3 : cap2 ≤ 9223372036854775807 := h2
          rw [Nat.zero_add] at t5
          have fz : w2.frozen? ⟨g, m * 9 + 5, none⟩ = false := by
            rcases O2.out.2 with ⟨e, hn0⟩ | ⟨g9, cc, cur, e, _, hgg, _⟩
            · cases e
            · cases e; simp [World.frozen?, hgg]
          obtain ⟨O3, G3⟩ := own_text (t := x.text) O2.out hmL
          have HO3 : Hid _ := O3
          have HG3 : Hid (w2.grownBy _ (some g)) := G3
          have OT3 : Hid (OwnEnt _ (w.heap.size + 1) (.slice (some ⟨b, f, none⟩) T.length ct) T.length (gtEnt T)) := OwnL.kept OT2.out G3 (apart (u := .slice (some ⟨g, 0, none⟩) L.length cap2) HTL.out HQ.out)
          have hgb : w.heap.size ≤ g := (OwnL.lt O2.out g rfl).1
          have hlen := textAt_len L m x.text
          have HLN : Hid (_ = _) := hlen
          clear O3 G3 hcc h1 h2 t0 t1 t2 t3 t4 t6 t7 t8 hlen
          go_wp2_with fail
          have hgs := HG3.out.size
          exact ⟨⟨k + 1, cap2, some ⟨g, 0, none⟩, textAt L m x.text, by omega, by go_num, by rw [HLN.out]; omega, by rw [HLN.out], HO3, (by rw [HLN.out]; exact HQ), OT3, HTT, by omega, bw2.setCell (p := ⟨g, m * 9 + 5, none⟩) hgb _⟩, by simp [intOf]; omega⟩
      · skip
        have HTT : Hid (nowK (gtEnt T) (k + 1) = L ++ [x]) := (by rw [HS.out]; unfold nowStep; rw [if_pos q] : nowK (gtEnt T) (k + 1) = L ++ [x])
        clear HS
        go_wp2_with (at_builtin; refine wpList_append_list rfl _ _ _ rfl w.heap.size 33 i0 _ 9 120 Try.underlying24 hi hz0 hz1 hz2 rfl (by omega) (.slice oo L.length cap2) L.length (rowVs (EntC (gtEnt L)) L.length) rfl (OwnL.alloc O2.out _) (.slice (some ⟨w2.heap.size, 0, none⟩) 1 1) 1 (EntC (fun _ => x)) rfl SRC.out (fun _ => rfl) (Entcells x) (by unfold maxLen; omega) (by omega) (by simp; omega) (w2.heap.size + 1) (by simp) ?_; intro o3 c3 w3 hown3 hgrow hat; have HOW : Hid _ := hown3; have HGR : Hid _ := hgrow; have HAT : Hid _ := hat; clear hown3 hgrow hat)
        have O3 : OwnEnt w3 w.heap.size (.slice o3 (L.length + 1) c3) (L ++ [x]).length (gtEnt (L ++ [x])) := Entsnoc HOW.out
        have hll : (L ++ [x]).length = L.length + 1 := by simp
        have b3 : Below w.heap.size w w3 := ((bw2).alloc bw2.size _).grown HGR.out (by simp; omega) (fun q hq => (OwnL.lt O2.out q hq).1)
        have OT3 : Hid (OwnEnt w3 (w.heap.size + 1) (.slice (some ⟨b, f, none⟩) T.length ct) T.length (gtEnt T)) := OwnL.kept (OwnL.alloc OT2.out _) HGR.out (apart HTL.out HQ.out)
        have HQ3 : Hid (∀ q, (Value.slice o3 (L.length + 1) c3).ownBlock = some q → q = w.heap.size ∨ w1.heap.size ≤ q) := fun q hq => by
          rcases HAT.out with h | h
          · exact HQ.out q (by rw [← h]; exact hq)
          · rw [hq] at h
            have := Option.some.inj h
            right; omega
        have hs3 : w1.heap.size ≤ w3.heap.size := by have := HGR.out.size; simp at this; omega
        exact ⟨⟨k + 1, c3, o3, L ++ [x], by omega, by go_num, by omega, by rw [hll], (by rw [hll] at O3 ⊢; exact O3), (by rw [hll]; exact HQ3), OT3, HTT, hs3, b3⟩, by simp [intOf]; omega⟩
    · obtain rfl : k = T.length := by omega
      go_wp2_with fail
      go_ret
      exact ⟨_, rfl, by rw [HA.out]; exact hown.out, bw⟩
end Go.Proofs.Ytkmagkpieihcgaa.Hub
