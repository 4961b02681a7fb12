/-
  What stands in a room: the program's SeekNow, and SeekNow of the model.
-/
import Derived.Test.YtkmagkpieihcgaaSeekK
import Derived.Test.YtkmagkpieihcgaaTalkI
import Derived.Test.YtkmagkpieihcgaaCopiesI
namespace Go.Proofs.Ytkmagkpieihcgaa.Hub
open Go.RowKit Go.Maps
set_option linter.unusedVariables false
set_option linter.unusedSimpArgs false

def smallL (L : List EntX) : Prop := ∀ j, j < L.length → smallE (gtEnt L j)
theorem smallL_snoc {L : List EntX} {e : EntX} (h : smallL L) (he : smallE e) : smallL (L ++ [e]) := by
  intro j hj
  rw [List.length_append, List.length_singleton] at hj
  by_cases ej : j = L.length
  · subst ej; rw [gtEnt_end]; exact he
  · rw [gtEnt_app L e j (by omega)]; exact h j (by omega)
theorem smallL_text {L : List EntX} {t : ByteArray} (m : Nat) (h : smallL L) (ht : t.size ≤ 1048600) : smallL (textAt L m t) := by
  intro j hj
  rw [textAt_len] at hj
  rw [textAt_at L m j t hj]
  by_cases ej : j = m
  · subst ej
    rw [if_pos rfl]
    obtain ⟨a, b, c, d, e, f⟩ := h j hj
    exact ⟨a, b, c, ht, e, f⟩
  · rw [if_neg ej]; exact h j hj
theorem now_small {T : List EntX} (h : smallL T) : ∀ k, k ≤ T.length → smallL (nowK (gtEnt T) k)
  | 0, _ => fun j hj => absurd hj (by simp [nowK])
  | k + 1, hk => by
    have ih := now_small h k (by omega)
    have he := h k (by omega)
    unfold nowK nowStep
    split
    · exact smallL_snoc ih he
    · split
      · exact smallL_snoc ih he
      · exact smallL_text _ ih he.2.2.2.1
set_option maxRecDepth 100000 in
theorem specSeekNow_any (room : ByteArray) (v : Value) (n : Nat) (E : Nat → EntX) (T : List EntX) (hT : talkL room ⟨#[]⟩ E n = T) (hn : n ≤ 1048576) (w : World) (hm : EntsAt w v n E) :
    Calls Try.prog 5 #[v, .string room] w fun e w' => ∃ u, e = .returned u ∧ OwnEnt w' w.heap.size u (nowK (gtEnt T) T.length).length (gtEnt (nowK (gtEnt T) T.length)) ∧ Below w.heap.size w w' := by
  have c := l14Now_any room v n E T hT hn w hm
  obtain ⟨o, cap, rfl⟩ := hm.shape
  clear hm
  go_enter Try.func5, Try.ntmps5
  go_wp2_with fail
  refine c.mono ?_
  rintro e w1 ⟨u, rfl, h1, b1⟩
  go_wp2_with fail
  go_ret
  exact ⟨u, rfl, h1, b1⟩
set_option maxRecDepth 100000 in
set_option maxHeartbeats 4000000 in
theorem seekNow_any (room : ByteArray) (v : Value) (n : Nat) (E : Nat → EntX) (T : List EntX) (hT : talkL room ⟨#[]⟩ E n = T) (hn : n ≤ 1048576) (hsm : smallL T) (w : World) (hm : EntsAt w v n E) :
    Calls Try.prog 7 #[v, .string room] w fun e w' => ∃ u, e = .returned u ∧ OwnEnt w' w.heap.size u (nowK (gtEnt T) T.length).length (gtEnt (nowK (gtEnt T) T.length)) ∧ Below w.heap.size w w' := by
  have hTl : T.length ≤ 1048576 := by
    have := talkL_len room ⟨#[]⟩ E n
    rw [hT] at this
    omega
  have hmm := @run_makeMap Try.prog
  obtain ⟨o, cap, rfl⟩ := hm.shape
  have b0 := below_alloc w (.map #[] 0)
  have c7 := talkOf_any room ⟨#[]⟩ _ n E hn _ (hm.below b0)
  rw [hT] at c7
  clear hT hm
  have HSZ : Hid (∀ k, k < T.length → (gtEnt T k).user.size ≤ maxLen ∧ (gtEnt T k).id.size ≤ maxLen ∧ (gtEnt T k).ref.size ≤ maxLen) := fun k hk => by
    obtain ⟨_, b, _, _, e, f⟩ := hsm k hk
    unfold maxLen
    exact ⟨by omega, by omega, by omega⟩
  have HSM : Hid (smallL T) := hsm
  clear hsm
  obtain ⟨i0, hi, hz0, hz1, hz2⟩ := info_parts info_Ent
  have M0 := World.ownsMap_made w Try.prog 38 (plainElem (H := Unit) Try.prog 3)
  go_enter Try.func7, Try.ntmps7
  go_wp2_with fail
  refine c7.mono ?_
  rintro e w1 ⟨ul, rfl, OT, b1⟩
  rw [World.size_alloc] at OT
  obtain ⟨ot, ct, rfl⟩ := OwnL.shape OT
  have HTL : Hid (∀ q, (Value.slice ot T.length ct).ownBlock = some q → w.heap.size + 1 ≤ q ∧ q < w1.heap.size) := OwnL.lt OT
  have bw1 : Below w.heap.size w w1 := b0.trans (b1.mono (by simp))
  have hs1 : w.heap.size + 1 ≤ w1.heap.size := by have := b1.size; simp at this; exact this
  have M1 : Hid (w1.ownsMap Try.prog 38 (plainElem (H := Unit) Try.prog 3) w.heap.size 0 (.map [])) := M0.kept (row := none) ⟨b1.os, b1.tape, b1.output, b1.size, fun k hk _ => b1.block k hk⟩ (by simp)
  have OT1 : Hid (OwnEnt w1 (w.heap.size + 1) (.slice ot T.length ct) T.length (gtEnt T)) := OT
  clear M0 OT b0 b1 c7
  go_wp2_with fail
  go_loopw [5, 16] (fun u i wr => ∃ (k cap2 : Nat) (oo : Option Addr) (L : List EntX) (D : DataW Unit), k ≤ T.length ∧ i = .int .i64 k ∧ L.length ≤ k ∧ u = .slice oo L.length cap2 ∧ Hid (OwnEnt wr w1.heap.size (.slice oo L.length cap2) L.length (gtEnt L)) ∧ Hid (wr.ownsMap Try.prog 38 (plainElem Try.prog 3) w.heap.size k D) ∧ Hid (InvP D L) ∧ Hid (OwnEnt wr (w.heap.size + 1) (.slice ot T.length ct) T.length (gtEnt T)) ∧ Hid (nowK (gtEnt T) k = L) ∧ w1.heap.size ≤ wr.heap.size ∧ Below w.heap.size w wr) (fun _ i _ => T.length - (intOf i).toNat)
  case atStart => exact ⟨0, 0, none, [], _, Nat.zero_le _, rfl, Nat.le_refl _, rfl, OwnL.nil _ _ _ _ _, M1, invP_nil, OT1, rfl, Nat.le_refl _, bw1⟩
  case round =>
    obtain ⟨k, cap2, oo, L, D, hk, rfl, hL, rfl, hown, HM, HV, OTr, HA, hsw, bw⟩ := hrel
    by_cases hlt : k < T.length
    · have HS : Hid (nowK (gtEnt T) (k + 1) = nowStep L (gtEnt T k)) := (by rw [← HA.out]; rfl : nowK (gtEnt T) (k + 1) = nowStep L (gtEnt T k))
      obtain ⟨o9, cap9, e9, h1, h2, hcc⟩ := OwnEnt.at OTr.out
      cases e9
      obtain ⟨b, f, ho, hb, c0, c1, c2, c3, c4, c5, c6, c7, c8⟩ := hcc k hlt
      subst ho
      have hct : T.length ≤ ct := h1
      have hct2 : ct ≤ 9223372036854775807 := h2
      have i1 : (0 : Int) ≤ (k : Int) := by omega
      have i2 : (k : Int) < (T.length : Int) := by omega
      obtain ⟨z3, z6, z7⟩ := HSZ.out k hlt
      obtain ⟨x, hx⟩ : ∃ x, gtEnt T k = x := ⟨_, rfl⟩
      rw [hx] at c0 c1 c2 c3 c4 c5 c6 c7 c8 HS z3 z6 z7
      clear hx HA hcc h1 h2
      have hbs := bw.size
      have b2 : Below w.heap.size w (wr.alloc (.cells #[.string x.room, .int .i64 x.seq, .int .i64 x.kind, .string x.user, .string x.nick, .string x.text, .string x.id, .string x.ref, .int .i64 x.num] 33)) := bw.alloc bw.size _
      have O2 : Hid (OwnEnt (wr.alloc (.cells #[.string x.room, .int .i64 x.seq, .int .i64 x.kind, .string x.user, .string x.nick, .string x.text, .string x.id, .string x.ref, .int .i64 x.num] 33)) w1.heap.size (.slice oo L.length cap2) L.length (gtEnt L)) := OwnL.alloc hown.out _
      have OT2 : Hid (OwnEnt (wr.alloc (.cells #[.string x.room, .int .i64 x.seq, .int .i64 x.kind, .string x.user, .string x.nick, .string x.text, .string x.id, .string x.ref, .int .i64 x.num] 33)) (w.heap.size + 1) (.slice (some ⟨b, f, none⟩) T.length ct) T.length (gtEnt T)) := OwnL.alloc OTr.out _
      have M2 := World.ownsMap.alloc HM.out (.cells #[.string x.room, .int .i64 x.seq, .int .i64 x.kind, .string x.user, .string x.nick, .string x.text, .string x.id, .string x.ref, .int .i64 x.num] 33)
      have hk1 := klit_key x.user x.id z3 z6
      have hk2 := klit_key x.user x.ref z3 z7
      have hfd := firstD_pk (gtEnt L) x L.length
      have hfr := firstD_range (gtEnt L) x L.length
      cases q : (x.ref.toList == [])
      · obtain ⟨v9, ps, hrun, hv9⟩ := M2.look_ok keyedK Try.underlying35 (Try.zeroValue3 _) (plainElem_int (H := Unit) Try.underlying3 (by decide : (Lit.int .i64 0).wf = true)) hk2
        obtain ⟨c, rfl, hcc, _⟩ := plainElem_int_inv Try.underlying3 hv9
        have hat : D.atKey (klit x.user x.ref) (.lit (.int .i64 0)) = .lit (.int .i64 c) := congrArg Prod.fst hcc
        obtain ⟨hn9, hp9⟩ := HV.out.2 x.user x.ref z3 z7
        rw [← hfd] at hn9 hp9
        obtain ⟨R, hR⟩ : ∃ R, firstD (gtEnt L) x L.length = R := ⟨_, rfl⟩
        rw [hR] at hn9 hp9 hfr
        have HR : Hid (firstD (gtEnt L) x L.length = R) := hR
        clear hR hfd hcc hv9 hk1
        by_cases hneg : R < 0
        · rw [hn9 hneg] at hrun
          have HTT : Hid (nowK (gtEnt T) (k + 1) = L ++ [x]) := (by rw [HS.out]; unfold nowStep; rw [if_neg (by rw [q]; decide), if_pos (by rw [HR.out]; exact hneg)] : nowK (gtEnt T) (k + 1) = L ++ [x])
          have HI : Hid (InvP D (L ++ [x])) := invP_other HV.out x q
          have SRC0 := Entnew (wr.alloc (.cells #[.string x.room, .int .i64 x.seq, .int .i64 x.kind, .string x.user, .string x.nick, .string x.text, .string x.id, .string x.ref, .int .i64 x.num] 33)) x
          rw [World.size_alloc] at SRC0
          have SRC : Hid _ := SRC0
          have O3 := O2
          have OT3 := OT2
          have M3 : Hid _ := M2
          have b3 := b2
          clear SRC0 HS HR hn9 hp9 hat M2 HM hown OTr O2 OT2
          go_wp2_with (at_builtin; refine wpList_append_list rfl _ _ _ rfl w1.heap.size 33 i0 _ 9 120 Try.underlying24 hi hz0 hz1 hz2 rfl (by omega) (.slice oo L.length cap2) L.length (rowVs (EntC (gtEnt L)) L.length) rfl (OwnL.alloc O3.out _) (.slice (some ⟨wr.heap.size + 1, 0, none⟩) 1 1) 1 (EntC (fun _ => x)) rfl SRC.out (fun _ => rfl) (Entcells x) (by unfold maxLen; omega) (by omega) (by simp; omega) (wr.heap.size + 1 + 1) (by simp) ?_; intro o3 c3 w5 hown5 hgrow hat; have HOW : Hid _ := hown5; have HGR : Hid _ := hgrow; clear hown5 hgrow hat)
          have O5 : OwnEnt w5 w1.heap.size (.slice o3 (L.length + 1) c3) (L ++ [x]).length (gtEnt (L ++ [x])) := Entsnoc HOW.out
          have hll : (L ++ [x]).length = L.length + 1 := by simp
          have hge : ∀ q, (Value.slice oo L.length cap2).ownBlock = some q → w1.heap.size ≤ q := fun q hq => (OwnL.lt O3.out q hq).1
          have b5 : Below w.heap.size w w5 := (b3.alloc b3.size _).grown HGR.out (by simp; omega) (fun q hq => by have := hge q hq; omega)
          have OT5 : Hid (OwnEnt w5 (w.heap.size + 1) (.slice (some ⟨b, f, none⟩) T.length ct) T.length (gtEnt T)) := OwnL.kept (OwnL.alloc OT3.out _) HGR.out (apart (a := w.heap.size) HTL.out (fun q hq => .inr (hge q hq)))
          have M5 : Hid (w5.ownsMap Try.prog 38 (plainElem Try.prog 3) w.heap.size (k + 1) D) := (World.ownsMap.kept (World.ownsMap.alloc M3.out _) HGR.out (fun e => by have := hge _ e.symm; omega)).mono (by omega)
          have hs5 : w1.heap.size ≤ w5.heap.size := by have := HGR.out.size; simp at this; omega
          exact ⟨⟨k + 1, c3, o3, L ++ [x], _, by omega, by go_num, by omega, by rw [hll], (by rw [hll] at O5 ⊢; exact O5), M5, HI, OT5, HTT, hs5, b5⟩, by simp [intOf]; omega⟩
        · obtain ⟨m, rfl⟩ : ∃ m : Nat, R = (m : Int) := ⟨R.toNat, by omega⟩
          have hmL : m < L.length := by omega
          obtain ⟨hp1, hp2⟩ := hp9 (by omega)
          rw [hp2] at hat
          obtain rfl : c = (m : Int) := by simpa using hat.symm
          rw [hp1] at hrun
          have m1 : (0 : Int) ≤ (m : Int) := by omega
          have m2 : (m : Int) < (L.length : Int) := by omega
          have HTT : Hid (nowK (gtEnt T) (k + 1) = textAt L m x.text) := (by rw [HS.out]; unfold nowStep; rw [if_neg (by rw [q]; decide), if_neg (by rw [HR.out]; exact hneg), HR.out]; rfl : nowK (gtEnt T) (k + 1) = textAt L m x.text)
          have HI : Hid (InvP D (textAt L m x.text)) := invP_text HV.out m x.text
          clear HS HR hp9 hn9 hp1 hp2 hat
          obtain ⟨g, hgo⟩ : ∃ g, oo = some ⟨g, 0, none⟩ := by
            rcases O2.out.2 with ⟨e, hn0⟩ | ⟨g, cc, cur, e, _⟩
            · omega
            · cases e; exact ⟨g, rfl⟩
          subst hgo
          obtain ⟨o8, cap8, e8, h1, h2, hcc⟩ := OwnEnt.at O2.out
          cases e8
          obtain ⟨b8, f8, ho8, hb8, t0, t1, t2, t3, t4, t5, t6, t7, t8⟩ := hcc m hmL
          cases ho8
          have hc2 : L.length ≤ cap2 := h1
          have hc3 : cap2 ≤ 9223372036854775807 := h2
          rw [Nat.zero_add] at t5
          have fz : (wr.alloc (.cells #[.string x.room, .int .i64 x.seq, .int .i64 x.kind, .string x.user, .string x.nick, .string x.text, .string x.id, .string x.ref, .int .i64 x.num] 33)).frozen? ⟨g, m * 9 + 5, none⟩ = false := by
            rcases O2.out.2 with ⟨e, hn0⟩ | ⟨g9, cc, cur, e, _, hgg, _⟩
            · cases e
            · cases e; simp [World.frozen?, hgg]
          obtain ⟨O3, G3⟩ := own_text (t := x.text) O2.out hmL
          have HO3 : Hid _ := O3
          have HG3 : Hid ((wr.alloc (.cells #[.string x.room, .int .i64 x.seq, .int .i64 x.kind, .string x.user, .string x.nick, .string x.text, .string x.id, .string x.ref, .int .i64 x.num] 33)).grownBy _ (some g)) := G3
          have hgb : w1.heap.size ≤ g := (OwnL.lt O2.out g rfl).1
          have OT3 : Hid (OwnEnt _ (w.heap.size + 1) (.slice (some ⟨b, f, none⟩) T.length ct) T.length (gtEnt T)) := OwnL.kept OT2.out G3 (apart (a := w.heap.size) (u := .slice (some ⟨g, 0, none⟩) L.length cap2) HTL.out (fun q hq => .inr (by have := Option.some.inj hq; simp only at this; omega)))
          have M3 : Hid _ := (World.ownsMap.kept M2 G3 (fun e => by have := Option.some.inj e; omega)).mono (Nat.le_succ k)
          have hlen := textAt_len L m x.text
          have HLN : Hid (_ = _) := hlen
          clear O3 G3 hcc h1 h2 t0 t1 t2 t3 t4 t6 t7 t8 hlen M2 HM hown OTr OT2
          go_wp2_with fail
          have hgs := HG3.out.size
          have hgs2 : wr.heap.size + 1 ≤ (wr.alloc (.cells #[.string x.room, .int .i64 x.seq, .int .i64 x.kind, .string x.user, .string x.nick, .string x.text, .string x.id, .string x.ref, .int .i64 x.num] 33)).heap.size := by simp
          exact ⟨⟨k + 1, cap2, some ⟨g, 0, none⟩, textAt L m x.text, _, by omega, by go_num, by rw [HLN.out]; omega, by rw [HLN.out], HO3, M3, HI, OT3, HTT, by omega, b2.setCell (p := ⟨g, m * 9 + 5, none⟩) (by show w.heap.size ≤ g; omega) _⟩, by simp [intOf]; omega⟩
      · have hlm : k < maxLen := by unfold maxLen; omega
        have hwL : (Lit.int .i64 (L.length : Int)).wf = true := by
          have h8 : IntKind.i64.min ≤ (L.length : Int) ∧ (L.length : Int) ≤ IntKind.i64.max := by
            constructor
            · show (-9223372036854775808 : Int) ≤ _; omega
            · show _ ≤ (9223372036854775807 : Int); omega
          simp only [Lit.wf, Bool.and_eq_true, decide_eq_true_eq]
          exact h8
        obtain ⟨W3, hrun, M3', hg3⟩ := M2.update keyedK Try.underlying35 hlm hk1 (plainElem_int Try.underlying3 hwL)
        have hgo : ∀ q, (Value.slice oo L.length cap2).ownBlock = some q → w1.heap.size ≤ q := fun q hq => (OwnL.lt O2.out q hq).1
        have hh : ∀ i, W3.cell? ⟨wr.heap.size, i, none⟩ = (#[.string x.room, .int .i64 x.seq, .int .i64 x.kind, .string x.user, .string x.nick, .string x.text, .string x.id, .string x.ref, .int .i64 x.num] : Array Value)[i]? := fun i => by
          have hb9 := hg3.block wr.heap.size (by simp) (fun e => by have := Option.some.inj e; omega)
          have := line_cell wr #[.string x.room, .int .i64 x.seq, .int .i64 x.kind, .string x.user, .string x.nick, .string x.text, .string x.id, .string x.ref, .int .i64 x.num] 33 i
          rw [← this]
          simp only [World.cell?, hb9]
        have y0 := hh 0
        have y1 := hh 1
        have y2 := hh 2
        have y3 := hh 3
        have y4 := hh 4
        have y5 := hh 5
        have y6 := hh 6
        have y7 := hh 7
        have y8 := hh 8
        simp only [List.getElem?_toArray, List.getElem?_cons_zero, List.getElem?_cons_succ] at y0 y1 y2 y3 y4 y5 y6 y7 y8
        have HTT : Hid (nowK (gtEnt T) (k + 1) = L ++ [x]) := (by rw [HS.out]; unfold nowStep; rw [if_pos q] : nowK (gtEnt T) (k + 1) = L ++ [x])
        have HI : Hid (InvP (D.put (klit x.user x.id) (.lit (.int .i64 (L.length : Int)))) (L ++ [x])) := invP_put HV.out x q z3 z6
        have O3 : Hid (OwnEnt W3 w1.heap.size (.slice oo L.length cap2) L.length (gtEnt L)) := OwnL.kept O2.out hg3 (by
          cases hv : (Value.slice oo L.length cap2).ownBlock with
          | none => exact .inl rfl
          | some q9 => exact .inr (fun e => by have := hgo q9 hv; have := Option.some.inj e; omega))
        have OT3 : Hid (OwnEnt W3 (w.heap.size + 1) (.slice (some ⟨b, f, none⟩) T.length ct) T.length (gtEnt T)) := OwnL.kept OT2.out hg3 (.inr (fun e => by have := (HTL.out _ e).1; omega))
        have M3 : Hid _ := M3'
        have b3 : Below w.heap.size w W3 := b2.grown hg3 b2.size (fun q9 e => by have := Option.some.inj e; omega)
        have hs3 : wr.heap.size + 1 ≤ W3.heap.size := by have := hg3.size; simp at this; exact this
        have SRC : Hid _ := Entnew W3 x
        clear HS M3' hg3 M2 HM hown OTr O2 OT2 hh hfd hfr hk2

        go_wp2_with (at_builtin; refine wpList_append_list rfl _ _ _ rfl w1.heap.size 33 i0 _ 9 120 Try.underlying24 hi hz0 hz1 hz2 rfl (by omega) (.slice oo L.length cap2) L.length (rowVs (EntC (gtEnt L)) L.length) rfl (OwnL.alloc O3.out _) (.slice (some ⟨W3.heap.size, 0, none⟩) 1 1) 1 (EntC (fun _ => x)) rfl SRC.out (fun _ => rfl) (Entcells x) (by unfold maxLen; omega) (by omega) (by simp; omega) (W3.heap.size + 1) (by simp) ?_; intro o3 c3 w5 hown5 hgrow hat; have HOW : Hid _ := hown5; have HGR : Hid _ := hgrow; clear hown5 hgrow hat)
        have O5 : OwnEnt w5 w1.heap.size (.slice o3 (L.length + 1) c3) (L ++ [x]).length (gtEnt (L ++ [x])) := Entsnoc HOW.out
        have hll : (L ++ [x]).length = L.length + 1 := by simp
        have hge : ∀ q, (Value.slice oo L.length cap2).ownBlock = some q → w1.heap.size ≤ q := fun q hq => (OwnL.lt O3.out q hq).1
        have b5 : Below w.heap.size w w5 := (b3.alloc b3.size _).grown HGR.out (by simp; omega) (fun q hq => by have := hge q hq; omega)
        have OT5 : Hid (OwnEnt w5 (w.heap.size + 1) (.slice (some ⟨b, f, none⟩) T.length ct) T.length (gtEnt T)) := OwnL.kept (OwnL.alloc OT3.out _) HGR.out (apart (a := w.heap.size) HTL.out (fun q hq => .inr (hge q hq)))
        have M5 : Hid (w5.ownsMap Try.prog 38 (plainElem Try.prog 3) w.heap.size (k + 1) (D.put (klit x.user x.id) (.lit (.int .i64 (L.length : Int))))) := (World.ownsMap.kept (World.ownsMap.alloc M3.out _) HGR.out (fun e => by have := hge _ e.symm; omega)).mono (by omega)
        have hs5 : w1.heap.size ≤ w5.heap.size := by have := HGR.out.size; simp at this; omega
        exact ⟨⟨k + 1, c3, o3, L ++ [x], _, by omega, by go_num, by omega, by rw [hll], (by rw [hll] at O5 ⊢; exact O5), M5, HI, OT5, HTT, hs5, b5⟩, by simp [intOf]; omega⟩
    · obtain rfl : k = T.length := by omega
      have hge : ¬ (T.length : Int) < (T.length : Int) := by omega
      have hsl : smallL L := by rw [← HA.out]; exact now_small HSM.out T.length (Nat.le_refl _)
      have cC := copyEntries_any (.slice oo L.length cap2) L.length (gtEnt L) wr (by omega) hsl (OwnEnt.at hown.out)
      clear hsl
      have HO : Hid (nowK (gtEnt T) T.length = L) := HA
      clear HA HM HV hown OTr
      go_wp2_with fail
      refine cC.mono ?_
      rintro e w2 ⟨u, rfl, Ou, b2⟩
      go_wp2_with fail
      go_ret
      exact ⟨u, rfl, by rw [HO.out]; exact OwnL.mono Ou bw.size, bw.trans (b2.mono bw.size)⟩
end Go.Proofs.Ytkmagkpieihcgaa.Hub
