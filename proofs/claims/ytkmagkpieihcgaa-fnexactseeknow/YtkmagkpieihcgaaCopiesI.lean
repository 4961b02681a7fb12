/-
  The program's copyEntries: a list of its own with the same entries.
-/
import Derived.Test.YtkmagkpieihcgaaCopyF
namespace Go.Proofs.Ytkmagkpieihcgaa.Hub
open Go.RowKit
set_option linter.unusedVariables false
set_option linter.unusedSimpArgs false

def smallE (e : EntX) : Prop := e.room.size ≤ 1048600 ∧ e.user.size ≤ 1048600 ∧ e.nick.size ≤ 1048600 ∧ e.text.size ≤ 1048600 ∧ e.id.size ≤ 1048600 ∧ e.ref.size ≤ 1048600
def firsts (E : Nat → EntX) (k : Nat) : List EntX := (List.range k).map E
theorem firsts_succ (E : Nat → EntX) (k : Nat) : firsts E (k + 1) = firsts E k ++ [E k] := by unfold firsts; rw [List.range_succ, List.map_append]; rfl
theorem firsts_len (E : Nat → EntX) (k : Nat) : (firsts E k).length = k := by unfold firsts; rw [List.length_map, List.length_range]
theorem firsts_at (E : Nat → EntX) (k j : Nat) (h : j < k) : gtEnt (firsts E k) j = E j := by
  unfold gtEnt firsts
  rw [List.getD_eq_getElem?_getD, List.getElem?_map, List.getElem?_range h]
  rfl
set_option maxRecDepth 100000 in
set_option maxHeartbeats 4000000 in
theorem copyEntries_any (v : Value) (n : Nat) (E : Nat → EntX) (w : World) (hn : n ≤ 1048576) (hs : ∀ j, j < n → smallE (E j)) (hm : EntsAt w v n E) :
    Calls Try.prog 15 #[v] w fun e w' => ∃ u, e = .returned u ∧ OwnEnt w' w.heap.size u n E ∧ Below w.heap.size w w' := by
  obtain ⟨o, cap, rfl, g1, g2', hc⟩ := hm
  have g2 : cap ≤ 9223372036854775807 := g2'
  clear g2'
  have HC : Hid (∀ j, j < n → ∃ b f : Nat, o = some ⟨b, f, none⟩ ∧ b < w.heap.size ∧ _) := hc
  have HS : Hid (∀ j, j < n → smallE (E j)) := hs
  clear hc hs
  obtain ⟨i0, hi, hz0, hz1, hz2⟩ := info_parts info_Ent
  go_enter Try.func15, Try.ntmps15
  go_wp2_with fail
  go_loopw [3, 8] (fun u i wr => ∃ (k cap2 : Nat) (oo : Option Addr) (L : List EntX), k ≤ n ∧ i = .int .i64 k ∧ L.length ≤ k ∧ k ≤ L.length ∧ u = .slice oo L.length cap2 ∧ Hid (OwnEnt wr w.heap.size u L.length (gtEnt L)) ∧ Hid (firsts E k = L) ∧ Below w.heap.size w wr) (fun _ i _ => n - (intOf i).toNat)
  case atStart => exact ⟨0, 0, none, [], by omega, rfl, Nat.le_refl _, Nat.le_refl _, rfl, OwnL.nil _ _ _ _ _, rfl, Below.refl _ w⟩
  case round =>
    obtain ⟨k, cap2, oo, L, hk, rfl, hL, hL2, rfl, hown, HA, bw⟩ := hrel
    by_cases hlt : k < n
    · obtain ⟨b, f, ho, hb, c0, c1, c2, c3, c4, c5, c6, c7, c8⟩ := HC.out k hlt
      subst ho
      have i1 : (0 : Int) ≤ (k : Int) := by omega
      have i2 : (k : Int) < (n : Int) := by omega
      have d0 := (bw.cell (p := ⟨b, f + k * 9, none⟩) hb).trans c0
      have d1 := (bw.cell (p := ⟨b, f + k * 9 + 1, none⟩) hb).trans c1
      have d2 := (bw.cell (p := ⟨b, f + k * 9 + 2, none⟩) hb).trans c2
      have d3 := (bw.cell (p := ⟨b, f + k * 9 + 3, none⟩) hb).trans c3
      have d4 := (bw.cell (p := ⟨b, f + k * 9 + 4, none⟩) hb).trans c4
      have d5 := (bw.cell (p := ⟨b, f + k * 9 + 5, none⟩) hb).trans c5
      have d6 := (bw.cell (p := ⟨b, f + k * 9 + 6, none⟩) hb).trans c6
      have d7 := (bw.cell (p := ⟨b, f + k * 9 + 7, none⟩) hb).trans c7
      have d8 := (bw.cell (p := ⟨b, f + k * 9 + 8, none⟩) hb).trans c8
      clear c0 c1 c2 c3 c4 c5 c6 c7 c8
      have HT : Hid (firsts E (k + 1) = L ++ [E k]) := (by rw [firsts_succ, HA.out] : firsts E (k + 1) = L ++ [E k])
      obtain ⟨s0, s1, s2, s3, s4, s5⟩ := HS.out k hlt
      obtain ⟨x, hx⟩ : ∃ x, E k = x := ⟨_, rfl⟩
      rw [hx] at d0 d1 d2 d3 d4 d5 d6 d7 d8 HT s0 s1 s2 s3 s4 s5
      clear hx HA
      have bA := bw.alloc bw.size (.cells #[.string x.room, .int .i64 x.seq, .int .i64 x.kind, .string x.user, .string x.nick, .string x.text, .string x.id, .string x.ref, .int .i64 x.num] 33)
      have OA : Hid (OwnEnt _ w.heap.size (.slice oo L.length cap2) L.length (gtEnt L)) := OwnL.alloc hown.out (.cells #[.string x.room, .int .i64 x.seq, .int .i64 x.kind, .string x.user, .string x.nick, .string x.text, .string x.id, .string x.ref, .int .i64 x.num] 33)
      have cC := copyEntry_any x.room x.seq x.kind x.user x.nick x.text x.id x.ref x.num (wr.alloc (.cells #[.string x.room, .int .i64 x.seq, .int .i64 x.kind, .string x.user, .string x.nick, .string x.text, .string x.id, .string x.ref, .int .i64 x.num] 33)) s0 s1 s2 s3 s4 s5
      have hsb := bw.size
      clear hown
      go_wp2_with fail
      go_fit cC
      rintro e w3 ⟨rfl, b3⟩
      have bw3 : Below w.heap.size w w3 := bA.trans (b3.mono bA.size)
      have O3 : Hid (OwnEnt w3 w.heap.size (.slice oo L.length cap2) L.length (gtEnt L)) := OwnL.below OA.out b3
      have SRC : Hid _ := Entnew w3 x
      have hs3 := bw3.size
      clear cC OA b3 d0 d1 d2 d3 d4 d5 d6 d7 d8
      go_wp2_with (at_builtin; refine wpList_append_list rfl _ _ _ rfl w.heap.size 33 i0 _ 9 120 Try.underlying24 hi hz0 hz1 hz2 rfl (by omega) (.slice oo L.length cap2) L.length (rowVs (EntC (gtEnt L)) L.length) rfl (OwnL.alloc O3.out _) (.slice (some ⟨w3.heap.size, 0, none⟩) 1 1) 1 (EntC (fun _ => x)) rfl SRC.out (fun _ => rfl) (Entcells x) (by unfold maxLen; omega) (by omega) (by simp; omega) (w3.heap.size + 1) (by simp) ?_; intro o2 c2 w2 hown2 hgrow hat; have HOW : Hid _ := hown2; have HGR : Hid _ := hgrow; clear hown2 hgrow hat)
      have O2 : OwnEnt w2 w.heap.size (.slice o2 (L.length + 1) c2) (L ++ [x]).length (gtEnt (L ++ [x])) := Entsnoc HOW.out
      have hll : (L ++ [x]).length = L.length + 1 := by simp
      have b2 : Below w.heap.size w w2 := (bw3.alloc bw3.size _).grown HGR.out (by simp; omega) (fun q hq => (OwnL.lt O3.out q hq).1)
      exact ⟨⟨k + 1, c2, o2, L ++ [x], by omega, by go_num, by omega, by omega, by rw [hll], (by rw [hll] at O2 ⊢; exact O2), HT, b2⟩, by simp [intOf]; omega⟩
    · obtain rfl : k = n := by omega
      have hfin : OwnEnt wr w.heap.size (.slice oo L.length cap2) L.length E := OwnL.congr hown.out (fun j hj => by
        have e : gtEnt L j = E j := by rw [← HA.out]; exact firsts_at E k j (by omega)
        simp only [EntC, e])
      have HF : Hid _ := hfin
      clear hown hfin
      go_wp2_with fail
      go_ret
      have hLk : L.length = k := by omega
      exact ⟨_, rfl, by rw [← hLk]; exact HF.out, bw⟩
end Go.Proofs.Ytkmagkpieihcgaa.Hub
