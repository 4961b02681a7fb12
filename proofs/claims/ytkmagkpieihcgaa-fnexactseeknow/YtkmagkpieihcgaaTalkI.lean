/-
  What was said in a room, by one user if one is named: the program's talkOf.
-/
import Derived.Test.YtkmagkpieihcgaaTalkS
namespace Go.Proofs.Ytkmagkpieihcgaa.Hub
open Go.RowKit
set_option linter.unusedVariables false
set_option linter.unusedSimpArgs false

set_option maxRecDepth 100000 in
set_option maxHeartbeats 4000000 in
theorem talkOf_any (room user : ByteArray) (v : Value) (n : Nat) (E : Nat → EntX) (hn : n ≤ 1048576) (w : World) (hm : EntsAt w v n E) :
    Calls Try.prog 14 #[v, .string room, .string user] w fun e w' => ∃ u, e = .returned u ∧ OwnEnt w' w.heap.size u (talkL room user E n).length (gtEnt (talkL room user E n)) ∧ Below w.heap.size w w' := by
  obtain ⟨o, cap, rfl, g1, g2', hc⟩ := hm
  have g2 : cap ≤ 9223372036854775807 := g2'
  clear g2'
  have HC : Hid (∀ j, j < n → ∃ b f : Nat, o = some ⟨b, f, none⟩ ∧ b < w.heap.size ∧ _) := hc
  clear hc
  obtain ⟨i0, hi, hz0, hz1, hz2⟩ := info_parts info_Ent
  go_enter Try.func14, Try.ntmps14
  go_wp2_with fail
  go_loopw [7, 12] (fun u i wr => ∃ (k cap2 : Nat) (oo : Option Addr) (L : List EntX), k ≤ n ∧ i = .int .i64 k ∧ L.length ≤ k ∧ u = .slice oo L.length cap2 ∧ Hid (OwnEnt wr w.heap.size u L.length (gtEnt L)) ∧ Hid (talkL room user E k = L) ∧ Below w.heap.size w wr) (fun _ i _ => n - (intOf i).toNat)
  case atStart => exact ⟨0, 0, none, [], by omega, rfl, Nat.le_refl _, rfl, OwnL.nil _ _ _ _ _, rfl, Below.refl _ w⟩
  case round =>
    obtain ⟨k, cap2, oo, L, hk, rfl, hL, rfl, hown, HA, bw⟩ := hrel
    by_cases hlt : k < n
    · obtain ⟨b, f, ho, hb, c0, c1, c2, c3, c4, c5, c6, c7, c8⟩ := HC.out k hlt
      subst ho
      have i1 : (0 : Int) ≤ (k : Int) := by omega
      have i2 : (k : Int) < (n : Int) := by omega
      have d0 := (bw.cell (p := ⟨b, f + k * 9, none⟩) hb).trans c0
      have d1 := (bw.cell (p := ⟨b, f + k * 9 + 1, none⟩) hb).trans c1
      have d2 := (bw.cell (p := ⟨b, f + k * 9 + 2, none⟩) hb).trans c2
      have d3 := (bw.cell (p := ⟨b, f + k * 9 + 3, none⟩) hb).trans c3
      have d4 := (bw.cell (p := ⟨b, f + k * 9 + 4, none⟩) hb).trans c4
      have d5 := (bw.cell (p := ⟨b, f + k * 9 + 5, none⟩) hb).trans c5
      have d6 := (bw.cell (p := ⟨b, f + k * 9 + 6, none⟩) hb).trans c6
      have d7 := (bw.cell (p := ⟨b, f + k * 9 + 7, none⟩) hb).trans c7
      have d8 := (bw.cell (p := ⟨b, f + k * 9 + 8, none⟩) hb).trans c8
      clear c0 c1 c2 c3 c4 c5 c6 c7 c8
      have HS : Hid (talkL room user E (k + 1) = L ++ (if fitE room user (E k) then [E k] else [])) := (by rw [talkL_succ, HA.out] : talkL room user E (k + 1) = L ++ (if fitE room user (E k) then [E k] else []))
      obtain ⟨x, hx⟩ : ∃ x, E k = x := ⟨_, rfl⟩
      rw [hx] at d0 d1 d2 d3 d4 d5 d6 d7 d8 HS
      clear hx HA
      cases q1 : (x.kind == 3)
      · have hF : fitE room user x = false := by unfold fitE; rw [q1]; first | rfl | simp
        have HT : Hid (talkL room user E (k + 1) = L) := (by rw [HS.out, hF]; simp : talkL room user E (k + 1) = L)
        clear hF HS
        have bA := bw.alloc bw.size (.cells #[.string x.room, .int .i64 x.seq, .int .i64 x.kind, .string x.user, .string x.nick, .string x.text, .string x.id, .string x.ref, .int .i64 x.num] 33)
        have OA : Hid (OwnEnt _ w.heap.size (.slice oo L.length cap2) L.length (gtEnt L)) := OwnL.alloc hown.out (.cells #[.string x.room, .int .i64 x.seq, .int .i64 x.kind, .string x.user, .string x.nick, .string x.text, .string x.id, .string x.ref, .int .i64 x.num] 33)
        go_wp2_with fail
        exact ⟨⟨k + 1, cap2, oo, L, by omega, by go_num, by omega, rfl, OA, HT, bA⟩, by simp [intOf]; omega⟩
      · cases q0 : (x.room.toList == room.toList)
        · have hF : fitE room user x = false := by unfold fitE; rw [q0, q1]; first | rfl | simp
          have HT : Hid (talkL room user E (k + 1) = L) := (by rw [HS.out, hF]; simp : talkL room user E (k + 1) = L)
          clear hF HS
          have bA := bw.alloc bw.size (.cells #[.string x.room, .int .i64 x.seq, .int .i64 x.kind, .string x.user, .string x.nick, .string x.text, .string x.id, .string x.ref, .int .i64 x.num] 33)
          have OA : Hid (OwnEnt _ w.heap.size (.slice oo L.length cap2) L.length (gtEnt L)) := OwnL.alloc hown.out (.cells #[.string x.room, .int .i64 x.seq, .int .i64 x.kind, .string x.user, .string x.nick, .string x.text, .string x.id, .string x.ref, .int .i64 x.num] 33)
          go_wp2_with fail
          exact ⟨⟨k + 1, cap2, oo, L, by omega, by go_num, by omega, rfl, OA, HT, bA⟩, by simp [intOf]; omega⟩
        · cases q2 : (user.toList == [])
          · cases q3 : (x.user.toList == user.toList)
            · have hF : fitE room user x = false := by unfold fitE; rw [q0, q1, q2, q3]; first | rfl | simp
              have HT : Hid (talkL room user E (k + 1) = L) := (by rw [HS.out, hF]; simp : talkL room user E (k + 1) = L)
              clear hF HS
              have bA := bw.alloc bw.size (.cells #[.string x.room, .int .i64 x.seq, .int .i64 x.kind, .string x.user, .string x.nick, .string x.text, .string x.id, .string x.ref, .int .i64 x.num] 33)
              have OA : Hid (OwnEnt _ w.heap.size (.slice oo L.length cap2) L.length (gtEnt L)) := OwnL.alloc hown.out (.cells #[.string x.room, .int .i64 x.seq, .int .i64 x.kind, .string x.user, .string x.nick, .string x.text, .string x.id, .string x.ref, .int .i64 x.num] 33)
              go_wp2_with fail
              exact ⟨⟨k + 1, cap2, oo, L, by omega, by go_num, by omega, rfl, OA, HT, bA⟩, by simp [intOf]; omega⟩
            · have hF : fitE room user x = true := by unfold fitE; rw [q0, q1, q2, q3]; first | rfl | simp
              have HT : Hid (talkL room user E (k + 1) = L ++ [x]) := (by rw [HS.out, hF]; simp : talkL room user E (k + 1) = L ++ [x])
              clear hF HS
              have bA := bw.alloc bw.size (.cells #[.string x.room, .int .i64 x.seq, .int .i64 x.kind, .string x.user, .string x.nick, .string x.text, .string x.id, .string x.ref, .int .i64 x.num] 33)
              have OA : Hid (OwnEnt _ w.heap.size (.slice oo L.length cap2) L.length (gtEnt L)) := OwnL.alloc hown.out (.cells #[.string x.room, .int .i64 x.seq, .int .i64 x.kind, .string x.user, .string x.nick, .string x.text, .string x.id, .string x.ref, .int .i64 x.num] 33)
              have SRC0 := Entnew (wr.alloc (.cells #[.string x.room, .int .i64 x.seq, .int .i64 x.kind, .string x.user, .string x.nick, .string x.text, .string x.id, .string x.ref, .int .i64 x.num] 33)) x
              rw [World.size_alloc] at SRC0
              have SRC : Hid _ := SRC0
              have hsb := bw.size
              clear SRC0
              go_wp2_with (at_builtin; refine wpList_append_list rfl _ _ _ rfl w.heap.size 33 i0 _ 9 120 Try.underlying24 hi hz0 hz1 hz2 rfl (by omega) (.slice oo L.length cap2) L.length (rowVs (EntC (gtEnt L)) L.length) rfl (OwnL.alloc OA.out _) (.slice (some ⟨wr.heap.size + 1, 0, none⟩) 1 1) 1 (EntC (fun _ => x)) rfl SRC.out (fun _ => rfl) (Entcells x) (by unfold maxLen; omega) (by omega) (by simp; omega) (wr.heap.size + 1 + 1) (by simp) ?_; intro o2 c2 w2 hown2 hgrow hat; have HOW : Hid _ := hown2; have HGR : Hid _ := hgrow; clear hown2 hgrow hat)
              have O2 : OwnEnt w2 w.heap.size (.slice o2 (L.length + 1) c2) (L ++ [x]).length (gtEnt (L ++ [x])) := Entsnoc HOW.out
              have hll : (L ++ [x]).length = L.length + 1 := by simp
              have b2 : Below w.heap.size w w2 := (bA.alloc bA.size _).grown HGR.out (by simp; omega) (fun q hq => (OwnL.lt OA.out q hq).1)
              exact ⟨⟨k + 1, c2, o2, L ++ [x], by omega, by go_num, by omega, by rw [hll], O2, HT, b2⟩, by simp [intOf]; omega⟩
          · have hF : fitE room user x = true := by unfold fitE; rw [q0, q1, q2]; first | rfl | simp
            have HT : Hid (talkL room user E (k + 1) = L ++ [x]) := (by rw [HS.out, hF]; simp : talkL room user E (k + 1) = L ++ [x])
            clear hF HS
            have bA := bw.alloc bw.size (.cells #[.string x.room, .int .i64 x.seq, .int .i64 x.kind, .string x.user, .string x.nick, .string x.text, .string x.id, .string x.ref, .int .i64 x.num] 33)
            have OA : Hid (OwnEnt _ w.heap.size (.slice oo L.length cap2) L.length (gtEnt L)) := OwnL.alloc hown.out (.cells #[.string x.room, .int .i64 x.seq, .int .i64 x.kind, .string x.user, .string x.nick, .string x.text, .string x.id, .string x.ref, .int .i64 x.num] 33)
            have SRC0 := Entnew (wr.alloc (.cells #[.string x.room, .int .i64 x.seq, .int .i64 x.kind, .string x.user, .string x.nick, .string x.text, .string x.id, .string x.ref, .int .i64 x.num] 33)) x
            rw [World.size_alloc] at SRC0
            have SRC : Hid _ := SRC0
            have hsb := bw.size
            clear SRC0
            go_wp2_with (at_builtin; refine wpList_append_list rfl _ _ _ rfl w.heap.size 33 i0 _ 9 120 Try.underlying24 hi hz0 hz1 hz2 rfl (by omega) (.slice oo L.length cap2) L.length (rowVs (EntC (gtEnt L)) L.length) rfl (OwnL.alloc OA.out _) (.slice (some ⟨wr.heap.size + 1, 0, none⟩) 1 1) 1 (EntC (fun _ => x)) rfl SRC.out (fun _ => rfl) (Entcells x) (by unfold maxLen; omega) (by omega) (by simp; omega) (wr.heap.size + 1 + 1) (by simp) ?_; intro o2 c2 w2 hown2 hgrow hat; have HOW : Hid _ := hown2; have HGR : Hid _ := hgrow; clear hown2 hgrow hat)
            have O2 : OwnEnt w2 w.heap.size (.slice o2 (L.length + 1) c2) (L ++ [x]).length (gtEnt (L ++ [x])) := Entsnoc HOW.out
            have hll : (L ++ [x]).length = L.length + 1 := by simp
            have b2 : Below w.heap.size w w2 := (bA.alloc bA.size _).grown HGR.out (by simp; omega) (fun q hq => (OwnL.lt OA.out q hq).1)
            exact ⟨⟨k + 1, c2, o2, L ++ [x], by omega, by go_num, by omega, by rw [hll], O2, HT, b2⟩, by simp [intOf]; omega⟩
    · obtain rfl : k = n := by omega
      go_wp2_with fail
      go_ret
      exact ⟨_, rfl, by rw [HA.out]; exact hown.out, bw⟩
end Go.Proofs.Ytkmagkpieihcgaa.Hub
