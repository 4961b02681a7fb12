/-
  A list of entrys as it lies in memory; the law's own szEntryS, toEntryS, eqEntryS.
-/
import Derived.Test.YtkmagkpieihcgaaLineBase
import Derived.Deep.RegionHeld3
namespace Go.Proofs.Ytkmagkpieihcgaa.Hub
open Go.RowKit
set_option linter.unusedVariables false

structure EntX where
  room : ByteArray
  seq : Int
  kind : Int
  user : ByteArray
  nick : ByteArray
  text : ByteArray
  id : ByteArray
  ref : ByteArray
  num : Int
abbrev EntX.val (e : EntX) : Value := .agg #[.string e.room, .int .i64 e.seq, .int .i64 e.kind, .string e.user, .string e.nick, .string e.text, .string e.id, .string e.ref, .int .i64 e.num]
/-- A slice of so many, each in 9 cells, lies there. -/
def EntsAt (W : World) (v : Value) (n : Nat) (E : Nat → EntX) : Prop :=
  ∃ (o : Option Addr) (cap : Nat), v = .slice o n cap ∧ n ≤ cap ∧ cap ≤ maxLen ∧ ∀ j, j < n → ∃ b f : Nat, o = some ⟨b, f, none⟩ ∧ b < W.heap.size ∧ W.cell? ⟨b, f + j * 9, none⟩ = some (.string (E j).room) ∧ W.cell? ⟨b, f + j * 9 + 1, none⟩ = some (.int .i64 (E j).seq) ∧ W.cell? ⟨b, f + j * 9 + 2, none⟩ = some (.int .i64 (E j).kind) ∧ W.cell? ⟨b, f + j * 9 + 3, none⟩ = some (.string (E j).user) ∧ W.cell? ⟨b, f + j * 9 + 4, none⟩ = some (.string (E j).nick) ∧ W.cell? ⟨b, f + j * 9 + 5, none⟩ = some (.string (E j).text) ∧ W.cell? ⟨b, f + j * 9 + 6, none⟩ = some (.string (E j).id) ∧ W.cell? ⟨b, f + j * 9 + 7, none⟩ = some (.string (E j).ref) ∧ W.cell? ⟨b, f + j * 9 + 8, none⟩ = some (.int .i64 (E j).num)
theorem EntsAt.below {W W' : World} {v : Value} {n : Nat} {E : Nat → EntX} (h : EntsAt W v n E) (b : Below W.heap.size W W') : EntsAt W' v n E := by
  obtain ⟨o, cap, hv, h1, h2, hc⟩ := h
  refine ⟨o, cap, hv, h1, h2, fun j hj => ?_⟩
  obtain ⟨B, f, ho, hB, c0, c1, c2, c3, c4, c5, c6, c7, c8⟩ := hc j hj
  exact ⟨B, f, ho, Nat.lt_of_lt_of_le hB b.size, (b.cell (p := ⟨B, f + j * 9, none⟩) hB).trans c0, (b.cell (p := ⟨B, f + j * 9 + 1, none⟩) hB).trans c1, (b.cell (p := ⟨B, f + j * 9 + 2, none⟩) hB).trans c2, (b.cell (p := ⟨B, f + j * 9 + 3, none⟩) hB).trans c3, (b.cell (p := ⟨B, f + j * 9 + 4, none⟩) hB).trans c4, (b.cell (p := ⟨B, f + j * 9 + 5, none⟩) hB).trans c5, (b.cell (p := ⟨B, f + j * 9 + 6, none⟩) hB).trans c6, (b.cell (p := ⟨B, f + j * 9 + 7, none⟩) hB).trans c7, (b.cell (p := ⟨B, f + j * 9 + 8, none⟩) hB).trans c8⟩
theorem EntsAt.shape {W : World} {v : Value} {n : Nat} {E : Nat → EntX} (h : EntsAt W v n E) : ∃ o cap, v = .slice o n cap := by
  obtain ⟨o, cap, hv, _⟩ := h
  exact ⟨o, cap, hv⟩

set_option maxRecDepth 100000 in
set_option maxHeartbeats 4000000 in
theorem szEntryX_any (e : EntX) (left : Int) (w : World) (h0 : 0 ≤ left) (h1 : left ≤ 1048576) (hs : e.room.size ≤ 9223372036854775807 ∧ e.user.size ≤ 9223372036854775807 ∧ e.nick.size ≤ 9223372036854775807 ∧ e.text.size ≤ 9223372036854775807 ∧ e.id.size ≤ 9223372036854775807 ∧ e.ref.size ≤ 9223372036854775807) :
    Calls Try.prog 11 #[e.val, .int .i64 left] w fun r w' => (∃ z : Int, r = .returned (.int .i64 z) ∧ (z < 0 ∨ (0 ≤ z ∧ z ≤ left ∧ (e.room.size : Int) ≤ left ∧ (e.user.size : Int) ≤ left ∧ (e.nick.size : Int) ≤ left ∧ (e.text.size : Int) ≤ left ∧ (e.id.size : Int) ≤ left ∧ (e.ref.size : Int) ≤ left))) ∧ Below w.heap.size w w' := by
  obtain ⟨room, seq, kind, user, nick, text, id, ref, num⟩ := e
  obtain ⟨s0, s3, s4, s5, s6, s7⟩ := hs
  simp only at s0 s3 s4 s5 s6 s7
  have b0 := below_alloc w (.cells #[.string room, .int .i64 seq, .int .i64 kind, .string user, .string nick, .string text, .string id, .string ref, .int .i64 num] 32)
  have e0 : IntKind.i64.wrap (left - (room.size : Int)) = left - (room.size : Int) := by rw [IntKind.wrap_i64]; omega
  by_cases g0 : left - (room.size : Int) < 0
  · go_enter Try.func11, Try.ntmps11
    go_wp2
    go_ret
    exact ⟨⟨-1, rfl, .inl (by omega)⟩, b0⟩
  · skip
    have e1 : IntKind.i64.wrap (left - (room.size : Int) - (user.size : Int)) = left - (room.size : Int) - (user.size : Int) := by rw [IntKind.wrap_i64]; omega
    by_cases g1 : left - (room.size : Int) - (user.size : Int) < 0
    · go_enter Try.func11, Try.ntmps11
      go_wp2
      go_ret
      exact ⟨⟨-1, rfl, .inl (by omega)⟩, b0⟩
    · skip
      have e2 : IntKind.i64.wrap (left - (room.size : Int) - (user.size : Int) - (nick.size : Int)) = left - (room.size : Int) - (user.size : Int) - (nick.size : Int) := by rw [IntKind.wrap_i64]; omega
      by_cases g2 : left - (room.size : Int) - (user.size : Int) - (nick.size : Int) < 0
      · go_enter Try.func11, Try.ntmps11
        go_wp2
        go_ret
        exact ⟨⟨-1, rfl, .inl (by omega)⟩, b0⟩
      · skip
        have e3 : IntKind.i64.wrap (left - (room.size : Int) - (user.size : Int) - (nick.size : Int) - (text.size : Int)) = left - (room.size : Int) - (user.size : Int) - (nick.size : Int) - (text.size : Int) := by rw [IntKind.wrap_i64]; omega
        by_cases g3 : left - (room.size : Int) - (user.size : Int) - (nick.size : Int) - (text.size : Int) < 0
        · go_enter Try.func11, Try.ntmps11
          go_wp2
          go_ret
          exact ⟨⟨-1, rfl, .inl (by omega)⟩, b0⟩
        · skip
          have e4 : IntKind.i64.wrap (left - (room.size : Int) - (user.size : Int) - (nick.size : Int) - (text.size : Int) - (id.size : Int)) = left - (room.size : Int) - (user.size : Int) - (nick.size : Int) - (text.size : Int) - (id.size : Int) := by rw [IntKind.wrap_i64]; omega
          by_cases g4 : left - (room.size : Int) - (user.size : Int) - (nick.size : Int) - (text.size : Int) - (id.size : Int) < 0
          · go_enter Try.func11, Try.ntmps11
            go_wp2
            go_ret
            exact ⟨⟨-1, rfl, .inl (by omega)⟩, b0⟩
          · skip
            have e5 : IntKind.i64.wrap (left - (room.size : Int) - (user.size : Int) - (nick.size : Int) - (text.size : Int) - (id.size : Int) - (ref.size : Int)) = left - (room.size : Int) - (user.size : Int) - (nick.size : Int) - (text.size : Int) - (id.size : Int) - (ref.size : Int) := by rw [IntKind.wrap_i64]; omega
            by_cases g5 : left - (room.size : Int) - (user.size : Int) - (nick.size : Int) - (text.size : Int) - (id.size : Int) - (ref.size : Int) < 0
            · go_enter Try.func11, Try.ntmps11
              go_wp2
              go_ret
              exact ⟨⟨-1, rfl, .inl (by omega)⟩, b0⟩
            · skip
              go_enter Try.func11, Try.ntmps11
              go_wp2
              go_ret
              exact ⟨⟨_, rfl, .inr ⟨by omega, by omega, by omega, by omega, by omega, by omega, by omega, by omega⟩⟩, b0⟩

set_option maxRecDepth 100000 in
set_option maxHeartbeats 4000000 in
theorem szEntryS_any (v : Value) (n : Nat) (E : Nat → EntX) (left : Int) (w : World) (h0 : 0 ≤ left) (h1 : left ≤ 1048576) (hm : EntsAt w v n E) (hs : ∀ j, j < n → (E j).room.size ≤ 9223372036854775807 ∧ (E j).user.size ≤ 9223372036854775807 ∧ (E j).nick.size ≤ 9223372036854775807 ∧ (E j).text.size ≤ 9223372036854775807 ∧ (E j).id.size ≤ 9223372036854775807 ∧ (E j).ref.size ≤ 9223372036854775807) :
    Calls Try.prog 4 #[v, .int .i64 left] w fun e w' => (∃ z : Int, e = .returned (.int .i64 z) ∧ (z < 0 ∨ (0 ≤ z ∧ z ≤ left ∧ (n : Int) ≤ left ∧ ∀ j, j < n → ((E j).room.size : Int) ≤ left ∧ ((E j).user.size : Int) ≤ left ∧ ((E j).nick.size : Int) ≤ left ∧ ((E j).text.size : Int) ≤ left ∧ ((E j).id.size : Int) ≤ left ∧ ((E j).ref.size : Int) ≤ left))) ∧ Below w.heap.size w w' := by
  obtain ⟨o, cap, rfl, g1, g2', hc⟩ := hm
  have g2 : cap ≤ 9223372036854775807 := g2'
  clear g2'
  have HC : Hid (∀ j, j < n → ∃ b f : Nat, o = some ⟨b, f, none⟩ ∧ b < w.heap.size ∧ w.cell? ⟨b, f + j * 9, none⟩ = some (.string (E j).room) ∧ w.cell? ⟨b, f + j * 9 + 1, none⟩ = some (.int .i64 (E j).seq) ∧ w.cell? ⟨b, f + j * 9 + 2, none⟩ = some (.int .i64 (E j).kind) ∧ w.cell? ⟨b, f + j * 9 + 3, none⟩ = some (.string (E j).user) ∧ w.cell? ⟨b, f + j * 9 + 4, none⟩ = some (.string (E j).nick) ∧ w.cell? ⟨b, f + j * 9 + 5, none⟩ = some (.string (E j).text) ∧ w.cell? ⟨b, f + j * 9 + 6, none⟩ = some (.string (E j).id) ∧ w.cell? ⟨b, f + j * 9 + 7, none⟩ = some (.string (E j).ref) ∧ w.cell? ⟨b, f + j * 9 + 8, none⟩ = some (.int .i64 (E j).num)) := hc
  have HS : Hid (∀ j, j < n → (E j).room.size ≤ 9223372036854775807 ∧ (E j).user.size ≤ 9223372036854775807 ∧ (E j).nick.size ≤ 9223372036854775807 ∧ (E j).text.size ≤ 9223372036854775807 ∧ (E j).id.size ≤ 9223372036854775807 ∧ (E j).ref.size ≤ 9223372036854775807) := hs
  clear hc hs
  have e1 : IntKind.i64.wrap (left - (n : Int)) = left - (n : Int) := by rw [IntKind.wrap_i64]; omega
  by_cases gn : left - (n : Int) < 0
  · go_enter Try.func4, Try.ntmps4
    go_wp2_with fail
    go_ret
    exact ⟨⟨-1, rfl, .inl (by omega)⟩, Below.refl _ _⟩
  · go_enter Try.func4, Try.ntmps4
    go_wp2_with fail
    go_loopw [1, 5] (fun l i wr => ∃ (k : Nat) (z : Int), k ≤ n ∧ i = .int .i64 k ∧ l = .int .i64 z ∧ 0 ≤ z ∧ z ≤ left ∧ Below w.heap.size w wr ∧ Hid (∀ j, j < k → ((E j).room.size : Int) ≤ left ∧ ((E j).user.size : Int) ≤ left ∧ ((E j).nick.size : Int) ≤ left ∧ ((E j).text.size : Int) ≤ left ∧ ((E j).id.size : Int) ≤ left ∧ ((E j).ref.size : Int) ≤ left)) (fun _ i _ => n - (intOf i).toNat)
    case atStart => exact ⟨0, _, Nat.zero_le _, rfl, rfl, by omega, by omega, Below.refl _ _, fun j hj => absurd hj (by omega)⟩
    case round =>
      obtain ⟨k, z, hk, rfl, rfl, hz0, hz1, bw, HA⟩ := hrel
      by_cases hlt : k < n
      · obtain ⟨b, f, ho, hb, c0, c1, c2, c3, c4, c5, c6, c7, c8⟩ := HC.out k hlt
        subst ho
        have i1 : (0 : Int) ≤ (k : Int) := by omega
        have i2 : (k : Int) < (n : Int) := by omega
        have hsk := HS.out k hlt
        have cZ := szEntryX_any (E k) z wr hz0 (by omega) hsk
        have d0 := (bw.cell (p := ⟨b, f + k * 9, none⟩) hb).trans c0
        have d1 := (bw.cell (p := ⟨b, f + k * 9 + 1, none⟩) hb).trans c1
        have d2 := (bw.cell (p := ⟨b, f + k * 9 + 2, none⟩) hb).trans c2
        have d3 := (bw.cell (p := ⟨b, f + k * 9 + 3, none⟩) hb).trans c3
        have d4 := (bw.cell (p := ⟨b, f + k * 9 + 4, none⟩) hb).trans c4
        have d5 := (bw.cell (p := ⟨b, f + k * 9 + 5, none⟩) hb).trans c5
        have d6 := (bw.cell (p := ⟨b, f + k * 9 + 6, none⟩) hb).trans c6
        have d7 := (bw.cell (p := ⟨b, f + k * 9 + 7, none⟩) hb).trans c7
        have d8 := (bw.cell (p := ⟨b, f + k * 9 + 8, none⟩) hb).trans c8
        clear c0 c1 c2 c3 c4 c5 c6 c7 c8
        go_wp2_with fail
        refine cZ.mono ?_
        rintro e w1 ⟨⟨z2, rfl, hz2⟩, b1⟩
        have bw1 := bw.trans (b1.mono bw.size)
        rcases hz2 with hz2 | ⟨hz2, hz3, hz4⟩
        · go_wp2_with fail
          go_ret
          exact ⟨⟨-1, rfl, .inl (by omega)⟩, bw1⟩
        · have HB : Hid (∀ j, j < k + 1 → ((E j).room.size : Int) ≤ left ∧ ((E j).user.size : Int) ≤ left ∧ ((E j).nick.size : Int) ≤ left ∧ ((E j).text.size : Int) ≤ left ∧ ((E j).id.size : Int) ≤ left ∧ ((E j).ref.size : Int) ≤ left) := fun j hj => by
            by_cases hjk : j = k
            · subst hjk; exact ⟨by omega, by omega, by omega, by omega, by omega, by omega⟩
            · exact HA.out j (by omega)
          have hz2n : ¬ z2 < 0 := by omega
          clear HA hsk hz4 d0 d1 d2 d3 d4 d5 d6 d7 d8 i1 i2
          go_wp2_with fail
          clear hz2n
          go_round
          case rel => exact ⟨k + 1, z2, by omega, by go_num, rfl, hz2, by omega, bw1, HB⟩
          case measure => simp [intOf]; omega
      · obtain rfl : k = n := by omega
        go_wp2_with fail
        go_ret
        exact ⟨⟨z, rfl, .inr ⟨hz0, hz1, by omega, HA.out⟩⟩, bw⟩

theorem putEntX (C : Array Value) (o : Nat) (a0 a1 a2 a3 a4 a5 a6 a7 a8 : Value) (h : o + 8 < C.size) (j : Nat) : (((((((((C.setIfInBounds o a0).setIfInBounds (o + 1) a1).setIfInBounds (o + 2) a2).setIfInBounds (o + 3) a3).setIfInBounds (o + 4) a4).setIfInBounds (o + 5) a5).setIfInBounds (o + 6) a6).setIfInBounds (o + 7) a7).setIfInBounds (o + 8) a8)[j]? = if j = o then some a0 else if j = o + 1 then some a1 else if j = o + 2 then some a2 else if j = o + 3 then some a3 else if j = o + 4 then some a4 else if j = o + 5 then some a5 else if j = o + 6 then some a6 else if j = o + 7 then some a7 else if j = o + 8 then some a8 else C[j]? := by
  rw [at_set _ _ _ _ (by simp; omega), at_set _ _ _ _ (by simp; omega), at_set _ _ _ _ (by simp; omega), at_set _ _ _ _ (by simp; omega), at_set _ _ _ _ (by simp; omega), at_set _ _ _ _ (by simp; omega), at_set _ _ _ _ (by simp; omega), at_set _ _ _ _ (by simp; omega), at_set _ _ _ _ (by omega)]
  by_cases h0 : j = o
  · subst h0; simp
  · skip
    by_cases h1 : j = o + 1
    · subst h1; simp
    · skip
      by_cases h2 : j = o + 2
      · subst h2; simp
      · skip
        by_cases h3 : j = o + 3
        · subst h3; simp
        · skip
          by_cases h4 : j = o + 4
          · subst h4; simp
          · skip
            by_cases h5 : j = o + 5
            · subst h5; simp
            · skip
              by_cases h6 : j = o + 6
              · subst h6; simp
              · skip
                by_cases h7 : j = o + 7
                · subst h7; simp
                · skip
                  by_cases h8 : j = o + 8
                  · subst h8; simp
                  · skip
                    rw [if_neg (by omega), if_neg (by omega), if_neg (by omega), if_neg (by omega), if_neg (by omega), if_neg (by omega), if_neg (by omega), if_neg (by omega), if_neg (by omega), if_neg h0, if_neg h1, if_neg h2, if_neg h3, if_neg h4, if_neg h5, if_neg h6, if_neg h7, if_neg h8]

set_option maxHeartbeats 1000000 in
theorem toEntryX_any (e : EntX) (w : World) :
    Calls Try.prog 13 #[e.val] w fun r w' => r = .returned e.val ∧ Below w.heap.size w w' := by
  obtain ⟨room, seq, kind, user, nick, text, id, ref, num⟩ := e
  go_enter Try.func13, Try.ntmps13
  go_wp2
  exact bodyPost_ret (v := .agg #[.string room, .int .i64 seq, .int .i64 kind, .string user, .string nick, .string text, .string id, .string ref, .int .i64 num]) (by simp [results, Try.results13, go_sem]) rfl ⟨rfl, (((Below.refl _ w).alloc (Nat.le_refl _) _).alloc (by simp) _).alloc (by simp; omega) _⟩

set_option maxRecDepth 100000 in
set_option maxHeartbeats 4000000 in
theorem toEntryS_any (v : Value) (n : Nat) (E : Nat → EntX) (w : World) (hm : EntsAt w v n E) (hn : n ≤ 1048576) :
    Calls Try.prog 6 #[v] w fun e w' => (∃ c, e = .returned (.slice (some ⟨w.heap.size, 0, none⟩) n n) ∧ w'.heap[w.heap.size]? = some (.cells c 33 (0, 0)) ∧ c.size = n * 9 ∧ ∀ j, j < n → c[j * 9]? = some (.string (E j).room) ∧ c[j * 9 + 1]? = some (.int .i64 (E j).seq) ∧ c[j * 9 + 2]? = some (.int .i64 (E j).kind) ∧ c[j * 9 + 3]? = some (.string (E j).user) ∧ c[j * 9 + 4]? = some (.string (E j).nick) ∧ c[j * 9 + 5]? = some (.string (E j).text) ∧ c[j * 9 + 6]? = some (.string (E j).id) ∧ c[j * 9 + 7]? = some (.string (E j).ref) ∧ c[j * 9 + 8]? = some (.int .i64 (E j).num)) ∧ Below w.heap.size w w' := by
  obtain ⟨o, cap, rfl, g1, g2', hc⟩ := hm
  have g2 : cap ≤ 9223372036854775807 := g2'
  clear g2'
  have HC : Hid (∀ j, j < n → ∃ b f : Nat, o = some ⟨b, f, none⟩ ∧ b < w.heap.size ∧ w.cell? ⟨b, f + j * 9, none⟩ = some (.string (E j).room) ∧ w.cell? ⟨b, f + j * 9 + 1, none⟩ = some (.int .i64 (E j).seq) ∧ w.cell? ⟨b, f + j * 9 + 2, none⟩ = some (.int .i64 (E j).kind) ∧ w.cell? ⟨b, f + j * 9 + 3, none⟩ = some (.string (E j).user) ∧ w.cell? ⟨b, f + j * 9 + 4, none⟩ = some (.string (E j).nick) ∧ w.cell? ⟨b, f + j * 9 + 5, none⟩ = some (.string (E j).text) ∧ w.cell? ⟨b, f + j * 9 + 6, none⟩ = some (.string (E j).id) ∧ w.cell? ⟨b, f + j * 9 + 7, none⟩ = some (.string (E j).ref) ∧ w.cell? ⟨b, f + j * 9 + 8, none⟩ = some (.int .i64 (E j).num)) := hc
  clear hc
  have hmk := make_many 24 33 (.agg #[.string ⟨#[]⟩, .int .i64 0, .int .i64 0, .string ⟨#[]⟩, .string ⟨#[]⟩, .string ⟨#[]⟩, .string ⟨#[]⟩, .string ⟨#[]⟩, .int .i64 0]) 9 120 Try.underlying24 (by kernel_rfl) n (by omega) (by omega)
  go_enter Try.func6, Try.ntmps6
  go_wp2_with fail
  go_loopw [4] (fun i wr => ∃ (k : Nat) (C : Array Value), k ≤ n ∧ i = .int .i64 k ∧ Below w.heap.size w wr ∧ wr.heap[w.heap.size]? = some (.cells C 33 (0, 0)) ∧ C.size = n * 9 ∧ Hid (∀ j, j < k → C[j * 9]? = some (.string (E j).room) ∧ C[j * 9 + 1]? = some (.int .i64 (E j).seq) ∧ C[j * 9 + 2]? = some (.int .i64 (E j).kind) ∧ C[j * 9 + 3]? = some (.string (E j).user) ∧ C[j * 9 + 4]? = some (.string (E j).nick) ∧ C[j * 9 + 5]? = some (.string (E j).text) ∧ C[j * 9 + 6]? = some (.string (E j).id) ∧ C[j * 9 + 7]? = some (.string (E j).ref) ∧ C[j * 9 + 8]? = some (.int .i64 (E j).num))) (fun i _ => n - (intOf i).toNat)
  case atStart => exact ⟨0, _, Nat.zero_le _, rfl, below_alloc w _, World.alloc_heap_new w _, by rw [size_madeCells], fun j hj => absurd hj (by omega)⟩
  case round =>
    obtain ⟨k, C, hk, rfl, bw, hg, hC, HA⟩ := hrel
    by_cases hlt : k < n
    · obtain ⟨b, f, ho, hb, c0, c1, c2, c3, c4, c5, c6, c7, c8⟩ := HC.out k hlt
      subst ho
      have i1 : (0 : Int) ≤ (k : Int) := by omega
      have i2 : (k : Int) < (n : Int) := by omega
      have d0 := (bw.cell (p := ⟨b, f + k * 9, none⟩) hb).trans c0
      have d1 := (bw.cell (p := ⟨b, f + k * 9 + 1, none⟩) hb).trans c1
      have d2 := (bw.cell (p := ⟨b, f + k * 9 + 2, none⟩) hb).trans c2
      have d3 := (bw.cell (p := ⟨b, f + k * 9 + 3, none⟩) hb).trans c3
      have d4 := (bw.cell (p := ⟨b, f + k * 9 + 4, none⟩) hb).trans c4
      have d5 := (bw.cell (p := ⟨b, f + k * 9 + 5, none⟩) hb).trans c5
      have d6 := (bw.cell (p := ⟨b, f + k * 9 + 6, none⟩) hb).trans c6
      have d7 := (bw.cell (p := ⟨b, f + k * 9 + 7, none⟩) hb).trans c7
      have d8 := (bw.cell (p := ⟨b, f + k * 9 + 8, none⟩) hb).trans c8
      clear c0 c1 c2 c3 c4 c5 c6 c7 c8
      go_wp2_with fail
      refine (toEntryX_any (E k) wr).mono ?_
      rintro e w1 ⟨rfl, b1⟩
      clear d0 d1 d2 d3 d4 d5 d6 d7 d8
      have hlg : w.heap.size < wr.heap.size := (Array.getElem?_eq_some_iff.1 hg).1
      have hg1 := (b1.block w.heap.size hlg).trans hg
      have bw1 := bw.trans (b1.mono bw.size)
      have e0 : w1.cell? ⟨w.heap.size, k * 9, none⟩ = some (C[k * 9]'(by omega)) := (cell_of w1 _ _ C _ hg1).trans (Array.getElem?_eq_getElem (by omega))
      have f0 : w1.frozen? ⟨w.heap.size, k * 9, none⟩ = false := by simp [World.frozen?, hg1]
      have e1 : w1.cell? ⟨w.heap.size, k * 9 + 1, none⟩ = some (C[k * 9 + 1]'(by omega)) := (cell_of w1 _ _ C _ hg1).trans (Array.getElem?_eq_getElem (by omega))
      have f1 : w1.frozen? ⟨w.heap.size, k * 9 + 1, none⟩ = false := by simp [World.frozen?, hg1]
      have e2 : w1.cell? ⟨w.heap.size, k * 9 + 2, none⟩ = some (C[k * 9 + 2]'(by omega)) := (cell_of w1 _ _ C _ hg1).trans (Array.getElem?_eq_getElem (by omega))
      have f2 : w1.frozen? ⟨w.heap.size, k * 9 + 2, none⟩ = false := by simp [World.frozen?, hg1]
      have e3 : w1.cell? ⟨w.heap.size, k * 9 + 3, none⟩ = some (C[k * 9 + 3]'(by omega)) := (cell_of w1 _ _ C _ hg1).trans (Array.getElem?_eq_getElem (by omega))
      have f3 : w1.frozen? ⟨w.heap.size, k * 9 + 3, none⟩ = false := by simp [World.frozen?, hg1]
      have e4 : w1.cell? ⟨w.heap.size, k * 9 + 4, none⟩ = some (C[k * 9 + 4]'(by omega)) := (cell_of w1 _ _ C _ hg1).trans (Array.getElem?_eq_getElem (by omega))
      have f4 : w1.frozen? ⟨w.heap.size, k * 9 + 4, none⟩ = false := by simp [World.frozen?, hg1]
      have e5 : w1.cell? ⟨w.heap.size, k * 9 + 5, none⟩ = some (C[k * 9 + 5]'(by omega)) := (cell_of w1 _ _ C _ hg1).trans (Array.getElem?_eq_getElem (by omega))
      have f5 : w1.frozen? ⟨w.heap.size, k * 9 + 5, none⟩ = false := by simp [World.frozen?, hg1]
      have e6 : w1.cell? ⟨w.heap.size, k * 9 + 6, none⟩ = some (C[k * 9 + 6]'(by omega)) := (cell_of w1 _ _ C _ hg1).trans (Array.getElem?_eq_getElem (by omega))
      have f6 : w1.frozen? ⟨w.heap.size, k * 9 + 6, none⟩ = false := by simp [World.frozen?, hg1]
      have e7 : w1.cell? ⟨w.heap.size, k * 9 + 7, none⟩ = some (C[k * 9 + 7]'(by omega)) := (cell_of w1 _ _ C _ hg1).trans (Array.getElem?_eq_getElem (by omega))
      have f7 : w1.frozen? ⟨w.heap.size, k * 9 + 7, none⟩ = false := by simp [World.frozen?, hg1]
      have e8 : w1.cell? ⟨w.heap.size, k * 9 + 8, none⟩ = some (C[k * 9 + 8]'(by omega)) := (cell_of w1 _ _ C _ hg1).trans (Array.getElem?_eq_getElem (by omega))
      have f8 : w1.frozen? ⟨w.heap.size, k * 9 + 8, none⟩ = false := by simp [World.frozen?, hg1]
      go_wp2_with fail
      have k1 := set_heap _ w.heap.size (k * 9 + 8) _ _ _ (.int .i64 (E k).num) (set_heap _ w.heap.size (k * 9 + 7) _ _ _ (.string (E k).ref) (set_heap _ w.heap.size (k * 9 + 6) _ _ _ (.string (E k).id) (set_heap _ w.heap.size (k * 9 + 5) _ _ _ (.string (E k).text) (set_heap _ w.heap.size (k * 9 + 4) _ _ _ (.string (E k).nick) (set_heap _ w.heap.size (k * 9 + 3) _ _ _ (.string (E k).user) (set_heap _ w.heap.size (k * 9 + 2) _ _ _ (.int .i64 (E k).kind) (set_heap _ w.heap.size (k * 9 + 1) _ _ _ (.int .i64 (E k).seq) (set_heap w1 w.heap.size (k * 9) C _ _ (.string (E k).room) hg1))))))))
      go_round
      case rel =>
        refine ⟨k + 1, _, by omega, by go_num, ((((((((bw1.setCell (Nat.le_refl _) _).setCell (Nat.le_refl _) _).setCell (Nat.le_refl _) _).setCell (Nat.le_refl _) _).setCell (Nat.le_refl _) _).setCell (Nat.le_refl _) _).setCell (Nat.le_refl _) _).setCell (Nat.le_refl _) _).setCell (Nat.le_refl _) _, k1, by simp [hC], fun j hj => ?_⟩
        rw [putEntX C (k * 9) _ _ _ _ _ _ _ _ _ (by omega), putEntX C (k * 9) _ _ _ _ _ _ _ _ _ (by omega), putEntX C (k * 9) _ _ _ _ _ _ _ _ _ (by omega), putEntX C (k * 9) _ _ _ _ _ _ _ _ _ (by omega), putEntX C (k * 9) _ _ _ _ _ _ _ _ _ (by omega), putEntX C (k * 9) _ _ _ _ _ _ _ _ _ (by omega), putEntX C (k * 9) _ _ _ _ _ _ _ _ _ (by omega), putEntX C (k * 9) _ _ _ _ _ _ _ _ _ (by omega), putEntX C (k * 9) _ _ _ _ _ _ _ _ _ (by omega)]
        by_cases hjk : j = k
        · subst hjk
          simp
        · rw [if_neg (by omega), if_neg (by omega), if_neg (by omega), if_neg (by omega), if_neg (by omega), if_neg (by omega), if_neg (by omega), if_neg (by omega), if_neg (by omega), if_neg (by omega), if_neg (by omega), if_neg (by omega), if_neg (by omega), if_neg (by omega), if_neg (by omega), if_neg (by omega), if_neg (by omega), if_neg (by omega), if_neg (by omega), if_neg (by omega), if_neg (by omega), if_neg (by omega), if_neg (by omega), if_neg (by omega), if_neg (by omega), if_neg (by omega), if_neg (by omega), if_neg (by omega), if_neg (by omega), if_neg (by omega), if_neg (by omega), if_neg (by omega), if_neg (by omega), if_neg (by omega), if_neg (by omega), if_neg (by omega), if_neg (by omega), if_neg (by omega), if_neg (by omega), if_neg (by omega), if_neg (by omega), if_neg (by omega), if_neg (by omega), if_neg (by omega), if_neg (by omega), if_neg (by omega), if_neg (by omega), if_neg (by omega), if_neg (by omega), if_neg (by omega), if_neg (by omega), if_neg (by omega), if_neg (by omega), if_neg (by omega), if_neg (by omega), if_neg (by omega), if_neg (by omega), if_neg (by omega), if_neg (by omega), if_neg (by omega), if_neg (by omega), if_neg (by omega), if_neg (by omega), if_neg (by omega), if_neg (by omega), if_neg (by omega), if_neg (by omega), if_neg (by omega), if_neg (by omega), if_neg (by omega), if_neg (by omega), if_neg (by omega), if_neg (by omega), if_neg (by omega), if_neg (by omega), if_neg (by omega), if_neg (by omega), if_neg (by omega), if_neg (by omega), if_neg (by omega), if_neg (by omega)]
          exact HA.out j (by omega)
      case measure => simp [intOf]; omega
    · obtain rfl : k = n := by omega
      go_wp2_with fail
      go_ret
      exact ⟨⟨C, rfl, hg, hC, HA.out⟩, bw⟩

set_option maxRecDepth 100000 in
set_option maxHeartbeats 4000000 in
theorem eqEntryX_same (e : EntX) (w : World) :
    Calls Try.prog 16 #[e.val, e.val] w fun r w' => r = .returned (.bool true) ∧ Below w.heap.size w w' := by
  obtain ⟨room, seq, kind, user, nick, text, id, ref, num⟩ := e
  have q1 : (seq != seq) = false := bne_self_eq_false _
  have q2 : (kind != kind) = false := bne_self_eq_false _
  have q8 : (num != num) = false := bne_self_eq_false _
  go_enter Try.func16, Try.ntmps16
  go_wp2_with fail
  go_ret
  exact ⟨rfl, ((Below.refl _ w).alloc (Nat.le_refl _) _).alloc (by simp) _⟩

set_option maxRecDepth 100000 in
set_option maxHeartbeats 4000000 in
theorem eqEntryS_same (v1 v2 : Value) (n : Nat) (E : Nat → EntX) (w : World) (hm1 : EntsAt w v1 n E) (hm2 : EntsAt w v2 n E) :
    Calls Try.prog 8 #[v1, v2] w fun e w' => e = .returned (.bool true) ∧ Below w.heap.size w w' := by
  obtain ⟨o1, cap1, rfl, g1, g1', hc1⟩ := hm1
  obtain ⟨o2, cap2, rfl, g2, g2', hc2⟩ := hm2
  have s1 : cap1 ≤ 9223372036854775807 := g1'
  have s2 : cap2 ≤ 9223372036854775807 := g2'
  clear g1' g2'
  have HC1 : Hid (∀ j, j < n → ∃ b f : Nat, o1 = some ⟨b, f, none⟩ ∧ b < w.heap.size ∧ w.cell? ⟨b, f + j * 9, none⟩ = some (.string (E j).room) ∧ w.cell? ⟨b, f + j * 9 + 1, none⟩ = some (.int .i64 (E j).seq) ∧ w.cell? ⟨b, f + j * 9 + 2, none⟩ = some (.int .i64 (E j).kind) ∧ w.cell? ⟨b, f + j * 9 + 3, none⟩ = some (.string (E j).user) ∧ w.cell? ⟨b, f + j * 9 + 4, none⟩ = some (.string (E j).nick) ∧ w.cell? ⟨b, f + j * 9 + 5, none⟩ = some (.string (E j).text) ∧ w.cell? ⟨b, f + j * 9 + 6, none⟩ = some (.string (E j).id) ∧ w.cell? ⟨b, f + j * 9 + 7, none⟩ = some (.string (E j).ref) ∧ w.cell? ⟨b, f + j * 9 + 8, none⟩ = some (.int .i64 (E j).num)) := hc1
  have HC2 : Hid (∀ j, j < n → ∃ b f : Nat, o2 = some ⟨b, f, none⟩ ∧ b < w.heap.size ∧ w.cell? ⟨b, f + j * 9, none⟩ = some (.string (E j).room) ∧ w.cell? ⟨b, f + j * 9 + 1, none⟩ = some (.int .i64 (E j).seq) ∧ w.cell? ⟨b, f + j * 9 + 2, none⟩ = some (.int .i64 (E j).kind) ∧ w.cell? ⟨b, f + j * 9 + 3, none⟩ = some (.string (E j).user) ∧ w.cell? ⟨b, f + j * 9 + 4, none⟩ = some (.string (E j).nick) ∧ w.cell? ⟨b, f + j * 9 + 5, none⟩ = some (.string (E j).text) ∧ w.cell? ⟨b, f + j * 9 + 6, none⟩ = some (.string (E j).id) ∧ w.cell? ⟨b, f + j * 9 + 7, none⟩ = some (.string (E j).ref) ∧ w.cell? ⟨b, f + j * 9 + 8, none⟩ = some (.int .i64 (E j).num)) := hc2
  clear hc1 hc2
  go_enter Try.func8, Try.ntmps8
  go_wp2_with fail
  go_loopw [5] (fun i wr => ∃ k : Nat, k ≤ n ∧ i = .int .i64 k ∧ Below w.heap.size w wr) (fun i _ => n - (intOf i).toNat)
  case atStart => exact ⟨0, Nat.zero_le _, rfl, Below.refl _ _⟩
  case round =>
    obtain ⟨k, hk, rfl, bw⟩ := hrel
    by_cases hlt : k < n
    · obtain ⟨b, f, ho, hb, c0, c1, c2, c3, c4, c5, c6, c7, c8⟩ := HC1.out k hlt
      obtain ⟨b2, f2, ho2, hb2, e0, e1, e2, e3, e4, e5, e6, e7, e8⟩ := HC2.out k hlt
      subst ho ho2
      have i1 : (0 : Int) ≤ (k : Int) := by omega
      have i2 : (k : Int) < (n : Int) := by omega
      have NEW : Hid (∀ W : World, Below w.heap.size w W → (W.cell? ⟨b, f + k * 9, none⟩ = some (.string (E k).room) ∧ W.cell? ⟨b, f + k * 9 + 1, none⟩ = some (.int .i64 (E k).seq) ∧ W.cell? ⟨b, f + k * 9 + 2, none⟩ = some (.int .i64 (E k).kind) ∧ W.cell? ⟨b, f + k * 9 + 3, none⟩ = some (.string (E k).user) ∧ W.cell? ⟨b, f + k * 9 + 4, none⟩ = some (.string (E k).nick) ∧ W.cell? ⟨b, f + k * 9 + 5, none⟩ = some (.string (E k).text) ∧ W.cell? ⟨b, f + k * 9 + 6, none⟩ = some (.string (E k).id) ∧ W.cell? ⟨b, f + k * 9 + 7, none⟩ = some (.string (E k).ref) ∧ W.cell? ⟨b, f + k * 9 + 8, none⟩ = some (.int .i64 (E k).num)) ∧ W.cell? ⟨b2, f2 + k * 9, none⟩ = some (.string (E k).room) ∧ W.cell? ⟨b2, f2 + k * 9 + 1, none⟩ = some (.int .i64 (E k).seq) ∧ W.cell? ⟨b2, f2 + k * 9 + 2, none⟩ = some (.int .i64 (E k).kind) ∧ W.cell? ⟨b2, f2 + k * 9 + 3, none⟩ = some (.string (E k).user) ∧ W.cell? ⟨b2, f2 + k * 9 + 4, none⟩ = some (.string (E k).nick) ∧ W.cell? ⟨b2, f2 + k * 9 + 5, none⟩ = some (.string (E k).text) ∧ W.cell? ⟨b2, f2 + k * 9 + 6, none⟩ = some (.string (E k).id) ∧ W.cell? ⟨b2, f2 + k * 9 + 7, none⟩ = some (.string (E k).ref) ∧ W.cell? ⟨b2, f2 + k * 9 + 8, none⟩ = some (.int .i64 (E k).num)) := fun W bb => ⟨⟨(bb.cell (p := ⟨b, f + k * 9, none⟩) hb).trans c0, (bb.cell (p := ⟨b, f + k * 9 + 1, none⟩) hb).trans c1, (bb.cell (p := ⟨b, f + k * 9 + 2, none⟩) hb).trans c2, (bb.cell (p := ⟨b, f + k * 9 + 3, none⟩) hb).trans c3, (bb.cell (p := ⟨b, f + k * 9 + 4, none⟩) hb).trans c4, (bb.cell (p := ⟨b, f + k * 9 + 5, none⟩) hb).trans c5, (bb.cell (p := ⟨b, f + k * 9 + 6, none⟩) hb).trans c6, (bb.cell (p := ⟨b, f + k * 9 + 7, none⟩) hb).trans c7, (bb.cell (p := ⟨b, f + k * 9 + 8, none⟩) hb).trans c8⟩, (bb.cell (p := ⟨b2, f2 + k * 9, none⟩) hb2).trans e0, (bb.cell (p := ⟨b2, f2 + k * 9 + 1, none⟩) hb2).trans e1, (bb.cell (p := ⟨b2, f2 + k * 9 + 2, none⟩) hb2).trans e2, (bb.cell (p := ⟨b2, f2 + k * 9 + 3, none⟩) hb2).trans e3, (bb.cell (p := ⟨b2, f2 + k * 9 + 4, none⟩) hb2).trans e4, (bb.cell (p := ⟨b2, f2 + k * 9 + 5, none⟩) hb2).trans e5, (bb.cell (p := ⟨b2, f2 + k * 9 + 6, none⟩) hb2).trans e6, (bb.cell (p := ⟨b2, f2 + k * 9 + 7, none⟩) hb2).trans e7, (bb.cell (p := ⟨b2, f2 + k * 9 + 8, none⟩) hb2).trans e8⟩
      clear c0 e0 c1 e1 c2 e2 c3 e3 c4 e4 c5 e5 c6 e6 c7 e7 c8 e8
      go_wp2_with fail
      refine wp_region_held_drew (S := fun W => (W.cell? ⟨b, f + k * 9, none⟩ = some (.string (E k).room) ∧ W.cell? ⟨b, f + k * 9 + 1, none⟩ = some (.int .i64 (E k).seq) ∧ W.cell? ⟨b, f + k * 9 + 2, none⟩ = some (.int .i64 (E k).kind) ∧ W.cell? ⟨b, f + k * 9 + 3, none⟩ = some (.string (E k).user) ∧ W.cell? ⟨b, f + k * 9 + 4, none⟩ = some (.string (E k).nick) ∧ W.cell? ⟨b, f + k * 9 + 5, none⟩ = some (.string (E k).text) ∧ W.cell? ⟨b, f + k * 9 + 6, none⟩ = some (.string (E k).id) ∧ W.cell? ⟨b, f + k * 9 + 7, none⟩ = some (.string (E k).ref) ∧ W.cell? ⟨b, f + k * 9 + 8, none⟩ = some (.int .i64 (E k).num)) ∧ W.cell? ⟨b2, f2 + k * 9, none⟩ = some (.string (E k).room) ∧ W.cell? ⟨b2, f2 + k * 9 + 1, none⟩ = some (.int .i64 (E k).seq) ∧ W.cell? ⟨b2, f2 + k * 9 + 2, none⟩ = some (.int .i64 (E k).kind) ∧ W.cell? ⟨b2, f2 + k * 9 + 3, none⟩ = some (.string (E k).user) ∧ W.cell? ⟨b2, f2 + k * 9 + 4, none⟩ = some (.string (E k).nick) ∧ W.cell? ⟨b2, f2 + k * 9 + 5, none⟩ = some (.string (E k).text) ∧ W.cell? ⟨b2, f2 + k * 9 + 6, none⟩ = some (.string (E k).id) ∧ W.cell? ⟨b2, f2 + k * 9 + 7, none⟩ = some (.string (E k).ref) ∧ W.cell? ⟨b2, f2 + k * 9 + 8, none⟩ = some (.int .i64 (E k).num)) (by kernel_rfl) (NEW.out _ bw.drew) (fun hHeld => ?_)
      refine wpAnyH_take (i := 0) (v := ?_) rfl (by kernel_rfl) (by kernel_rfl) (by kernel_rfl) (fun _ _ _ h => h) (Or.inl ⟨by rfl, ?takeYs0⟩) (NEW.out _ bw.drew) ?takeRs0
      case takeYs0 => (intro w9 hSw; (try dsimp only at hSw); go_simp; try (with_reducible rfl))
      simp only [Act.put, List.setIfInBounds_toArray, List.set_cons_zero, List.set_cons_succ, List.getElem_toArray, List.getElem_cons_zero]
      refine wpAnyH_take (i := 1) (v := ?_) rfl (by kernel_rfl) (by kernel_rfl) (by kernel_rfl) (fun _ _ _ h => h) (Or.inl ⟨by rfl, ?takeYs1⟩) (NEW.out _ bw.drew) ?takeRs1
      case takeYs1 => (intro w9 hSw; (try dsimp only at hSw); go_simp; try (with_reducible rfl))
      simp only [Act.put, List.setIfInBounds_toArray, List.set_cons_zero, List.set_cons_succ, List.getElem_toArray, List.getElem_cons_zero, List.getElem_cons_succ]
      refine wpAnyH_take (i := 2) (v := ?_) rfl (by kernel_rfl) (by kernel_rfl) (by kernel_rfl) (fun _ _ _ h => h) (Or.inl ⟨by rfl, ?takeYs2⟩) (NEW.out _ bw.drew) ?takeRs2
      case takeYs2 => (intro w9 hSw; (try dsimp only at hSw); go_simp; try (with_reducible rfl))
      simp only [Act.put, List.setIfInBounds_toArray, List.set_cons_zero, List.set_cons_succ, List.getElem_toArray, List.getElem_cons_zero, List.getElem_cons_succ]
      refine wpAnyH_take (i := 3) (v := ?_) rfl (by kernel_rfl) (by kernel_rfl) (by kernel_rfl) (fun _ _ _ h => h) (Or.inl ⟨by rfl, ?takeYs3⟩) (NEW.out _ bw.drew) ?takeRs3
      case takeYs3 => (intro w9 hSw; (try dsimp only at hSw); go_simp; try (with_reducible rfl))
      simp only [Act.put, List.setIfInBounds_toArray, List.set_cons_zero, List.set_cons_succ, List.getElem_toArray, List.getElem_cons_zero, List.getElem_cons_succ]
      refine wpAnyH_take (i := 4) (v := ?_) rfl (by kernel_rfl) (by kernel_rfl) (by kernel_rfl) (fun _ _ _ h => h) (Or.inl ⟨by rfl, ?takeYs4⟩) (NEW.out _ bw.drew) ?takeRs4
      case takeYs4 => (intro w9 hSw; (try dsimp only at hSw); go_simp; try (with_reducible rfl))
      simp only [Act.put, List.setIfInBounds_toArray, List.set_cons_zero, List.set_cons_succ, List.getElem_toArray, List.getElem_cons_zero, List.getElem_cons_succ]
      refine wpAnyH_take (i := 5) (v := ?_) rfl (by kernel_rfl) (by kernel_rfl) (by kernel_rfl) (fun _ _ _ h => h) (Or.inl ⟨by rfl, ?takeYs5⟩) (NEW.out _ bw.drew) ?takeRs5
      case takeYs5 => (intro w9 hSw; (try dsimp only at hSw); go_simp; try (with_reducible rfl))
      simp only [Act.put, List.setIfInBounds_toArray, List.set_cons_zero, List.set_cons_succ, List.getElem_toArray, List.getElem_cons_zero, List.getElem_cons_succ]
      refine wpAnyH_take (i := 6) (v := ?_) rfl (by kernel_rfl) (by kernel_rfl) (by kernel_rfl) (fun _ _ _ h => h) (Or.inl ⟨by rfl, ?takeYs6⟩) (NEW.out _ bw.drew) ?takeRs6
      case takeYs6 => (intro w9 hSw; (try dsimp only at hSw); go_simp; try (with_reducible rfl))
      simp only [Act.put, List.setIfInBounds_toArray, List.set_cons_zero, List.set_cons_succ, List.getElem_toArray, List.getElem_cons_zero, List.getElem_cons_succ]
      refine wpAnyH_take (i := 7) (v := ?_) rfl (by kernel_rfl) (by kernel_rfl) (by kernel_rfl) (fun _ _ _ h => h) (Or.inl ⟨by rfl, ?takeYs7⟩) (NEW.out _ bw.drew) ?takeRs7
      case takeYs7 => (intro w9 hSw; (try dsimp only at hSw); go_simp; try (with_reducible rfl))
      simp only [Act.put, List.setIfInBounds_toArray, List.set_cons_zero, List.set_cons_succ, List.getElem_toArray, List.getElem_cons_zero, List.getElem_cons_succ]
      refine wpAnyH_ready (rs := [8]) (by kernel_rfl) (by simp) ?_
      refine AllReadyH.cons rfl (fun K hK => ?_) AllReadyH.nil
      go_simp
      refine (eqEntryX_same (E k) _).mono ?_
      rintro e w1 ⟨rfl, b1⟩
      have bw1 : Below w.heap.size w w1 := bw.drew.trans (b1.mono bw.drew.size)
      go_wp2_with fail
      refine hK.out _ _ (NEW.out w1 bw1) (fun _ => ?_)
      clear hK K
      try simp only [Act.put, List.setIfInBounds_toArray, List.set_cons_zero, List.set_cons_succ, List.getElem_toArray, List.getElem_cons_zero, List.getElem_cons_succ]
      refine wpAnyH_take (i := 9) (v := ?_) rfl (by kernel_rfl) (by kernel_rfl) (by kernel_rfl) (fun _ _ _ h => h) (Or.inl ⟨by rfl, ?takeYs9⟩) (NEW.out w1 bw1) ?takeRs9
      case takeYs9 => (intro w9 hSw; (try dsimp only at hSw); go_simp; try (with_reducible rfl))
      simp only [Act.put, List.setIfInBounds_toArray, List.set_cons_zero, List.set_cons_succ, List.getElem_toArray, List.getElem_cons_zero, List.getElem_cons_succ]
      refine wpAnyH_done (by kernel_rfl) ?_ _
      go_wp2_with fail
      go_round
      case rel => exact ⟨k + 1, by omega, by go_num, bw1⟩
      case measure => simp [intOf]; omega
    · obtain rfl : k = n := by omega
      go_wp2_with fail
      go_ret
      exact ⟨rfl, bw⟩
end Go.Proofs.Ytkmagkpieihcgaa.Hub
