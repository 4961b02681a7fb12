/-
  strings.IndexAny at the text '/[': whatever the text that is looked through.
-/
import Derived.Test.YtocpbcghkphcgaaRuneP
import Derived.Lib.OthersKept
namespace Go.Proofs.Ytocpbcghkphcgaa.Hub
open Go.RowKit
set_option linter.unusedVariables false
set_option linter.unusedSimpArgs false

theorem dec_big (n b0 b1 b2 b3 : Nat) (h : 128 ≤ b0) (hn : 1 ≤ n) :
    128 ≤ (Lib.decodeN n b0 b1 b2 b3).1 ∧ 1 ≤ (Lib.decodeN n b0 b1 b2 b3).2 ∧ (Lib.decodeN n b0 b1 b2 b3).2 ≤ n ∧ (1 < (Lib.decodeN n b0 b1 b2 b3).2 → 128 ≤ b1) ∧ (2 < (Lib.decodeN n b0 b1 b2 b3).2 → 128 ≤ b2) ∧ (3 < (Lib.decodeN n b0 b1 b2 b3).2 → 128 ≤ b3) ∧ (Lib.decodeN n b0 b1 b2 b3).2 ≤ 4 := by
  unfold Lib.decodeN
  rw [if_neg (by omega)]
  split
  · split
    all_goals
      refine ⟨?_, ?_, ?_, ?_, ?_, ?_, ?_⟩
      all_goals (try intro _)
      all_goals first | omega | (simp only [] at *; omega) | (dsimp only at *; omega)
  · split
    · split
      all_goals
        refine ⟨?_, ?_, ?_, ?_, ?_, ?_, ?_⟩
        all_goals (try intro _)
        all_goals first | omega | (simp only [] at *; omega) | (dsimp only at *; omega)
    · split
      · split
        all_goals
          refine ⟨?_, ?_, ?_, ?_, ?_, ?_, ?_⟩
          all_goals (try intro _)
          all_goals first | omega | (simp only [] at *; omega) | (dsimp only at *; omega)
      · refine ⟨?_, ?_, ?_, ?_, ?_, ?_, ?_⟩
        all_goals (try intro _)
        all_goals first | omega | (simp only [] at *; omega) | (dsimp only at *; omega)
theorem get_at (s : ByteArray) (i : Nat) (h : i < s.size) : s.get! i = s[i] := by
  show s.data[i]! = _
  rw [getElem!_pos s.data i h]
  rfl
theorem dec_low (s : ByteArray) (i : Nat) (h : i < s.size) (hb : s[i].toNat < 128) : Utf8.decode s i = (s[i].toNat, 1) := by
  rw [Lib.decode_at, get_at s i h]
  unfold Lib.decodeN
  rw [if_pos hb]
theorem dec_high (s : ByteArray) (i : Nat) (h : i < s.size) (hb : 128 ≤ s[i].toNat) : 128 ≤ (Utf8.decode s i).1 ∧ 1 ≤ (Utf8.decode s i).2 ∧ i + (Utf8.decode s i).2 ≤ s.size := by
  have hg := get_at s i h
  rw [Lib.decode_at]
  obtain ⟨a, b, c, -, -, -, -⟩ := dec_big (s.size - i) (s.get! i).toNat (s.get! (i + 1)).toNat (s.get! (i + 2)).toNat (s.get! (i + 3)).toNat (by rw [hg]; exact hb) (by omega)
  exact ⟨a, b, by omega⟩
/-- Where the first stroke or bracket stands: of a text of low bytes; of others it stands there, if it is told. -/
def AnyAt (s : ByteArray) (z : Int) : Prop := (z = -1 ∨ ∃ i : Nat, z = (i : Int) ∧ ∃ h : i < s.size, s[i] = 47 ∨ s[i] = 91) ∧ ((∀ c ∈ s.data.toList, c.toNat < 128) → z = Lib.indexAny s.data.toList [47, 91])
theorem any_cases : ∀ l : List UInt8, Lib.indexAny l [47, 91] = -1 ∨ ∃ (i : Nat) (x : UInt8), Lib.indexAny l [47, 91] = (i : Int) ∧ l[i]? = some x ∧ (x = 47 ∨ x = 91)
  | [] => .inl rfl
  | b :: l => by
    unfold Lib.indexAny
    by_cases hc : ([47, 91] : List UInt8).contains b = true
    · rw [if_pos hc]
      exact .inr ⟨0, b, rfl, rfl, by simpa using hc⟩
    · rw [if_neg hc]
      rcases any_cases l with h | ⟨i, x, h, hx, hv⟩
      · rw [h]; exact .inl rfl
      · rw [h]
        have : ((i : Int) == -1) = false := beq_eq_false_iff_ne.2 (by omega)
        rw [this]
        exact .inr ⟨i + 1, x, by first | rfl | (simp; done) | (simp; omega), by simpa using hx, hv⟩
theorem anyAt_of {s : ByteArray} {z : Int} (h : z = Lib.indexAny s.data.toList [47, 91]) : AnyAt s z := by
  refine ⟨?_, fun _ => h⟩
  rcases any_cases s.data.toList with h1 | ⟨i, x, h1, hx, hv⟩
  · exact .inl (h.trans h1)
  · refine .inr ⟨i, h.trans h1, ?_⟩
    have hi := (List.getElem?_eq_some_iff.1 hx)
    obtain ⟨hlt, he⟩ := hi
    exact ⟨hlt, by show s.data.toList[i]'hlt = 47 ∨ s.data.toList[i]'hlt = 91; rw [he]; exact hv⟩

set_option maxRecDepth 1000000 in
set_option maxHeartbeats 8000000 in
theorem indexAny_any (s : ByteArray) (hs : s.size ≤ 1048576) (w : World) :
    Calls Try.prog 49 #[.string s, .string slashes] w fun e w' => (∃ z : Int, e = .returned (.int .i64 z) ∧ AnyAt s z) ∧ Below w.heap.size w w' := by
  by_cases h8 : 8 < s.size
  · refine (Try.strings_IndexAny_long s slashes w (by decide) h8 (by omega) (by decide) ?_).mono ?_
    · intro j b hj
      match j, hj with
      | 0, hj => injection hj with e; subst e; decide
      | 1, hj => injection hj with e; subst e; decide
    · rintro e w' ⟨rfl, b⟩
      exact ⟨⟨_, rfl, anyAt_of rfl⟩, b⟩
  · have h8z : decide ((8 : Int) < (s.size : Int)) = false := decide_eq_false (by omega)
    have hz : slashes.size = 2 := rfl
    have hemp : slashes.toList.isEmpty = false := by rw [Lib.toList_data]; rfl
    have hLow := fun (x : UInt8) (hx : x.toNat < 128) W => Try.strings_IndexRune_ascii slashes (x.toNat : Int) W (by omega) (by omega)
    have hBig := fun c hc W => indexRune_big c hc W
    have hcl : slashes.data.toList = [47, 91] := rfl
    obtain ⟨S, hS⟩ : ∃ S, slashes = S := ⟨_, rfl⟩
    rw [hS] at hz hemp hLow hBig hcl ⊢
    clear hS
    have HL : Hid (∀ (x : UInt8) (hx : x.toNat < 128) W, _) := hLow
    have HB : Hid (∀ (c : Int) (hc : 128 ≤ c) W, _) := hBig
    clear hLow hBig
    have hn1 : ((S.size : Int) == 1) = false := beq_eq_false_iff_ne.2 (by omega)
    go_enter Try.func49, Try.ntmps49
    go_wp2_with (go_at_call 60; refine (Try.strings_shouldUseASCIISet _ _).mono ?_; rintro e w' ⟨rfl, hw⟩; rw [hw, h8z])
    go_loopw [] (fun wr => ∃ i : Nat, i ≤ s.size ∧ wr.heap[w.heap.size]? = some (.stringIter s i) ∧ Hid ((∀ c ∈ s.data.toList, c.toNat < 128) → Lib.NoAny s.data.toList [47, 91] i) ∧ Below w.heap.size w wr) (fun wr => s.size - wr.iterPos w.heap.size)
    case atStart => exact ⟨0, by omega, World.iter_heap w s 0, fun _ => Lib.NoAny.zero _ _, (Below.refl _ w).alloc (Nat.le_refl _) _⟩
    case round =>
      obtain ⟨i, hig, hit, HN, hbw⟩ := hrel
      by_cases hi : i < s.size
      · obtain ⟨x, hx⟩ : ∃ x : UInt8, s[i]'hi = x := ⟨_, rfl⟩
        have hxl : s.data.toList[i]? = some x := by rw [← hx]; exact Lib.data_getElem? s i hi
        have Hx : Hid (s.data.toList[i]? = some x) := hxl
        have HX : Hid (s[i]'hi = x) := hx
        by_cases hx128 : x.toNat < 128
        · have hnx : ∀ ty, (Instr.next (.pointer (some ⟨w.heap.size, 0, none⟩)) true ty).run Try.prog wr = _ := fun ty => Lib.run_next_ascii_at wr w.heap.size s i ty hit hi (by rw [hx]; exact hx128)
          rw [hx] at hnx
          have hit2 := Lib.iterAt_heap wr w.heap.size s i (i + 1) hit
          have hbw2 := Lib.below_iterAt hbw (k := w.heap.size) (Nat.le_refl _) s (i + 1)
          have hcon := Lib.contains_iff_indexByte [47, 91] x
          have hback : ((x.toNat : Int)).toNat.toUInt8 = x := by simp
          have cI := HL.out x hx128
          rw [hback, hcl] at cI
          have HIT : Hid _ := hit
          have HIT2 : Hid _ := hit2
          clear hxl hx hback hit hit2
          cases hin : ([47, 91] : List UInt8).contains x
          · rw [hin] at hcon
            have hlt : ¬ ((0 : Int) ≤ Lib.indexByte [47, 91] x) := of_decide_eq_false hcon.symm
            obtain ⟨ix, hix⟩ : ∃ ix, Lib.indexByte [47, 91] x = ix := ⟨_, rfl⟩
            rw [hix] at cI hlt
            clear hcon hix
            go_wp2_with (go_at_call 59; refine (cI _).mono ?_; rintro e w' ⟨rfl, hw⟩; rw [hw])
            go_roundw
            case rel => exact ⟨i + 1, by omega, HIT2.out, fun hlow => (HN.out hlow).succ Hx.out hin, hbw2⟩
            case measure =>
              have h1 := HIT.out
              have h2 := HIT2.out
              simp only [World.iterPos, h1, h2]
              omega
          · rw [hin] at hcon
            have hge : (0 : Int) ≤ Lib.indexByte [47, 91] x := of_decide_eq_true hcon.symm
            obtain ⟨ix, hix⟩ : ∃ ix, Lib.indexByte [47, 91] x = ix := ⟨_, rfl⟩
            rw [hix] at cI hge
            clear hcon hix
            go_wp2_with (go_at_call 59; refine (cI _).mono ?_; rintro e w' ⟨rfl, hw⟩; rw [hw])
            go_ret
            refine ⟨⟨(i : Int), rfl, .inr ⟨i, rfl, hi, ?_⟩, fun hlow => (Lib.indexAny_hit (HN.out hlow) Hx.out hin).symm⟩, hbw2⟩
            rw [HX.out]
            simpa using hin
        · obtain ⟨d1, d2, d3⟩ := dec_high s i hi (by rw [hx]; omega)
          have hnx : ∀ ty, (Instr.next (.pointer (some ⟨w.heap.size, 0, none⟩)) true ty).run Try.prog wr = _ := fun ty => Lib.run_next_any_at wr w.heap.size s i ty hit hi
          obtain ⟨c, hc⟩ : ∃ c, (Utf8.decode s i).1 = c := ⟨_, rfl⟩
          obtain ⟨q, hq⟩ : ∃ q, (Utf8.decode s i).2 = q := ⟨_, rfl⟩
          rw [hc] at hnx d1
          rw [hq] at hnx d2 d3
          have hit2 := Lib.iterAt_heap wr w.heap.size s i (i + q) hit
          have hbw2 := Lib.below_iterAt hbw (k := w.heap.size) (Nat.le_refl _) s (i + q)
          have cI := HB.out (c : Int) (by omega)
          have HIT : Hid _ := hit
          have HIT2 : Hid _ := hit2
          have HW2 : Hid _ := hbw2
          clear hc hq hit hit2 hbw2 hxl hx
          go_wp2_with (go_at_call 59; refine (cI _).mono ?_; rintro e w' ⟨rfl, hw⟩)
          have hlt2 : w.heap.size < (wr.iterAt w.heap.size s (i + q)).heap.size := (Array.getElem?_eq_some_iff.1 HIT2.out).1
          have hit3 := (hw.block w.heap.size hlt2).trans HIT2.out
          go_roundw
          case rel => exact ⟨i + q, d3, hit3, fun hlow => absurd (hlow x (List.mem_of_getElem? Hx.out)) hx128, HW2.out.trans (hw.mono HW2.out.size)⟩
          case measure =>
            have h1 := HIT.out
            simp only [World.iterPos, h1, hit3]
            omega
      · obtain rfl : i = s.size := by omega
        have hnx : ∀ ty, (Instr.next (.pointer (some ⟨w.heap.size, 0, none⟩)) true ty).run Try.prog wr = _ := fun ty => Lib.run_next_end_at wr w.heap.size s s.size ty hit (by omega)
        go_wp2_with fail
        go_ret
        exact ⟨⟨-1, rfl, .inl rfl, fun hlow => (Lib.indexAny_none (by rw [← Lib.size_eq]; exact HN.out hlow)).symm⟩, hbw⟩
end Go.Proofs.Ytocpbcghkphcgaa.Hub
