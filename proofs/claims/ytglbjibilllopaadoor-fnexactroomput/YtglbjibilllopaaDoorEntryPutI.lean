/-
  How the program writes an entry: journalWriter's next, number and marked, and impl.EntryPut of any entry.
-/
import Derived.Test.YtglbjibilllopaaDoorBuilderT
import Derived.Test.YtglbjibilllopaaDoorShelfD
import Derived.Test.YtglbjibilllopaaDoorEntryImpl
import Derived.Test.YtglbjibilllopaaDoorEntryPutT
import Derived.Test.YtglbjibilllopaaDoorFieldPlain
import Derived.Deep.RegionHeld3
namespace Go.Proofs.YtglbjibilllopaaDoor.Hub
open Go.RowKit Go.Lib Go.Sort
set_option linter.unusedVariables false

theorem liesJ : LiesB 50 := ⟨by kernel_rfl, by decide⟩

/-- The table of powers of ten is as the library lays it. -/
def Tens (w : World) : Prop := Lib.TabIs Tryd.prog w "internal/strconv.uint64pow10" .u64 Lib.pow10Tab
theorem Tens.below {w w' : World} (h : Tens w) (hb : Below w.heap.size w w') : Tens w' := by
  unfold Tens Lib.TabIs World.var? at *
  cases hg : Tryd.prog.globalNamed "internal/strconv.uint64pow10" with
  | none => simp [hg] at h
  | some g =>
    simp only [hg, Option.bind_some] at h ⊢
    have hlt : g < w.heap.size := by
      rcases Nat.lt_or_ge g w.heap.size with h' | h'
      · exact h'
      · rw [Array.getElem?_eq_none h'] at h; simp at h
    rw [hb.block g hlt]
    exact h
theorem Tens.low {B : Nat} {w w' : World} (h : Tens w) (hB : ∃ v : World, v.heap.size ≤ B ∧ Tens v ∧ Below v.heap.size v w) (hb : Below B w w') : Tens w' := by
  obtain ⟨v, hv, ht, hw⟩ := hB
  exact ht.below (hw.trans (hb.mono hv))

theorem below_grow (w : World) (k : Nat) (os : Array Obj) : Below w.heap.size w (grow (w.drewN k) os) := by
  have h1 : ∀ n, Below w.heap.size w (w.drewN n) := fun n => by
    induction n with
    | zero => exact Below.refl _ _
    | succ n ih => exact ih.drew
  refine ⟨rfl, rfl, rfl, ?_, fun j hj => ?_⟩
  · simp [grow]
  · simp [grow, Array.getElem?_append_left, hj]

theorem itoa_any (n : Nat) (hn : n < 1000000000) (w : World) (hT : Tens w) :
    Calls Tryd.prog 55 #[.int .i64 (n : Int)] w fun e w' => e = .returned (.string ⟨(Lib.decDigits n).toArray⟩) ∧ Below w.heap.size w w' := by
  refine (Any.strconv_Itoa Tryd.laysM171 (n : Int) (by omega) (by omega) w hT).mono ?_
  rintro e w' ⟨rfl, k, os, rfl⟩
  rw [Lib.itoa_nonneg]
  exact ⟨rfl, below_grow w k os⟩

/-- The builder of a writer that lies at b and holds l. -/
def Jw (b : Nat) (l : List UInt8) (w : World) : Prop := Lib.IsBuilderF 50 5 b b (Lib.byteCells l) w ∧ b < w.heap.size
theorem Jw.below {b : Nat} {l : List UInt8} {w w' : World} (h : Jw b l w) (hb : Below w.heap.size w w') : Jw b l w' := by
  refine ⟨?_, Nat.lt_of_lt_of_le h.2 hb.size⟩
  have key : ∀ p, Lib.BuilderAtF 50 5 b b p (Lib.byteCells l) w → Lib.BuilderAtF 50 5 b b p (Lib.byteCells l) w' := fun p h => by
    have hlt := h.lt
    obtain ⟨hB, v, hv, hown, hne⟩ := h
    exact ⟨hB, v, (hb.block b hlt).trans hv, hown.kept (row := none) ⟨hb.os, hb.tape, hb.output, hb.size, fun k hk _ => hb.block k hk⟩ (Classical.em _), hne⟩
  exact h.1.elim (fun x => .inl (key _ x)) (fun x => .inr (key _ x))

set_option maxHeartbeats 1000000 in
set_option maxRecDepth 100000 in
theorem jwNext_any (b : Nat) (l : List UInt8) (w : World) (h : Jw b l w) (hlen : l.length ≤ 1000000000) :
    Calls Tryd.prog 23 #[.pointer (some ⟨b, 0, none⟩)] w fun e w' => e = .returned (.pointer (some ⟨b, 0, none⟩)) ∧ Jw b (l ++ [124]) w' ∧ Below b w w' := by
  obtain ⟨hI, hlt⟩ := h
  go_enter Tryd.func23, Tryd.ntmps23
  go_wp2_with (go_at_call 53; refine (writeByteT_any liesJ b b _ 124 _ hI (by rw [Lib.byteCells_length]; omega) (by omega)).mono ?_; rintro e w1 ⟨rfl, h1, b1, _⟩)
  go_ret
  refine ⟨rfl, ⟨?_, Nat.lt_of_lt_of_le hlt b1.size⟩, b1⟩
  rw [Lib.byteCells_append]
  exact h1

theorem decB_digits : ∀ (f n : Nat), n < 10 ^ (f + 1) → (decB f n).data.toList = Lib.decDigits n
  | 0, n, h => by
    have h' : n < 10 := by simpa using h
    unfold decB
    rw [Lib.decDigits, dif_pos h']
    simp only [strOfNums, List.map_cons, List.map_nil]
    have e : (48 + (n : Int)).toNat = 48 + n := by omega
    rw [e]
  | f + 1, n, h => by
    unfold decB
    by_cases h10 : n < 10
    · rw [if_pos h10, Lib.decDigits, dif_pos h10]
      simp only [strOfNums, List.map_cons, List.map_nil]
      have e : (48 + (n : Int)).toNat = 48 + n := by omega
      rw [e]
    · rw [if_neg h10, Lib.decDigits, dif_neg h10, ByteArray.data_append, Array.toList_append, decB_digits f (n / 10) (by rw [Nat.pow_succ] at h; omega)]
      congr 1

set_option maxHeartbeats 1000000 in
set_option maxRecDepth 100000 in
theorem jwNumber_any (b f n : Nat) (hf : f ≤ 8) (hn : n < 10 ^ (f + 1)) (l : List UInt8) (w : World) (hT : Tens w) (h : Jw b l w) (hlen : l.length ≤ 1000000000) :
    Calls Tryd.prog 24 #[.pointer (some ⟨b, 0, none⟩), .int .i64 (n : Int)] w fun e w' => e = .returned (.tuple #[]) ∧ Jw b (l ++ (decB f n).data.toList) w' ∧ Below b w w' := by
  have hlt := h.2
  have hn' : n < 1000000000 := Nat.lt_of_lt_of_le hn (Nat.pow_le_pow_right (by omega) (by omega : f + 1 ≤ 9))
  have hsz := decB_size f n
  rw [decB_digits f n hn]
  have hz : (Lib.decDigits n).length ≤ 9 := by rw [← decB_digits f n hn]; exact Nat.le_trans hsz (by omega)
  clear hsz hn hf
  have bD : RowKit.Below w.heap.size w w.drew := (Below.refl _ w).drew
  have hTd := hT.below bD
  have hJd := h.below bD
  go_enter Tryd.func24, Tryd.ntmps24
  go_wp2_with fail
  go_region_held3 (fun _ => True) (trivial)
    (first
      | (go_at_call 54; refine (writeStringT_any liesJ b b _ _ w8 H8.1 Z8 Y8).mono ?_; rintro e w9 ⟨rfl, h9, b9, _⟩)
      | (go_at_call 55; refine (itoa_any n hn' _ hTd).mono ?_; rintro e w8 ⟨rfl, b8⟩; have H8 := hJd.below b8; have Z8 : (Lib.byteCells l).length + (⟨(Lib.decDigits n).toArray⟩ : ByteArray).size ≤ 140737488355328 := (by rw [Lib.byteCells_length]; show l.length + (Lib.decDigits n).length ≤ _; omega); have Y8 : b ≤ w8.heap.size := Nat.le_of_lt H8.2))
  go_end0
  refine ⟨rfl, ⟨?_, Nat.lt_of_lt_of_le H8.2 b9.size⟩, (bD.mono (Nat.le_of_lt hlt)).trans ((b8.mono (Nat.le_of_lt hJd.2)).trans b9)⟩
  rw [Lib.byteCells_append]
  exact h9

set_option maxHeartbeats 2000000 in
set_option maxRecDepth 100000 in
theorem jwMarked_any (b : Nat) (s : ByteArray) (hs : s.size ≤ 1000) (l : List UInt8) (w : World) (h : Jw b l w) (hlen : l.length ≤ 1000000000) :
    Calls Tryd.prog 22 #[.pointer (some ⟨b, 0, none⟩), .string s] w fun e w' => e = .returned (.tuple #[]) ∧ Jw b (l ++ (fieldT s).data.toList) w' ∧ Below b w w' := by
  go_enter Tryd.func22, Tryd.ntmps22
  go_wp2_with fail
  go_loopw [7] (fun i wr => ∃ k : Nat, k ≤ s.size ∧ i = .int .i64 k ∧ Jw b (l ++ (fieldPre s k).data.toList) wr ∧ RowKit.Below b w wr) (fun i _ => s.size - (RowKit.intOf i).toNat)
  case atStart => exact ⟨0, Nat.zero_le _, rfl, by simpa [fieldPre] using h, Below.refl _ _⟩
  case round =>
    obtain ⟨k, hk, rfl, hJ, hbw⟩ := hrel
    by_cases hlt : k < s.size
    · have hsz := fieldPre_size s k
      have hd : s.data[k]? = some s[k] := by rw [Array.getElem?_eq_getElem (by exact hlt)]; rfl
      have hP : Hid (fieldPre s (k + 1) = (if s.data[k]? = some 124 ∨ s.data[k]? = some 92 then fieldPre s k ++ ⟨#[92]⟩ else fieldPre s k) ++ s.extract k (k + 1)) := (show _ = _ from rfl)
      have hx : (s.extract k (k + 1)).data.toList = [s[k]] := by
        have e : (s.extract k (k + 1)).data.toList = (s.data.toList.drop k).take 1 := by simp [ByteArray.data_extract]
        rw [e, List.drop_eq_getElem_cons (by exact hlt)]
        rfl
      have hn : Lib.byteCells [s[k]] = [.int .u8 (s[k].toNat : Int)] := rfl
      have c124 : s.data[k]? = some 124 ↔ s[k].toNat = 124 := by
        rw [hd, Option.some.injEq]
        exact ⟨fun e => by rw [e]; rfl, fun e => UInt8.toNat_inj.1 e⟩
      have c92 : s.data[k]? = some 92 ↔ s[k].toNat = 92 := by
        rw [hd, Option.some.injEq]
        exact ⟨fun e => by rw [e]; rfl, fun e => UInt8.toNat_inj.1 e⟩
      have hFl : (fieldPre s k).data.toList.length ≤ 2000 := Nat.le_trans hsz (by omega)
      generalize fieldPre s k = F at *
      have e1 : IntKind.i64.wrap ((k : Int) + 1) = (k : Int) + 1 := by rw [IntKind.wrap_i64]; omega
      have hbl := hJ.2
      have hI := hJ.1
      have key1 : (s[k].toNat = 124 ∨ s[k].toNat = 92) → Hid (l ++ F.data.toList ++ [92] ++ [s[k]] = l ++ (fieldPre s (k + 1)).data.toList) := fun hc => by
        show _ = _
        rw [hP.out, if_pos (by rw [c124, c92]; exact hc), ByteArray.data_append, Array.toList_append, hx, ByteArray.data_append, Array.toList_append]
        simp
      have key0 : ¬ (s[k].toNat = 124 ∨ s[k].toNat = 92) → Hid (l ++ F.data.toList ++ [s[k]] = l ++ (fieldPre s (k + 1)).data.toList) := fun hc => by
        show _ = _
        rw [hP.out, if_neg (by rw [c124, c92]; exact hc), ByteArray.data_append, Array.toList_append, hx]
        simp
      clear hP c124 c92 hd hx hJ hsz
      by_cases h1 : s[k].toNat = 124
      · have g1 : ((s[k].toNat : Int) == 124) = true := by simp; omega
        have K := key1 (.inl h1)
        clear key1 key0 h1
        go_wp2_with (go_at_call 53; refine (writeByteT_any liesJ b b _ _ wr hI (by rw [Lib.byteCells_length, List.length_append]; omega) (by omega)).mono ?_; rintro e w8 ⟨rfl, h8, b8, _⟩)
        have hb8 := b8.size
        have J8 : Jw b (l ++ F.data.toList ++ [92]) w8 := ⟨by rw [Lib.byteCells_append]; exact h8, by omega⟩
        have bD : RowKit.Below w8.heap.size w8 w8.drew := (Below.refl _ w8).drew
        have I8 := (J8.below bD).1
        have Y8 : b ≤ w8.drew.heap.size := Nat.le_of_lt (J8.below bD).2
        clear h8
        go_region_held3 (fun _ => True) (trivial)
          (first
            | (go_at_call 53; refine (writeByteT_any liesJ b b _ (s[k].toNat : Int) _ I8 (by rw [Lib.byteCells_length, List.length_append, List.length_append]; show _ + 1 + 1 ≤ _; omega) Y8).mono ?_; rintro e w9 ⟨rfl, h9, b9, _⟩))
        go_wp2_with fail
        go_roundw
        case rel => exact ⟨k + 1, by omega, rfl, ⟨by rw [← K.out, Lib.byteCells_append, hn]; exact h9, by have := b9.size; have := bD.size; omega⟩, hbw.trans (b8.trans ((bD.mono (by omega)).trans b9))⟩
        case measure => simp [RowKit.intOf]; omega
      · have g1 : ((s[k].toNat : Int) == 124) = false := by simp; omega
        by_cases h2 : s[k].toNat = 92
        · have g2 : ((s[k].toNat : Int) == 92) = true := by simp; omega
          have K := key1 (.inr h2)
          clear key1 key0 h1 h2
          go_wp2_with (go_at_call 53; refine (writeByteT_any liesJ b b _ _ wr hI (by rw [Lib.byteCells_length, List.length_append]; omega) (by omega)).mono ?_; rintro e w8 ⟨rfl, h8, b8, _⟩)
          have hb8 := b8.size
          have J8 : Jw b (l ++ F.data.toList ++ [92]) w8 := ⟨by rw [Lib.byteCells_append]; exact h8, by omega⟩
          have bD : RowKit.Below w8.heap.size w8 w8.drew := (Below.refl _ w8).drew
          have I8 := (J8.below bD).1
          have Y8 : b ≤ w8.drew.heap.size := Nat.le_of_lt (J8.below bD).2
          clear h8
          go_region_held3 (fun _ => True) (trivial)
            (first
              | (go_at_call 53; refine (writeByteT_any liesJ b b _ (s[k].toNat : Int) _ I8 (by rw [Lib.byteCells_length, List.length_append, List.length_append]; show _ + 1 + 1 ≤ _; omega) Y8).mono ?_; rintro e w9 ⟨rfl, h9, b9, _⟩))
          go_wp2_with fail
          go_roundw
          case rel => exact ⟨k + 1, by omega, rfl, ⟨by rw [← K.out, Lib.byteCells_append, hn]; exact h9, by have := b9.size; have := bD.size; omega⟩, hbw.trans (b8.trans ((bD.mono (by omega)).trans b9))⟩
          case measure => simp [RowKit.intOf]; omega
        · have g2 : ((s[k].toNat : Int) == 92) = false := by simp; omega
          have K := key0 (by omega)
          clear key1 key0 h1 h2
          have J8 : Jw b (l ++ F.data.toList) wr := ⟨hI, hbl⟩
          have bD : RowKit.Below wr.heap.size wr wr.drew := (Below.refl _ wr).drew
          have I8 := (J8.below bD).1
          have Y8 : b ≤ wr.drew.heap.size := Nat.le_of_lt (J8.below bD).2
          go_wp2_with fail
          go_region_held3 (fun _ => True) (trivial)
            (first
              | (go_at_call 53; refine (writeByteT_any liesJ b b _ (s[k].toNat : Int) _ I8 (by rw [Lib.byteCells_length, List.length_append]; omega) Y8).mono ?_; rintro e w9 ⟨rfl, h9, b9, _⟩))
          go_wp2_with fail
          go_roundw
          case rel => exact ⟨k + 1, by omega, rfl, ⟨by rw [← K.out, Lib.byteCells_append, hn]; exact h9, by have := b9.size; have := bD.size; omega⟩, hbw.trans ((bD.mono (by omega)).trans b9)⟩
          case measure => simp [RowKit.intOf]; omega
    · obtain rfl : k = s.size := by omega
      go_wp2_with fail
      go_end0
      exact ⟨rfl, hJ, hbw⟩

end Go.Proofs.YtglbjibilllopaaDoor.Hub
