/-
  How the program writes an entry: journalWriter's next, number and marked, and impl.EntryPut of any entry.
-/
import Derived.Test.YtjknjlaabppooaaDoorBuilderT
import Derived.Test.YtjknjlaabppooaaDoorShelfD
import Derived.Test.YtjknjlaabppooaaDoorEntryImpl
import Derived.Test.YtjknjlaabppooaaDoorEntryPutT
import Derived.Test.YtjknjlaabppooaaDoorFieldPlain
import Derived.Deep.RegionHeld3
namespace Go.Proofs.YtjknjlaabppooaaDoor.Hub
open Go.RowKit Go.Lib Go.Sort
set_option linter.unusedVariables false

theorem liesJ : LiesB 44 := ⟨by kernel_rfl, by decide⟩

/-- The table of powers of ten is as the library lays it. -/
def Tens (w : World) : Prop := Lib.TabIs Tryd.prog w "internal/strconv.uint64pow10" .u64 Lib.pow10Tab
theorem Tens.below {w w' : World} (h : Tens w) (hb : Below w.heap.size w w') : Tens w' := by
  unfold Tens Lib.TabIs World.var? at *
  cases hg : Tryd.prog.globalNamed "internal/strconv.uint64pow10" with
  | none => simp [hg] at h
  | some g =>
    simp only [hg, Option.bind_some] at h ⊢
    have hlt : g < w.heap.size := by
      rcases Nat.lt_or_ge g w.heap.size with h' | h'
      · exact h'
      · rw [Array.getElem?_eq_none h'] at h; simp at h
    rw [hb.block g hlt]
    exact h
theorem Tens.low {B : Nat} {w w' : World} (h : Tens w) (hB : ∃ v : World, v.heap.size ≤ B ∧ Tens v ∧ Below v.heap.size v w) (hb : Below B w w') : Tens w' := by
  obtain ⟨v, hv, ht, hw⟩ := hB
  exact ht.below (hw.trans (hb.mono hv))

theorem below_grow (w : World) (k : Nat) (os : Array Obj) : Below w.heap.size w (grow (w.drewN k) os) := by
  have h1 : ∀ n, Below w.heap.size w (w.drewN n) := fun n => by
    induction n with
    | zero => exact Below.refl _ _
    | succ n ih => exact ih.drew
  refine ⟨rfl, rfl, rfl, ?_, fun j hj => ?_⟩
  · simp [grow]
  · simp [grow, Array.getElem?_append_left, hj]

theorem itoa_any (n : Nat) (hn : n < 1000000000) (w : World) (hT : Tens w) :
    Calls Tryd.prog 39 #[.int .i64 (n : Int)] w fun e w' => e = .returned (.string ⟨(Lib.decDigits n).toArray⟩) ∧ Below w.heap.size w w' := by
  refine (Any.strconv_Itoa Tryd.laysM171 (n : Int) (by omega) (by omega) w hT).mono ?_
  rintro e w' ⟨rfl, k, os, rfl⟩
  rw [Lib.itoa_nonneg]
  exact ⟨rfl, below_grow w k os⟩

/-- The builder of a writer that lies at b and holds l. -/
def Jw (b : Nat) (l : List UInt8) (w : World) : Prop := Lib.IsBuilderF 44 5 b b (Lib.byteCells l) w ∧ b < w.heap.size
theorem Jw.below {b : Nat} {l : List UInt8} {w w' : World} (h : Jw b l w) (hb : Below w.heap.size w w') : Jw b l w' := by
  refine ⟨?_, Nat.lt_of_lt_of_le h.2 hb.size⟩
  have key : ∀ p, Lib.BuilderAtF 44 5 b b p (Lib.byteCells l) w → Lib.BuilderAtF 44 5 b b p (Lib.byteCells l) w' := fun p h => by
    have hlt := h.lt
    obtain ⟨hB, v, hv, hown, hne⟩ := h
    exact ⟨hB, v, (hb.block b hlt).trans hv, hown.kept (row := none) ⟨hb.os, hb.tape, hb.output, hb.size, fun k hk _ => hb.block k hk⟩ (Classical.em _), hne⟩
  exact h.1.elim (fun x => .inl (key _ x)) (fun x => .inr (key _ x))

set_option maxHeartbeats 1000000 in
set_option maxRecDepth 100000 in
theorem jwNext_any (b : Nat) (l : List UInt8) (w : World) (h : Jw b l w) (hlen : l.length ≤ 1000000000) :
    Calls Tryd.prog 21 #[.pointer (some ⟨b, 0, none⟩)] w fun e w' => e = .returned (.pointer (some ⟨b, 0, none⟩)) ∧ Jw b (l ++ [124]) w' ∧ Below b w w' := by
  obtain ⟨hI, hlt⟩ := h
  go_enter Tryd.func21, Tryd.ntmps21
  go_wp2_with (go_at_call 17; refine (writeByteT_any liesJ b b _ 124 _ hI (by rw [Lib.byteCells_length]; omega) (by omega)).mono ?_; rintro e w1 ⟨rfl, h1, b1, _⟩)
  go_ret
  refine ⟨rfl, ⟨?_, Nat.lt_of_lt_of_le hlt b1.size⟩, b1⟩
  rw [Lib.byteCells_append]
  exact h1

theorem decB_digits : ∀ (f n : Nat), n < 10 ^ (f + 1) → (decB f n).data.toList = Lib.decDigits n
  | 0, n, h => by
    have h' : n < 10 := by simpa using h
    unfold decB
    rw [Lib.decDigits, dif_pos h']
    simp only [strOfNums, List.map_cons, List.map_nil]
    have e : (48 + (n : Int)).toNat = 48 + n := by omega
    rw [e]
  | f + 1, n, h => by
    unfold decB
    by_cases h10 : n < 10
    · rw [if_pos h10, Lib.decDigits, dif_pos h10]
      simp only [strOfNums, List.map_cons, List.map_nil]
      have e : (48 + (n : Int)).toNat = 48 + n := by omega
      rw [e]
    · rw [if_neg h10, Lib.decDigits, dif_neg h10, ByteArray.data_append, Array.toList_append, decB_digits f (n / 10) (by rw [Nat.pow_succ] at h; omega)]
      congr 1

set_option maxHeartbeats 1000000 in
set_option maxRecDepth 100000 in
theorem jwNumber_any (b f n : Nat) (hf : f ≤ 8) (hn : n < 10 ^ (f + 1)) (l : List UInt8) (w : World) (hT : Tens w) (h : Jw b l w) (hlen : l.length ≤ 1000000000) :
    Calls Tryd.prog 20 #[.pointer (some ⟨b, 0, none⟩), .int .i64 (n : Int)] w fun e w' => e = .returned (.tuple #[]) ∧ Jw b (l ++ (decB f n).data.toList) w' ∧ Below b w w' := by
  have hlt := h.2
  have hn' : n < 1000000000 := Nat.lt_of_lt_of_le hn (Nat.pow_le_pow_right (by omega) (by omega : f + 1 ≤ 9))
  have hsz := decB_size f n
  rw [decB_digits f n hn]
  have hz : (Lib.decDigits n).length ≤ 9 := by rw [← decB_digits f n hn]; exact Nat.le_trans hsz (by omega)
  clear hsz hn hf
  have bD : RowKit.Below w.heap.size w w.drew := (Below.refl _ w).drew
  have hTd := hT.below bD
  have hJd := h.below bD
  go_enter Tryd.func20, Tryd.ntmps20
  go_wp2_with fail
  go_region_held3 (fun _ => True) (trivial)
    (first
      | (go_at_call 38; refine (writeStringT_any liesJ b b _ _ w8 H8.1 Z8 Y8).mono ?_; rintro e w9 ⟨rfl, h9, b9, _⟩)
      | (go_at_call 39; refine (itoa_any n hn' _ hTd).mono ?_; rintro e w8 ⟨rfl, b8⟩; have H8 := hJd.below b8; have Z8 : (Lib.byteCells l).length + (⟨(Lib.decDigits n).toArray⟩ : ByteArray).size ≤ 140737488355328 := (by rw [Lib.byteCells_length]; show l.length + (Lib.decDigits n).length ≤ _; omega); have Y8 : b ≤ w8.heap.size := Nat.le_of_lt H8.2))
  go_end0
  refine ⟨rfl, ⟨?_, Nat.lt_of_lt_of_le H8.2 b9.size⟩, (bD.mono (Nat.le_of_lt hlt)).trans ((b8.mono (Nat.le_of_lt hJd.2)).trans b9)⟩
  rw [Lib.byteCells_append]
  exact h9

set_option maxHeartbeats 2000000 in
set_option maxRecDepth 100000 in
theorem jwMarked_any (b : Nat) (s : ByteArray) (hs : s.size ≤ 1000) (l : List UInt8) (w : World) (h : Jw b l w) (hlen : l.length ≤ 1000000000) :
    Calls Tryd.prog 22 #[.pointer (some ⟨b, 0, none⟩), .string s] w fun e w' => e = .returned (.tuple #[]) ∧ Jw b (l ++ (fieldT s).data.toList) w' ∧ Below b w w' := by
  go_enter Tryd.func22, Tryd.ntmps22
  go_wp2_with fail
  go_loopw [7] (fun i wr => ∃ k : Nat, k ≤ s.size ∧ i = .int .i64 k ∧ Jw b (l ++ (fieldPre s k).data.toList) wr ∧ RowKit.Below b w wr) (fun i _ => s.size - (RowKit.intOf i).toNat)
  case atStart => exact ⟨0, Nat.zero_le _, rfl, by simpa [fieldPre] using h, Below.refl _ _⟩
  case round =>
    obtain ⟨k, hk, rfl, hJ, hbw⟩ := hrel
    by_cases hlt : k < s.size
    · have hsz := fieldPre_size s k
      have hd : s.data[k]? = some s[k] := by rw [Array.getElem?_eq_getElem (by exact hlt)]; rfl
      have hP : Hid (fieldPre s (k + 1) = (if s.data[k]? = some 124 ∨ s.data[k]? = some 92 then fieldPre s k ++ ⟨#[92]⟩ else fieldPre s k) ++ s.extract k (k + 1)) := (show _ = _ from rfl)
      have hx : (s.extract k (k + 1)).data.toList = [s[k]] := by
        have e : (s.extract k (k + 1)).data.toList = (s.data.toList.drop k).take 1 := by simp [ByteArray.data_extract]
        rw [e, List.drop_eq_getElem_cons (by exact hlt)]
        rfl
      have hn : Lib.byteCells [s[k]] = [.int .u8 (s[k].toNat : Int)] := rfl
      have c124 : s.data[k]? = some 124 ↔ s[k].toNat = 124 := by
        rw [hd, Option.some.injEq]
        exact ⟨fun e => by rw [e]; rfl, fun e => UInt8.toNat_inj.1 e⟩
      have c92 : s.data[k]? = some 92 ↔ s[k].toNat = 92 := by
        rw [hd, Option.some.injEq]
        exact ⟨fun e => by rw [e]; rfl, fun e => UInt8.toNat_inj.1 e⟩
      have hFl : (fieldPre s k).data.toList.length ≤ 2000 := Nat.le_trans hsz (by omega)
      generalize fieldPre s k = F at *
      have e1 : IntKind.i64.wrap ((k : Int) + 1) = (k : Int) + 1 := by rw [IntKind.wrap_i64]; omega
      have hbl := hJ.2
      have hI := hJ.1
      have key1 : (s[k].toNat = 124 ∨ s[k].toNat = 92) → Hid (l ++ F.data.toList ++ [92] ++ [s[k]] = l ++ (fieldPre s (k + 1)).data.toList) := fun hc => by
        show _ = _
        rw [hP.out, if_pos (by rw [c124, c92]; exact hc), ByteArray.data_append, Array.toList_append, hx, ByteArray.data_append, Array.toList_append]
        simp
      have key0 : ¬ (s[k].toNat = 124 ∨ s[k].toNat = 92) → Hid (l ++ F.data.toList ++ [s[k]] = l ++ (fieldPre s (k + 1)).data.toList) := fun hc => by
        show _ = _
        rw [hP.out, if_neg (by rw [c124, c92]; exact hc), ByteArray.data_append, Array.toList_append, hx]
        simp
      clear hP c124 c92 hd hx hJ hsz
      by_cases h1 : s[k].toNat = 124
      · have g1 : ((s[k].toNat : Int) == 124) = true := by simp; omega
        have K := key1 (.inl h1)
        clear key1 key0 h1
        go_wp2_with (go_at_call 17; refine (writeByteT_any liesJ b b _ _ wr hI (by rw [Lib.byteCells_length, List.length_append]; omega) (by omega)).mono ?_; rintro e w8 ⟨rfl, h8, b8, _⟩)
        have hb8 := b8.size
        have J8 : Jw b (l ++ F.data.toList ++ [92]) w8 := ⟨by rw [Lib.byteCells_append]; exact h8, by omega⟩
        have bD : RowKit.Below w8.heap.size w8 w8.drew := (Below.refl _ w8).drew
        have I8 := (J8.below bD).1
        have Y8 : b ≤ w8.drew.heap.size := Nat.le_of_lt (J8.below bD).2
        clear h8
        go_region_held3 (fun _ => True) (trivial)
          (first
            | (go_at_call 17; refine (writeByteT_any liesJ b b _ (s[k].toNat : Int) _ I8 (by rw [Lib.byteCells_length, List.length_append, List.length_append]; show _ + 1 + 1 ≤ _; omega) Y8).mono ?_; rintro e w9 ⟨rfl, h9, b9, _⟩))
        go_wp2_with fail
        go_roundw
        case rel => exact ⟨k + 1, by omega, rfl, ⟨by rw [← K.out, Lib.byteCells_append, hn]; exact h9, by have := b9.size; have := bD.size; omega⟩, hbw.trans (b8.trans ((bD.mono (by omega)).trans b9))⟩
        case measure => simp [RowKit.intOf]; omega
      · have g1 : ((s[k].toNat : Int) == 124) = false := by simp; omega
        by_cases h2 : s[k].toNat = 92
        · have g2 : ((s[k].toNat : Int) == 92) = true := by simp; omega
          have K := key1 (.inr h2)
          clear key1 key0 h1 h2
          go_wp2_with (go_at_call 17; refine (writeByteT_any liesJ b b _ _ wr hI (by rw [Lib.byteCells_length, List.length_append]; omega) (by omega)).mono ?_; rintro e w8 ⟨rfl, h8, b8, _⟩)
          have hb8 := b8.size
          have J8 : Jw b (l ++ F.data.toList ++ [92]) w8 := ⟨by rw [Lib.byteCells_append]; exact h8, by omega⟩
          have bD : RowKit.Below w8.heap.size w8 w8.drew := (Below.refl _ w8).drew
          have I8 := (J8.below bD).1
          have Y8 : b ≤ w8.drew.heap.size := Nat.le_of_lt (J8.below bD).2
          clear h8
          go_region_held3 (fun _ => True) (trivial)
            (first
              | (go_at_call 17; refine (writeByteT_any liesJ b b _ (s[k].toNat : Int) _ I8 (by rw [Lib.byteCells_length, List.length_append, List.length_append]; show _ + 1 + 1 ≤ _; omega) Y8).mono ?_; rintro e w9 ⟨rfl, h9, b9, _⟩))
          go_wp2_with fail
          go_roundw
          case rel => exact ⟨k + 1, by omega, rfl, ⟨by rw [← K.out, Lib.byteCells_append, hn]; exact h9, by have := b9.size; have := bD.size; omega⟩, hbw.trans (b8.trans ((bD.mono (by omega)).trans b9))⟩
          case measure => simp [RowKit.intOf]; omega
        · have g2 : ((s[k].toNat : Int) == 92) = false := by simp; omega
          have K := key0 (by omega)
          clear key1 key0 h1 h2
          have J8 : Jw b (l ++ F.data.toList) wr := ⟨hI, hbl⟩
          have bD : RowKit.Below wr.heap.size wr wr.drew := (Below.refl _ wr).drew
          have I8 := (J8.below bD).1
          have Y8 : b ≤ wr.drew.heap.size := Nat.le_of_lt (J8.below bD).2
          go_wp2_with fail
          go_region_held3 (fun _ => True) (trivial)
            (first
              | (go_at_call 17; refine (writeByteT_any liesJ b b _ (s[k].toNat : Int) _ I8 (by rw [Lib.byteCells_length, List.length_append]; omega) Y8).mono ?_; rintro e w9 ⟨rfl, h9, b9, _⟩))
          go_wp2_with fail
          go_roundw
          case rel => exact ⟨k + 1, by omega, rfl, ⟨by rw [← K.out, Lib.byteCells_append, hn]; exact h9, by have := b9.size; have := bD.size; omega⟩, hbw.trans ((bD.mono (by omega)).trans b9)⟩
          case measure => simp [RowKit.intOf]; omega
    · obtain rfl : k = s.size := by omega
      go_wp2_with fail
      go_end0
      exact ⟨rfl, hJ, hbw⟩

set_option maxRecDepth 100000 in
set_option maxHeartbeats 8000000 in
theorem entryPut_any (r : ByteArray) (q k : Int) (u n t i f : ByteArray) (m : Int) (w : World) (hT : Tabs w) (hX : Tens w) (hr : r.size ≤ 9223372036854775800) (hu : u.size ≤ 9223372036854775800) (hn : n.size ≤ 9223372036854775800) (ht : t.size ≤ 9223372036854775800) (hi : i.size ≤ 9223372036854775800) (hf : f.size ≤ 9223372036854775800) :
    Calls Tryd.prog 10 #[entV r q k u n t i f m] w fun e w' => e = .returned (.string (eputT r q k u n t i f m)) ∧ Below w.heap.size w w' := by
  obtain ⟨W1, hW1⟩ : ∃ W1, W1 = w.alloc (.cells #[.string r, .int .i64 q, .int .i64 k, .string u, .string n, .string t, .string i, .string f, .int .i64 m] 23) := ⟨_, rfl⟩
  have b0 : RowKit.Below w.heap.size w W1 := by rw [hW1]; exact (Below.refl _ w).alloc (Nat.le_refl _) _
  have NEW := nine_new w 23 r q k u n t i f m
  rw [← hW1] at NEW
  have T1 : Tabs W1 := Utf8Tabs_below hT b0
  have hO := entryOk_any r q k u n t i f m W1 T1 hr hu hn ht hi hf
  unfold eputT
  obtain ⟨R, hR⟩ : ∃ R, entT r q k u n t i f m = R := ⟨_, rfl⟩
  rw [hR] at hO ⊢
  cases R
  · go_enter Tryd.func10, Tryd.ntmps10
    go_wp2_with first
      | (go_at_call 19; rw [← hW1]; go_fit hO; rintro e w1 ⟨rfl, b1⟩)
    go_ret
    exact ⟨rfl, b0.trans (b1.mono b0.size)⟩
  · obtain ⟨a1, a2, a3, zr, zu, zn, zt, zi, zf⟩ := entT_small hR
    obtain ⟨q', rfl⟩ := Int.eq_ofNat_of_zero_le a1.1
    obtain ⟨k', rfl⟩ := Int.eq_ofNat_of_zero_le a2.1
    obtain ⟨m', rfl⟩ := Int.eq_ofNat_of_zero_le a3.1
    obtain ⟨ur, uu⟩ : userT r = true ∧ userT u = true := by
      unfold entT at hR
      simp only [Bool.and_eq_true] at hR
      exact ⟨hR.1, hR.2.1⟩
    clear hR
    have ur : Hid (userT r = true) := ur
    have uu : Hid (userT u = true) := uu
    rw [if_pos rfl]
    simp only [Int.toNat_natCast]
    go_enter Tryd.func10, Tryd.ntmps10
    go_wp2_with first
      | (go_at_call 19; rw [← hW1]; go_fit hO; rintro e w1 ⟨rfl, b1⟩; have nn := NEW.out w1 b1; unfold Nine at nn; have hAlt : w.heap.size < w1.heap.size := (by have := b1.size; rw [hW1] at this; simp at this; omega))
    have b01 := b0.trans (b1.mono b0.size)
    have X1 := hX.below b01
    obtain ⟨b, hb⟩ : ∃ b, b = w1.heap.size := ⟨_, rfl⟩
    obtain ⟨vb, hvb⟩ : ∃ vb, vb = w1.alloc (.cells #[.pointer none, .slice none 0 0] 44) := ⟨_, rfl⟩
    have J0 : Jw b [] vb := by
      rw [hvb, hb]
      exact ⟨Lib.IsBuilderF.of (Lib.fresh_isBuilder 44 5 w1), by simp⟩
    have bvb : RowKit.Below b w1 vb := by rw [hvb, hb]; exact (Below.refl _ w1).alloc (Nat.le_refl _) _
    have LATER : Hid (∀ W : World, RowKit.Below b vb W → Nine W w.heap.size r q' k' u n t i f m' ∧ Tens W) := by
      intro W bb
      have c1 : RowKit.Below w1.heap.size w1 W := by rw [hb] at bb bvb; exact bvb.trans bb
      exact ⟨NEW.out W (b1.trans (c1.mono b1.size)), X1.below c1⟩
    have OUT : Hid (∀ W : World, RowKit.Below b vb W → RowKit.Below w.heap.size w W) := by
      intro W bb
      have c1 : RowKit.Below w1.heap.size w1 W := by rw [hb] at bb bvb; exact bvb.trans bb
      exact b01.trans (c1.mono b01.size)
    rw [← hvb, ← hb]
    clear hvb bvb X1 hAlt hb b01 nn NEW T1 hW1 hO hX hT b0 hr hu hn ht hi hf b1
    refine (jwNumber_any b 3 q' (by omega) (by omega) [] vb (LATER.out _ (Below.refl _ _)).2 J0 (by simp)).mono ?_
    rintro e W0 ⟨rfl, JJ0, B0⟩
    obtain ⟨L0, E0⟩ : ∃ L, [] ++ (decB 3 q').data.toList = L := ⟨_, rfl⟩
    have Z0 : L0.length ≤ 10 := by
      have := decB_size 3 q'
      rw [← E0]; show (decB 3 q').size ≤ _; omega
    rw [E0] at JJ0
    have HE0 : Hid ([] ++ (decB 3 q').data.toList = L0) := E0
    clear E0 J0
    go_wp2_with fail
    have bd1 : RowKit.Below W0.heap.size W0 W0.drew := (Below.refl _ _).drew
    have Jd1 := JJ0.below bd1
    have BD1 : RowKit.Below b vb W0.drew := B0.drew
    have C1 : Hid (∀ W : World, RowKit.Below b vb W → W.cell? ⟨w.heap.size, 2, none⟩ = some (.int .i64 (k' : Int))) := fun W bb => by
      have := (LATER.out W bb).1
      unfold Nine at this
      simp only [this]
    go_region_held3 (fun W => W.cell? ⟨w.heap.size, 2, none⟩ = some (.int .i64 (k' : Int)))
      (first | exact C1.out _ B1 | exact C1.out _ cn1 | exact C1.out _ BD1 | go_keep)
      (first
        | (go_at_call 20; refine (jwNumber_any b 0 k' (by omega) (by omega) _ _ (LATER.out _ cn1).2 Jn1 Ln1).mono ?_; rintro e W1 ⟨rfl, JJ1, m1⟩; have B1 := cn1.trans m1)
        | (go_at_call 21; refine (jwNext_any b _ _ Jd1 (by omega)).mono ?_; rintro e wn1 ⟨rfl, Jn1, n1⟩; have cn1 : RowKit.Below b vb wn1 := BD1.trans n1; have Ln1 : (L0 ++ [124]).length ≤ 1000000000 := (by rw [List.length_append]; show _ + 1 ≤ _; omega)))
    obtain ⟨L1, E1⟩ : ∃ L, L0 ++ [124] ++ (decB 0 k').data.toList = L := ⟨_, rfl⟩
    have Z1 : L1.length ≤ 12 := by
      have := decB_size 0 k'; have e9 : (decB 0 k').data.toList.length = (decB 0 k').size := rfl
      rw [← E1, List.length_append, List.length_append]; show _ + 1 + _ ≤ _; omega
    rw [E1] at JJ1
    have HE1 : Hid (L0 ++ [124] ++ (decB 0 k').data.toList = L1) := E1
    clear E1 bd1 Jd1 BD1 C1 Jn1 n1 cn1 Ln1 m1 JJ0 B0 Z0
    go_wp2_with fail
    have bd2 : RowKit.Below W1.heap.size W1 W1.drew := (Below.refl _ _).drew
    have Jd2 := JJ1.below bd2
    have BD2 : RowKit.Below b vb W1.drew := B1.drew
    have C2 : Hid (∀ W : World, RowKit.Below b vb W → W.cell? ⟨w.heap.size, 0, none⟩ = some (.string r)) := fun W bb => by
      have := (LATER.out W bb).1
      unfold Nine at this
      simp only [this]
    go_region_held3 (fun W => W.cell? ⟨w.heap.size, 0, none⟩ = some (.string r))
      (first | exact C2.out _ B2 | exact C2.out _ cn2 | exact C2.out _ BD2 | go_keep)
      (first
        | (go_at_call 22; refine (jwMarked_any b r (by omega) _ _ Jn2 Ln2).mono ?_; rintro e W2 ⟨rfl, JJ2, m2⟩; have B2 := cn2.trans m2)
        | (go_at_call 21; refine (jwNext_any b _ _ Jd2 (by omega)).mono ?_; rintro e wn2 ⟨rfl, Jn2, n2⟩; have cn2 : RowKit.Below b vb wn2 := BD2.trans n2; have Ln2 : (L1 ++ [124]).length ≤ 1000000000 := (by rw [List.length_append]; show _ + 1 ≤ _; omega)))
    obtain ⟨L2, E2⟩ : ∃ L, L1 ++ [124] ++ (fieldT r).data.toList = L := ⟨_, rfl⟩
    have Z2 : L2.length ≤ 213 := by
      have := fieldPre_size r r.size; have e9 : (fieldT r).data.toList.length = (fieldPre r r.size).size := rfl
      rw [← E2, List.length_append, List.length_append]; show _ + 1 + _ ≤ _; omega
    rw [E2] at JJ2
    have HE2 : Hid (L1 ++ [124] ++ (fieldT r).data.toList = L2) := E2
    clear E2 bd2 Jd2 BD2 C2 Jn2 n2 cn2 Ln2 m2 JJ1 B1 Z1
    go_wp2_with fail
    have bd3 : RowKit.Below W2.heap.size W2 W2.drew := (Below.refl _ _).drew
    have Jd3 := JJ2.below bd3
    have BD3 : RowKit.Below b vb W2.drew := B2.drew
    have C3 : Hid (∀ W : World, RowKit.Below b vb W → W.cell? ⟨w.heap.size, 3, none⟩ = some (.string u)) := fun W bb => by
      have := (LATER.out W bb).1
      unfold Nine at this
      simp only [this]
    go_region_held3 (fun W => W.cell? ⟨w.heap.size, 3, none⟩ = some (.string u))
      (first | exact C3.out _ B3 | exact C3.out _ cn3 | exact C3.out _ BD3 | go_keep)
      (first
        | (go_at_call 22; refine (jwMarked_any b u (by omega) _ _ Jn3 Ln3).mono ?_; rintro e W3 ⟨rfl, JJ3, m3⟩; have B3 := cn3.trans m3)
        | (go_at_call 21; refine (jwNext_any b _ _ Jd3 (by omega)).mono ?_; rintro e wn3 ⟨rfl, Jn3, n3⟩; have cn3 : RowKit.Below b vb wn3 := BD3.trans n3; have Ln3 : (L2 ++ [124]).length ≤ 1000000000 := (by rw [List.length_append]; show _ + 1 ≤ _; omega)))
    obtain ⟨L3, E3⟩ : ∃ L, L2 ++ [124] ++ (fieldT u).data.toList = L := ⟨_, rfl⟩
    have Z3 : L3.length ≤ 414 := by
      have := fieldPre_size u u.size; have e9 : (fieldT u).data.toList.length = (fieldPre u u.size).size := rfl
      rw [← E3, List.length_append, List.length_append]; show _ + 1 + _ ≤ _; omega
    rw [E3] at JJ3
    have HE3 : Hid (L2 ++ [124] ++ (fieldT u).data.toList = L3) := E3
    clear E3 bd3 Jd3 BD3 C3 Jn3 n3 cn3 Ln3 m3 JJ2 B2 Z2
    go_wp2_with fail
    have bd4 : RowKit.Below W3.heap.size W3 W3.drew := (Below.refl _ _).drew
    have Jd4 := JJ3.below bd4
    have BD4 : RowKit.Below b vb W3.drew := B3.drew
    have C4 : Hid (∀ W : World, RowKit.Below b vb W → W.cell? ⟨w.heap.size, 4, none⟩ = some (.string n)) := fun W bb => by
      have := (LATER.out W bb).1
      unfold Nine at this
      simp only [this]
    go_region_held3 (fun W => W.cell? ⟨w.heap.size, 4, none⟩ = some (.string n))
      (first | exact C4.out _ B4 | exact C4.out _ cn4 | exact C4.out _ BD4 | go_keep)
      (first
        | (go_at_call 22; refine (jwMarked_any b n (by omega) _ _ Jn4 Ln4).mono ?_; rintro e W4 ⟨rfl, JJ4, m4⟩; have B4 := cn4.trans m4)
        | (go_at_call 21; refine (jwNext_any b _ _ Jd4 (by omega)).mono ?_; rintro e wn4 ⟨rfl, Jn4, n4⟩; have cn4 : RowKit.Below b vb wn4 := BD4.trans n4; have Ln4 : (L3 ++ [124]).length ≤ 1000000000 := (by rw [List.length_append]; show _ + 1 ≤ _; omega)))
    obtain ⟨L4, E4⟩ : ∃ L, L3 ++ [124] ++ (fieldT n).data.toList = L := ⟨_, rfl⟩
    have Z4 : L4.length ≤ 615 := by
      have := fieldPre_size n n.size; have e9 : (fieldT n).data.toList.length = (fieldPre n n.size).size := rfl
      rw [← E4, List.length_append, List.length_append]; show _ + 1 + _ ≤ _; omega
    rw [E4] at JJ4
    have HE4 : Hid (L3 ++ [124] ++ (fieldT n).data.toList = L4) := E4
    clear E4 bd4 Jd4 BD4 C4 Jn4 n4 cn4 Ln4 m4 JJ3 B3 Z3
    go_wp2_with fail
    have bd5 : RowKit.Below W4.heap.size W4 W4.drew := (Below.refl _ _).drew
    have Jd5 := JJ4.below bd5
    have BD5 : RowKit.Below b vb W4.drew := B4.drew
    have C5 : Hid (∀ W : World, RowKit.Below b vb W → W.cell? ⟨w.heap.size, 5, none⟩ = some (.string t)) := fun W bb => by
      have := (LATER.out W bb).1
      unfold Nine at this
      simp only [this]
    go_region_held3 (fun W => W.cell? ⟨w.heap.size, 5, none⟩ = some (.string t))
      (first | exact C5.out _ B5 | exact C5.out _ cn5 | exact C5.out _ BD5 | go_keep)
      (first
        | (go_at_call 22; refine (jwMarked_any b t (by omega) _ _ Jn5 Ln5).mono ?_; rintro e W5 ⟨rfl, JJ5, m5⟩; have B5 := cn5.trans m5)
        | (go_at_call 21; refine (jwNext_any b _ _ Jd5 (by omega)).mono ?_; rintro e wn5 ⟨rfl, Jn5, n5⟩; have cn5 : RowKit.Below b vb wn5 := BD5.trans n5; have Ln5 : (L4 ++ [124]).length ≤ 1000000000 := (by rw [List.length_append]; show _ + 1 ≤ _; omega)))
    obtain ⟨L5, E5⟩ : ∃ L, L4 ++ [124] ++ (fieldT t).data.toList = L := ⟨_, rfl⟩
    have Z5 : L5.length ≤ 816 := by
      have := fieldPre_size t t.size; have e9 : (fieldT t).data.toList.length = (fieldPre t t.size).size := rfl
      rw [← E5, List.length_append, List.length_append]; show _ + 1 + _ ≤ _; omega
    rw [E5] at JJ5
    have HE5 : Hid (L4 ++ [124] ++ (fieldT t).data.toList = L5) := E5
    clear E5 bd5 Jd5 BD5 C5 Jn5 n5 cn5 Ln5 m5 JJ4 B4 Z4
    go_wp2_with fail
    have bd6 : RowKit.Below W5.heap.size W5 W5.drew := (Below.refl _ _).drew
    have Jd6 := JJ5.below bd6
    have BD6 : RowKit.Below b vb W5.drew := B5.drew
    have C6 : Hid (∀ W : World, RowKit.Below b vb W → W.cell? ⟨w.heap.size, 6, none⟩ = some (.string i)) := fun W bb => by
      have := (LATER.out W bb).1
      unfold Nine at this
      simp only [this]
    go_region_held3 (fun W => W.cell? ⟨w.heap.size, 6, none⟩ = some (.string i))
      (first | exact C6.out _ B6 | exact C6.out _ cn6 | exact C6.out _ BD6 | go_keep)
      (first
        | (go_at_call 22; refine (jwMarked_any b i (by omega) _ _ Jn6 Ln6).mono ?_; rintro e W6 ⟨rfl, JJ6, m6⟩; have B6 := cn6.trans m6)
        | (go_at_call 21; refine (jwNext_any b _ _ Jd6 (by omega)).mono ?_; rintro e wn6 ⟨rfl, Jn6, n6⟩; have cn6 : RowKit.Below b vb wn6 := BD6.trans n6; have Ln6 : (L5 ++ [124]).length ≤ 1000000000 := (by rw [List.length_append]; show _ + 1 ≤ _; omega)))
    obtain ⟨L6, E6⟩ : ∃ L, L5 ++ [124] ++ (fieldT i).data.toList = L := ⟨_, rfl⟩
    have Z6 : L6.length ≤ 1017 := by
      have := fieldPre_size i i.size; have e9 : (fieldT i).data.toList.length = (fieldPre i i.size).size := rfl
      rw [← E6, List.length_append, List.length_append]; show _ + 1 + _ ≤ _; omega
    rw [E6] at JJ6
    have HE6 : Hid (L5 ++ [124] ++ (fieldT i).data.toList = L6) := E6
    clear E6 bd6 Jd6 BD6 C6 Jn6 n6 cn6 Ln6 m6 JJ5 B5 Z5
    go_wp2_with fail
    have bd7 : RowKit.Below W6.heap.size W6 W6.drew := (Below.refl _ _).drew
    have Jd7 := JJ6.below bd7
    have BD7 : RowKit.Below b vb W6.drew := B6.drew
    have C7 : Hid (∀ W : World, RowKit.Below b vb W → W.cell? ⟨w.heap.size, 7, none⟩ = some (.string f)) := fun W bb => by
      have := (LATER.out W bb).1
      unfold Nine at this
      simp only [this]
    go_region_held3 (fun W => W.cell? ⟨w.heap.size, 7, none⟩ = some (.string f))
      (first | exact C7.out _ B7 | exact C7.out _ cn7 | exact C7.out _ BD7 | go_keep)
      (first
        | (go_at_call 22; refine (jwMarked_any b f (by omega) _ _ Jn7 Ln7).mono ?_; rintro e W7 ⟨rfl, JJ7, m7⟩; have B7 := cn7.trans m7)
        | (go_at_call 21; refine (jwNext_any b _ _ Jd7 (by omega)).mono ?_; rintro e wn7 ⟨rfl, Jn7, n7⟩; have cn7 : RowKit.Below b vb wn7 := BD7.trans n7; have Ln7 : (L6 ++ [124]).length ≤ 1000000000 := (by rw [List.length_append]; show _ + 1 ≤ _; omega)))
    obtain ⟨L7, E7⟩ : ∃ L, L6 ++ [124] ++ (fieldT f).data.toList = L := ⟨_, rfl⟩
    have Z7 : L7.length ≤ 1218 := by
      have := fieldPre_size f f.size; have e9 : (fieldT f).data.toList.length = (fieldPre f f.size).size := rfl
      rw [← E7, List.length_append, List.length_append]; show _ + 1 + _ ≤ _; omega
    rw [E7] at JJ7
    have HE7 : Hid (L6 ++ [124] ++ (fieldT f).data.toList = L7) := E7
    clear E7 bd7 Jd7 BD7 C7 Jn7 n7 cn7 Ln7 m7 JJ6 B6 Z6
    go_wp2_with fail
    have bd8 : RowKit.Below W7.heap.size W7 W7.drew := (Below.refl _ _).drew
    have Jd8 := JJ7.below bd8
    have BD8 : RowKit.Below b vb W7.drew := B7.drew
    have C8 : Hid (∀ W : World, RowKit.Below b vb W → W.cell? ⟨w.heap.size, 8, none⟩ = some (.int .i64 (m' : Int))) := fun W bb => by
      have := (LATER.out W bb).1
      unfold Nine at this
      simp only [this]
    go_region_held3 (fun W => W.cell? ⟨w.heap.size, 8, none⟩ = some (.int .i64 (m' : Int)))
      (first | exact C8.out _ B8 | exact C8.out _ cn8 | exact C8.out _ BD8 | go_keep)
      (first
        | (go_at_call 20; refine (jwNumber_any b 0 m' (by omega) (by omega) _ _ (LATER.out _ cn8).2 Jn8 Ln8).mono ?_; rintro e W8 ⟨rfl, JJ8, m8⟩; have B8 := cn8.trans m8)
        | (go_at_call 21; refine (jwNext_any b _ _ Jd8 (by omega)).mono ?_; rintro e wn8 ⟨rfl, Jn8, n8⟩; have cn8 : RowKit.Below b vb wn8 := BD8.trans n8; have Ln8 : (L7 ++ [124]).length ≤ 1000000000 := (by rw [List.length_append]; show _ + 1 ≤ _; omega)))
    obtain ⟨L8, E8⟩ : ∃ L, L7 ++ [124] ++ (decB 0 m').data.toList = L := ⟨_, rfl⟩
    have Z8 : L8.length ≤ 1220 := by
      have := decB_size 0 m'; have e9 : (decB 0 m').data.toList.length = (decB 0 m').size := rfl
      rw [← E8, List.length_append, List.length_append]; show _ + 1 + _ ≤ _; omega
    rw [E8] at JJ8
    have HE8 : Hid (L7 ++ [124] ++ (decB 0 m').data.toList = L8) := E8
    clear E8 bd8 Jd8 BD8 C8 Jn8 n8 cn8 Ln8 m8 JJ7 B7 Z7
    go_wp2_with fail
    have hne : L8 ≠ [] := by
      rw [← HE8.out]; simp
    refine (stringT_some liesJ b b L8 _ JJ8.1 hne).mono ?_
    rintro e W9 ⟨rfl, _, b9, _⟩
    go_wp2_with fail
    go_ret
    refine ⟨ret_str ?_, OUT.out _ (B8.trans b9)⟩
    have key : (putT r q' k' u n t i f m').data.toList = L8 := by
      rw [← HE8.out, ← HE7.out, ← HE6.out, ← HE5.out, ← HE4.out, ← HE3.out, ← HE2.out, ← HE1.out, ← HE0.out, fieldT_user ur.out, fieldT_user uu.out]
      unfold putT
      simp only [ByteArray.data_append, Array.toList_append, List.nil_append, List.append_assoc]
    rw [← key]
end Go.Proofs.YtjknjlaabppooaaDoor.Hub
