/-
  How the program cuts a text at its bars.
-/
import Derived.Test.YtjknjlaabppooaaDoorFieldsS
import Derived.Test.YtjknjlaabppooaaDoorBuilderT
import Derived.Deep.RegionHeld3
import Derived.Lib.OwnKind
namespace Go.Proofs.YtjknjlaabppooaaDoor.Hub
open Go.RowKit Go.Lib
set_option linter.unusedVariables false

theorem liesBB : LiesB 36 := ⟨liesBuilder, by decide⟩

/-- A list of texts stands while a builder is written. -/
theorem own_others {w w' : World} {base b : Nat} {v : Value} {n : Nat} {xs : List Value} {C : Array Value} {fz : Nat × Nat} (h : w.ownsRow base 9 1 v n xs) (hb : w.heap[b]? = some (.cells C 36 fz)) (hk : Lib.OthersKept 5 (some b) w w') : w'.ownsRow base 9 1 v n xs := by
  refine ⟨h.1, ?_⟩
  rcases h.2 with hn | ⟨g, cap, cur, hv, hbg, hg, rest⟩
  · exact .inl hn
  · refine .inr ⟨g, cap, cur, hv, hbg, hk g _ hg ?_ ?_, rest⟩
    · intro e
      cases e
      rw [hb] at hg
      cases hg
    · intro c fz' e
      cases e
/-- A builder stands while a list of texts grows. -/
theorem isB_grown {w w' : World} {B b : Nat} {bs : List Value} {row : Option Nat} (h : Lib.IsBuilderF 36 5 B b bs w) (hg : w.grownBy w' row) (hr : ∀ g, row = some g → ∃ c fz, w.heap[g]? = some (.cells c 9 fz)) : Lib.IsBuilderF 36 5 B b bs w' := by
  have key : ∀ p, Lib.BuilderAtF 36 5 B b p bs w → Lib.BuilderAtF 36 5 B b p bs w' := fun p h => by
    have hlt := h.lt
    obtain ⟨hB, v, hv, hown, hne⟩ := h
    refine ⟨hB, v, (hg.block b hlt ?_).trans hv, hown.kept hg ?_, hne⟩
    · intro e
      obtain ⟨c, fz, hc⟩ := hr b e.symm
      rw [hv] at hc
      cases hc
    · cases hq : v.ownBlock with
      | none => exact .inl rfl
      | some q =>
        right
        intro e
        obtain ⟨c, fz, hc⟩ := Lib.ownsRowF_kind hown q hq
        obtain ⟨c2, fz2, hc2⟩ := hr q e.symm
        rw [hc] at hc2
        cases hc2
  exact h.elim (fun x => .inl (key _ x)) (fun x => .inr (key _ x))
theorem isB_block {w : World} {B b : Nat} {bs : List Value} (h : Lib.IsBuilderF 36 5 B b bs w) : ∃ C, w.heap[b]? = some (.cells C 36 (0, 0)) := by
  rcases h with h | h
  · obtain ⟨hB, v, hv, hown, hne⟩ := h; exact ⟨_, hv⟩
  · obtain ⟨hB, v, hv, hown, hne⟩ := h; exact ⟨_, hv⟩
theorem isB_lt {w : World} {B b : Nat} {bs : List Value} (h : Lib.IsBuilderF 36 5 B b bs w) : b < w.heap.size := by
  rcases h with h | h
  · exact h.lt
  · exact h.lt

set_option maxRecDepth 100000 in
set_option maxHeartbeats 1000000 in
theorem reset_any (B b : Nat) (bs : List Value) (w : World) (h : Lib.IsBuilderF 36 5 B b bs w) :
    Calls Tryd.prog 16 #[.pointer (some ⟨b, 0, none⟩)] w fun e w' => e = .returned (.tuple #[]) ∧ (Lib.IsBuilderF 36 5 B b [] w' ∧ Below B w w' ∧ Lib.OthersKept 5 (some b) w w') := by
  obtain ⟨p, hAt⟩ : ∃ p, Lib.BuilderAtF 36 5 B b p bs w := by
    rcases h with h | h
    · exact ⟨_, h⟩
    · exact ⟨_, h⟩
  have hU := hAt.used (.pointer none)
  obtain ⟨hB, v, hbk, hown, hne⟩ := hAt
  obtain ⟨hB2, v2, hbk2, hown2, hne2⟩ := hU
  have c0 : w.cell? ⟨b, 0, none⟩ = some p := by rw [Lib.cell_of_heap hbk]; rfl
  have c1 : w.cell? ⟨b, 1, none⟩ = some v := by rw [Lib.cell_of_heap hbk]; rfl
  have f0 : w.frozen? ⟨b, 0, none⟩ = false := Lib.frozen_of_heap hbk 0
  have f1 : w.frozen? ⟨b, 1, none⟩ = false := Lib.frozen_of_heap hbk 1
  go_enter Tryd.func16, Tryd.ntmps16
  go_wp2_with fail
  go_end0
  refine ⟨rfl, Or.inl ?_, ?_, ?_⟩
  · exact Lib.BuilderAtF.put (T := 36) (e := 5) hB hbk2 (bs' := []) (World.ownsRowF_nil _ _ _ _) (by decide)
  · exact ((Below.refl B w).setCell (p := ⟨b, 0, none⟩) hB _).setCell (p := ⟨b, 1, none⟩) hB _
  · exact ((Lib.OthersKept.refl _ _ w).setCell ⟨b, 0, none⟩ rfl _).setCell ⟨b, 1, none⟩ rfl _

set_option maxRecDepth 100000 in
set_option maxHeartbeats 4000000 in
theorem unmarkedParts_any (s : ByteArray) (hs : s.size ≤ 1048576) (w : World) :
    Calls Tryd.prog 8 #[.string s] w fun e w' => Parts w.heap.size (fldL [] s.data.toList) w e w' := by
  obtain ⟨R, hR⟩ : ∃ R, fldL [] s.data.toList = R := ⟨_, rfl⟩
  have HR : Hid (fldL [] s.data.toList = R) := hR
  rw [hR]
  clear hR
  obtain ⟨i0, hi, hz0, hz1, hz2⟩ := info_parts info_str
  go_enter Tryd.func8, Tryd.ntmps8
  go_wp2_with fail
  go_loopw [3, 5] (fun o i wr => ∃ (ps : List (List UInt8)) (acc : List UInt8) (k : Nat), k ≤ s.size ∧ i = .int .i64 k ∧ ps.length ≤ k ∧ acc.length ≤ k ∧ wr.ownsRow w.heap.size 9 1 o ps.length (strs ps) ∧ Lib.IsBuilderF 36 5 w.heap.size w.heap.size (Lib.byteCells acc) wr ∧ Hid (ps ++ fldL acc (s.data.toList.drop k) = R) ∧ RowKit.Below w.heap.size w wr) (fun _ i _ => s.size - (RowKit.intOf i).toNat)
  case atStart =>
    refine ⟨[], [], 0, by omega, rfl, by simp, by simp, World.ownsRow_nil _ _ _ _, Lib.IsBuilderF.of (Lib.fresh_isBuilder 36 5 w), ?_, (Below.refl _ w).alloc (Nat.le_refl _) _⟩
    show [] ++ fldL [] (s.data.toList.drop 0) = R
    rw [List.nil_append, List.drop_zero]
    exact HR.out
  case round =>
    obtain ⟨ps, acc, k, hk, rfl, hpk, hak, hown, hI, HA, hnx⟩ := hrel
    have hblt := isB_lt hI
    by_cases hlt : k < s.size
    · by_cases h1 : s[k] = 124
      · have g1 : ((s[k].toNat : Int) == 124) = true := by rw [h1]; rfl
        have HB : Hid (ps ++ [acc] ++ fldL [] (s.data.toList.drop (k + 1)) = R) := by
          have := HA.out
          rw [drop_cons s k hlt, h1, fld_bar] at this
          show _ = R
          rw [← this, List.append_assoc]
          rfl
        clear HA HR h1
        go_wp2_with (first
          | (go_at_call 16; refine (reset_any w.heap.size w.heap.size _ _ hI6).mono ?_; rintro e w7 ⟨rfl, h7, b7, k7⟩)
          | (at_builtin; refine wpList_append_own _ rfl _ _ 28 rfl w.heap.size 9 i0 (.string ⟨#[]⟩) 1 16 Tryd.underlying28 hi hz0 hz1 hz2 rfl (by decide) _ _ _ rfl (hO5.alloc _) ⟨w5.heap.size, 0, none⟩ 1 1 [.string ⟨acc.toArray⟩] rfl rfl (cell_one _ _) (one_cell _) (le_maxLen _ (by omega)) (by omega) hZ5 ?_; intro v' w6 hown' hgrow hnil; have hI6 := isB_grown hI5a hgrow hK5)
          | (go_at_call 15; refine (Tryd.Builder_String_any_k w.heap.size w.heap.size acc _ hI (by omega)).mono ?_; rintro e w5 ⟨rfl, hI5, b5, k5⟩; obtain ⟨C, hC⟩ := isB_block hI; have hO5 := own_others hown hC k5; have hI5a := hI5.alloc (.cells #[.string ⟨acc.toArray⟩] 9); have hK5 := ownsRow_kind (hO5.alloc (.cells #[.string ⟨acc.toArray⟩] 9)); have hZ5 : w.heap.size ≤ (w5.alloc (.cells #[.string ⟨acc.toArray⟩] 9)).heap.size := (by have := isB_lt hI5; simp; omega)))
        have hbA : RowKit.Below w.heap.size w (w5.alloc (.cells #[.string ⟨acc.toArray⟩] 9)) := (hnx.trans b5).alloc (by have := isB_lt hI5; omega) _
        have hbG := hbA.grown hgrow hZ5 (fun q hq => (hO5.lt q hq).1)
        obtain ⟨C6, hC6⟩ := isB_block hI6
        have hO7 := own_others hown' hC6 k7
        clear hown hI hI5 hI5a hO5 hgrow hown'
        go_roundw
        case rel =>
          refine ⟨ps ++ [acc], [], k + 1, by omega, by go_num, by rw [List.length_append]; show _ + 1 ≤ _; omega, by simp, ?_, h7, HB, hbG.trans b7⟩
          rw [strs_snoc, List.length_append]
          exact hO7
        case measure => simp [RowKit.intOf]; omega
      · have g1 : ((s[k].toNat : Int) == 124) = false := beq_eq_false_iff_ne.2 (fun e => h1 (UInt8.toNat_inj.1 (by have : (124 : UInt8).toNat = 124 := rfl; omega)))
        obtain ⟨k1, hk1⟩ : ∃ k1, k1 = k + 1 := ⟨_, rfl⟩
        have e3 : IntKind.i64.wrap ((k : Int) + 1) = (k1 : Int) := by rw [IntKind.wrap_i64]; omega
        by_cases h2 : s[k] = 92
        · have g2 : ((s[k].toNat : Int) == 92) = true := by rw [h2]; rfl
          by_cases h3 : k1 < s.size
          · have h3I : (k1 : Int) < (s.size : Int) := by omega
            have HB0 : ps ++ fldL (acc ++ [s[k1]]) (s.data.toList.drop (k1 + 1)) = R := by
              subst hk1
              have := HA.out
              rw [drop_cons s k hlt, drop_cons s (k + 1) h3, h2, fld_esc] at this
              exact this
            obtain ⟨k2, hk2⟩ : ∃ k2, k2 = k1 + 1 := ⟨_, rfl⟩
            have e4 : IntKind.i64.wrap ((k1 : Int) + 1) = (k2 : Int) := by rw [IntKind.wrap_i64]; omega
            rw [← hk2] at HB0
            have HB : Hid (ps ++ fldL (acc ++ [s[k1]]) (s.data.toList.drop k2) = R) := HB0
            have z9 : s.size - k2 < s.size - k ∧ k2 ≤ s.size ∧ k + 1 ≤ k2 ∧ k1 < k2 := by omega
            clear HA HR h1 h2 HB0 hk2 hk1
            go_wp2_with (go_at_call 17; refine (writeByteT_any liesBB w.heap.size w.heap.size _ _ _ hI (by rw [Lib.byteCells_length]; omega) (by omega)).mono ?_; rintro e w8 ⟨rfl, h8, b8, k8⟩)
            obtain ⟨C, hC⟩ := isB_block hI
            have hO8 := own_others hown hC k8
            clear hown hI
            go_roundw
            case rel =>
              refine ⟨ps, acc ++ [s[k1]], k2, by omega, rfl, by omega, by rw [List.length_append]; show _ + 1 ≤ _; omega, hO8, ?_, HB, hnx.trans b8⟩
              rw [Lib.byteCells_append]
              exact h8
            case measure => simp [RowKit.intOf]; omega
          · have h3I : ¬ (k1 : Int) < (s.size : Int) := by omega
            have HB : Hid (ps ++ fldL (acc ++ [s[k]]) (s.data.toList.drop k1) = R) := by
              have := HA.out
              have hd : s.data.toList.drop k1 = [] := List.drop_eq_nil_of_le (show s.data.toList.length ≤ k1 by have : s.data.toList.length = s.size := rfl; omega)
              rw [drop_cons s k hlt, ← hk1, hd, h2, fld_end] at this
              show _ = R
              rw [hd, h2]
              exact this
            have z9 : s.size - k1 < s.size - k ∧ k1 ≤ s.size ∧ k + 1 ≤ k1 := by omega
            clear HA HR h1 h2 hk1
            go_wp2_with (go_at_call 17; refine (writeByteT_any liesBB w.heap.size w.heap.size _ _ _ hI (by rw [Lib.byteCells_length]; omega) (by omega)).mono ?_; rintro e w8 ⟨rfl, h8, b8, k8⟩)
            obtain ⟨C, hC⟩ := isB_block hI
            have hO8 := own_others hown hC k8
            clear hown hI
            go_roundw
            case rel =>
              refine ⟨ps, acc ++ [s[k]], k1, by omega, rfl, by omega, by rw [List.length_append]; show _ + 1 ≤ _; omega, hO8, ?_, HB, hnx.trans b8⟩
              rw [Lib.byteCells_append]
              exact h8
            case measure => simp [RowKit.intOf]; omega
        · have g2 : ((s[k].toNat : Int) == 92) = false := beq_eq_false_iff_ne.2 (fun e => h2 (UInt8.toNat_inj.1 (by have : (92 : UInt8).toNat = 92 := rfl; omega)))
          have HB : Hid (ps ++ fldL (acc ++ [s[k]]) (s.data.toList.drop k1) = R) := by
            have := HA.out
            rw [drop_cons s k hlt, fld_oth _ _ _ h1 h2, ← hk1] at this
            exact this
          have z9 : s.size - k1 < s.size - k ∧ k1 ≤ s.size ∧ k + 1 ≤ k1 := by omega
          clear HA HR h1 h2 hk1
          go_wp2_with (go_at_call 17; refine (writeByteT_any liesBB w.heap.size w.heap.size _ _ _ hI (by rw [Lib.byteCells_length]; omega) (by omega)).mono ?_; rintro e w8 ⟨rfl, h8, b8, k8⟩)
          obtain ⟨C, hC⟩ := isB_block hI
          have hO8 := own_others hown hC k8
          clear hown hI
          go_roundw
          case rel =>
            refine ⟨ps, acc ++ [s[k]], k1, by omega, rfl, by omega, by rw [List.length_append]; show _ + 1 ≤ _; omega, hO8, ?_, HB, hnx.trans b8⟩
            rw [Lib.byteCells_append]
            exact h8
          case measure => simp [RowKit.intOf]; omega
    · obtain rfl : k = s.size := by omega
      have HF : ps ++ [acc] = R := by
        have := HA.out
        rw [List.drop_eq_nil_of_le (show s.data.toList.length ≤ s.size from Nat.le_refl _)] at this
        exact this
      clear HA HR
      go_wp2_with (first
          | (at_builtin; refine wpList_append_own _ rfl _ _ 28 rfl w.heap.size 9 i0 (.string ⟨#[]⟩) 1 16 Tryd.underlying28 hi hz0 hz1 hz2 rfl (by decide) _ _ _ rfl (hO5.alloc _) ⟨w5.heap.size, 0, none⟩ 1 1 [.string ⟨acc.toArray⟩] rfl rfl (cell_one _ _) (one_cell _) (le_maxLen _ (by omega)) (by omega) hZ5 ?_; intro v' w6 hown' hgrow hnil)
          | (go_at_call 15; refine (Tryd.Builder_String_any_k w.heap.size w.heap.size acc _ hI (by omega)).mono ?_; rintro e w5 ⟨rfl, hI5, b5, k5⟩; obtain ⟨C, hC⟩ := isB_block hI; have hO5 := own_others hown hC k5; have hZ5 : w.heap.size ≤ (w5.alloc (.cells #[.string ⟨acc.toArray⟩] 9)).heap.size := (by have := isB_lt hI5; simp; omega)))
      have hbA : RowKit.Below w.heap.size w (w5.alloc (.cells #[.string ⟨acc.toArray⟩] 9)) := (hnx.trans b5).alloc (by have := isB_lt hI5; omega) _
      have hbG := hbA.grown hgrow hZ5 (fun q hq => (hO5.lt q hq).1)
      obtain ⟨g', cap', rfl⟩ := ownsRow_succ hown'
      go_wp2_with fail
      go_ret
      subst HF
      refine ⟨g', cap', by rw [List.length_append]; rfl, ?_, hbG⟩
      rw [strs_snoc, List.length_append]
      exact hown'
end Go.Proofs.YtjknjlaabppooaaDoor.Hub
