/-
  The program's entities, entityByte, figuresSign and entitySign: each answers the plain function that is named, of names of at most eight bytes (where the variable strconv.ErrSyntax holds an error).
-/
import Derived.Test.YtbcledidadjddaaDoorEntSpec
import Derived.Maps.Own
import Derived.Maps.OwnOps
import Derived.Maps.OwnSet
import Derived.RangeFuncOwn
namespace Go.Proofs.YtbcledidadjddaaDoor.Hub
open Go.RowKit Go.Maps Go.Proofs
set_option linter.unusedVariables false

set_option maxRecDepth 100000 in
set_option maxHeartbeats 1000000 in
theorem entityByte_any (c : Nat) (w : World) :
    Calls Tryd.prog 99 #[.int .u8 (c : Int)] w fun e w' => e = .returned (.bool (entB c)) ∧ w' = w := by
  rcases (by omega : c < 35 ∨ c = 35 ∨ (35 < c ∧ c < 48) ∨ (48 ≤ c ∧ c ≤ 57) ∨ (57 < c ∧ c < 65) ∨ (65 ≤ c ∧ c ≤ 70) ∨ (70 < c ∧ c < 97) ∨ (97 ≤ c ∧ c ≤ 122) ∨ 122 < c) with h | h | h | h | h | h | h | h | h
  all_goals
    go_enter Tryd.func99, Tryd.ntmps99
    go_wp2
  all_goals
    go_ret
    exact ⟨ret_bool (by unfold entB; first | (simp; done) | (simp; omega) | (rw [Bool.eq_iff_iff]; simp; omega)), rfl⟩

/-- The map that the program makes of the five names. -/
def entD : DataW Unit := (((((DataW.map []).put (.string [97, 109, 112]) (.lit (.int .i64 38))).put (.string [108, 116]) (.lit (.int .i64 60))).put (.string [103, 116]) (.lit (.int .i64 62))).put (.string [113, 117, 111, 116]) (.lit (.int .i64 34))).put (.string [97, 112, 111, 115]) (.lit (.int .i64 39))

theorem keyed : Keyed Tryd.prog 9 := string_keyed Tryd.underlying9
theorem keyS (s : ByteArray) (h : s.size ≤ maxLen) : keyOf Tryd.prog 9 (.string s) = some (.string s.data.toList) := WideMaps.keyOf_string_mk Tryd.underlying9 h

set_option maxRecDepth 100000 in
set_option maxHeartbeats 2000000 in
theorem entities_any (w : World) :
    Calls Tryd.prog 106 #[] w fun e w' => e = .returned (.map (some w.heap.size)) ∧ w'.ownsMap Tryd.prog 9 (plainElem Tryd.prog 3) w.heap.size 5 entD ∧ Below w.heap.size w w' := by
  have hmm := @run_makeMap Tryd.prog
  have o0 := World.ownsMap_made (H := Unit) w Tryd.prog 9 (plainElem Tryd.prog 3)
  obtain ⟨w1, r1, o1, g1⟩ := o0.update keyed Tryd.underlying111 (by decide) (key := .string ⟨#[97, 109, 112]⟩) (val := .int .i64 38) (keyS _ (by decide)) (plainElem_int Tryd.underlying3 (by decide))
  obtain ⟨w2, r2, o2, g2⟩ := o1.update keyed Tryd.underlying111 (by decide) (key := .string ⟨#[108, 116]⟩) (val := .int .i64 60) (keyS _ (by decide)) (plainElem_int Tryd.underlying3 (by decide))
  obtain ⟨w3, r3, o3, g3⟩ := o2.update keyed Tryd.underlying111 (by decide) (key := .string ⟨#[103, 116]⟩) (val := .int .i64 62) (keyS _ (by decide)) (plainElem_int Tryd.underlying3 (by decide))
  obtain ⟨w4, r4, o4, g4⟩ := o3.update keyed Tryd.underlying111 (by decide) (key := .string ⟨#[113, 117, 111, 116]⟩) (val := .int .i64 34) (keyS _ (by decide)) (plainElem_int Tryd.underlying3 (by decide))
  obtain ⟨w5, r5, o5, g5⟩ := o4.update keyed Tryd.underlying111 (by decide) (key := .string ⟨#[97, 112, 111, 115]⟩) (val := .int .i64 39) (keyS _ (by decide)) (plainElem_int Tryd.underlying3 (by decide))
  have b0 : Below w.heap.size w (w.alloc (.map #[] 0)) := (Below.refl _ w).alloc (Nat.le_refl _) _
  have b1 := b0.grown g1 b0.size (fun k e => by cases e; exact Nat.le_refl _)
  have b2 := b1.grown g2 b1.size (fun k e => by cases e; exact Nat.le_refl _)
  have b3 := b2.grown g3 b2.size (fun k e => by cases e; exact Nat.le_refl _)
  have b4 := b3.grown g4 b3.size (fun k e => by cases e; exact Nat.le_refl _)
  have b5 := b4.grown g5 b4.size (fun k e => by cases e; exact Nat.le_refl _)
  clear b0 b1 b2 b3 b4 g1 g2 g3 g4 g5 o0 o1 o2 o3 o4
  have HO : Hid (w5.ownsMap Tryd.prog 9 (plainElem Tryd.prog 3) w.heap.size 5 entD) := o5
  clear o5
  go_enter Tryd.func106, Tryd.ntmps106
  go_wp2
  go_ret
  exact ⟨rfl, HO.out, b5⟩

theorem entD_none (l : List UInt8) (h1 : l ≠ [97, 109, 112]) (h2 : l ≠ [108, 116]) (h3 : l ≠ [103, 116]) (h4 : l ≠ [113, 117, 111, 116]) (h5 : l ≠ [97, 112, 111, 115]) : Maps.has entD (.string l) = false := by
  unfold entD
  rw [Maps.has_put_other (by intro e; cases e; exact h5 rfl), Maps.has_put_other (by intro e; cases e; exact h4 rfl), Maps.has_put_other (by intro e; cases e; exact h3 rfl), Maps.has_put_other (by intro e; cases e; exact h2 rfl), Maps.has_put_other (by intro e; cases e; exact h1 rfl)]
  rfl
theorem entD_0 : Maps.has entD (.string [97, 109, 112]) = true := by kernel_rfl
theorem entV_0 : entD.atKey (.string [97, 109, 112]) (.lit (.int .i64 0)) = .lit (.int .i64 38) := by kernel_rfl
theorem entD_1 : Maps.has entD (.string [108, 116]) = true := by kernel_rfl
theorem entV_1 : entD.atKey (.string [108, 116]) (.lit (.int .i64 0)) = .lit (.int .i64 60) := by kernel_rfl
theorem entD_2 : Maps.has entD (.string [103, 116]) = true := by kernel_rfl
theorem entV_2 : entD.atKey (.string [103, 116]) (.lit (.int .i64 0)) = .lit (.int .i64 62) := by kernel_rfl
theorem entD_3 : Maps.has entD (.string [113, 117, 111, 116]) = true := by kernel_rfl
theorem entV_3 : entD.atKey (.string [113, 117, 111, 116]) (.lit (.int .i64 0)) = .lit (.int .i64 34) := by kernel_rfl
theorem entD_4 : Maps.has entD (.string [97, 112, 111, 115]) = true := by kernel_rfl
theorem entV_4 : entD.atKey (.string [97, 112, 111, 115]) (.lit (.int .i64 0)) = .lit (.int .i64 39) := by kernel_rfl

/-- Where the library's variable for a syntax error holds an error. -/
def ErrVar (w : World) : Prop := ∃ te pe, w.cell? ⟨3, 0, none⟩ = some (.iface te pe)
theorem ErrVar.below {w w' : World} (h : ErrVar w) (b : Below w.heap.size w w') : ErrVar w' := by
  obtain ⟨te, pe, hc⟩ := h
  refine ⟨te, pe, ?_⟩
  obtain ⟨o, ho, _⟩ := cells_of_cell hc
  have hlt : 3 < w.heap.size := (Array.getElem?_eq_some_iff.1 ho).1
  exact (b.cell (p := ⟨3, 0, none⟩) hlt).trans hc

set_option maxRecDepth 100000 in
set_option maxHeartbeats 1000000 in
theorem parse_empty (b : Int) (w : World) :
    Calls Tryd.prog 110 #[.string ⟨#[]⟩, .int .i64 b, .int .i64 31] w fun e w' => e = .returned (uintT none) ∧ w' = w := by
  go_enter Tryd.func110, Tryd.ntmps110
  go_wp2_with fail
  go_ret2
  exact ⟨rfl, rfl⟩

/-- The number that figures of a base are, if they are some. -/
def resB (b : Nat) (l : List UInt8) : Option Nat := if l = [] then none else parseB b 0 l
theorem numI_some {b n : Nat} {l : List UInt8} (h : resB b l = some n) : numI b l = (n : Int) := by
  unfold resB at h
  unfold numI
  by_cases e : l = []
  · rw [if_pos e] at h; cases h
  · rw [if_neg e] at h ⊢; rw [h]
theorem numI_none {b : Nat} {l : List UInt8} (h : resB b l = none) : numI b l = -1 := by
  unfold resB at h
  unfold numI
  by_cases e : l = []
  · rw [if_pos e]
  · rw [if_neg e] at h ⊢; rw [h]
theorem parseB_lt (b : Nat) (hb : b ≤ 16) : ∀ (l : List UInt8) (acc k n : Nat), acc < 16 ^ k → parseB b acc l = some n → n < 16 ^ (k + l.length)
  | [], acc, k, n, h, e => by
    simp only [parseB, Option.some.injEq] at e
    subst e
    simpa using h
  | c :: l, acc, k, n, h, e => by
    by_cases hd : digV c.toNat < b
    · rw [parseB_yes hd] at e
      have h1 : acc * b + digV c.toNat < 16 ^ (k + 1) := by
        rw [Nat.pow_succ]
        have h2 : acc * b ≤ acc * 16 := Nat.mul_le_mul_left _ hb
        omega
      have := parseB_lt b hb l _ (k + 1) n h1 e
      rw [List.length_cons]
      rw [show k + (l.length + 1) = k + 1 + l.length by omega]
      exact this
    · rw [parseB_no hd] at e; cases e
theorem resB_lt {b n : Nat} {l : List UInt8} (hb : b ≤ 16) (hl : l.length ≤ 7) (h : resB b l = some n) : n < 268435456 := by
  unfold resB at h
  by_cases e : l = []
  · rw [if_pos e] at h; cases h
  · rw [if_neg e] at h
    have h1 := parseB_lt b hb l 0 0 n (by decide) h
    have h2 : 16 ^ (0 + l.length) ≤ 16 ^ 7 := Nat.pow_le_pow_right (by decide) (by omega)
    have h3 : (16 : Nat) ^ 7 = 268435456 := by decide
    omega

theorem parse_any (b : Nat) (hb : b = 10 ∨ b = 16) (t : ByteArray) (ht : t.size ≤ 7) (w : World) :
    Calls Tryd.prog 110 #[.string t, .int .i64 (b : Int), .int .i64 31] w fun e w' => e = .returned (uintT (resB b t.data.toList)) ∧ Below w.heap.size w w' := by
  by_cases h0 : t.size = 0
  · have e : t = ⟨#[]⟩ := by
      apply WideShapes.bytes_inj
      have h1 : t.data.toList.length = t.size := rfl
      exact List.eq_nil_of_length_eq_zero (by omega)
    subst e
    refine (parse_empty b w).mono ?_
    rintro e w' ⟨rfl, rfl⟩
    exact ⟨rfl, Below.refl _ _⟩
  · have hne : t.data.toList ≠ [] := list_ne t (by omega)
    unfold resB
    rw [if_neg hne]
    rcases hb with rfl | rfl
    · exact parse_10 t h0 ht w
    · exact parse_16 t h0 ht w

set_option maxRecDepth 100000 in
set_option maxHeartbeats 1000000 in
/-- strconv.ParseUint, at an empty text or figures. -/
theorem parsePub_any (b : Nat) (hb : b = 10 ∨ b = 16) (t : ByteArray) (ht : t.size ≤ 7) (w : World) (hv : ErrVar w) (n : Nat) (hn : resB b t.data.toList = some n) :
    Calls Tryd.prog 108 #[.string t, .int .i64 (b : Int), .int .i64 31] w fun e w' => e = .returned (.tuple #[.int .u64 (n : Int), .nilIface]) ∧ Below w.heap.size w w' := by
  have hp := parse_any b hb t ht w
  rw [hn] at hp
  unfold uintT at hp
  clear hn
  go_enter Tryd.func108, Tryd.ntmps108
  go_wp2_with (go_at_call 110; refine hp.mono ?_; rintro e w' ⟨rfl, hg⟩)
  go_ret2
  exact ⟨rfl, hg⟩

set_option maxRecDepth 100000 in
set_option maxHeartbeats 1000000 in
/-- strconv.ParseUint, at what is no number. -/
theorem parsePub_bad (b : Nat) (hb : b = 10 ∨ b = 16) (t : ByteArray) (ht : t.size ≤ 7) (w : World) (hv : ErrVar w) (hn : resB b t.data.toList = none) :
    Calls Tryd.prog 108 #[.string t, .int .i64 (b : Int), .int .i64 31] w fun e w' => ∃ N, e = .returned (.tuple #[.int .u64 0, .iface 118 (.pointer (some ⟨N, 0, none⟩))]) ∧ Below w.heap.size w w' := by
  have hp := parse_any b hb t ht w
  rw [hn] at hp
  unfold uintT at hp
  clear hn
  go_enter Tryd.func108, Tryd.ntmps108
  go_wp2_with (go_at_call 110; refine hp.mono ?_; rintro e w1 ⟨rfl, hg⟩)
  obtain ⟨te, pe, hc⟩ := hv.below hg
  refine (Tryd.strconv_toError_syntax _ t b 31 _ w1 (by omega) hc (.inr ⟨te, pe, rfl⟩)).mono ?_
  rintro e w2 ⟨N, rfl, _, _, hg2⟩
  go_wp2_with fail
  go_ret2
  exact ⟨N, rfl, hg.trans (hg2.mono hg.size)⟩

set_option maxRecDepth 100000 in
set_option maxHeartbeats 1000000 in
theorem figuresSign_any (b : Nat) (hb : b = 10 ∨ b = 16) (t : ByteArray) (ht : t.size ≤ 7) (w : World) (hv : ErrVar w) :
    Calls Tryd.prog 105 #[.string t, .int .i64 (b : Int)] w fun e w' => e = .returned (.int .i64 (numI b t.data.toList)) ∧ Below w.heap.size w w' := by
  cases hr : resB b t.data.toList with
  | none =>
    rw [numI_none hr]
    have hp := parsePub_bad b hb t ht w hv hr
    clear hr
    go_enter Tryd.func105, Tryd.ntmps105
    go_wp2_with (go_at_call 108; refine hp.mono ?_; rintro e w' ⟨N, rfl, hg⟩)
    go_ret
    exact ⟨rfl, hg⟩
  | some n =>
    rw [numI_some hr]
    have hp := parsePub_any b hb t ht w hv n hr
    have hlt := resB_lt (by omega) (show t.data.toList.length ≤ 7 from ht) hr
    clear hr
    go_enter Tryd.func105, Tryd.ntmps105
    go_wp2_with (go_at_call 108; refine hp.mono ?_; rintro e w' ⟨rfl, hg⟩)
    go_ret
    exact ⟨rfl, hg⟩
end Go.Proofs.YtbcledidadjddaaDoor.Hub
