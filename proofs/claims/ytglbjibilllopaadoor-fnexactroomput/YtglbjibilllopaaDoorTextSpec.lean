/-
  The model's l1Next at every place within a text, and its l1Utf and TextOk: TextOk answers okT, by the model's own decoder: every sign from the first byte on is whole and one that may stand.
-/
import Derived.Test.YtglbjibilllopaaDoorNext
import Derived.Lib.TrimUEq
import Derived.Lib.ValidLaws
import Derived.Lib.MapLaws
namespace Go.Proofs.YtglbjibilllopaaDoor.Hub
open Go.RowKit Go.Lib
set_option linter.unusedVariables false

theorem get_lt (s : ByteArray) (k : Nat) (h : k < s.size) : (s.get! k).toNat = (s[k]'h).toNat := by
  have : s.get! k = s[k]'h := by
    cases s with
    | mk d => exact getElem!_pos d k h
  rw [this]

/-- What begins at a place of a text. -/
def nx (s : ByteArray) (i : Nat) : Int × Int := nextN (s.size - i) (s.get! i).toNat (s.get! (i + 1)).toNat (s.get! (i + 2)).toNat (s.get! (i + 3)).toNat

/-- A tuple of two numbers handed back; what was there stands. -/
def Pair (R : Int × Int) (w : World) (e : Ending) (w' : World) : Prop := e = .returned (.tuple #[.int .i64 R.1, .int .i64 R.2]) ∧ Below w.heap.size w w'

theorem l1Next_any (s : ByteArray) (i : Nat) (w : World) (hs : s.size ≤ 9223372036854775800) (hi : i < s.size) :
    Calls Tryd.prog 82 #[.string s, .int .i64 i] w fun e w' => Pair (nx s i) w e w' := by
  obtain ⟨b0, e0⟩ : ∃ b, (s[i]'hi).toNat = b := ⟨_, rfl⟩
  have hb0 : b0 < 256 := by rw [← e0]; exact UInt8.toNat_lt _
  have g0 : (s.get! i).toNat = b0 := by rw [get_lt s i hi, e0]
  unfold nx Pair
  rw [g0]
  generalize hB1 : (s.get! (i + 1)).toNat = b1
  generalize hB2 : (s.get! (i + 2)).toNat = b2
  generalize hB3 : (s.get! (i + 3)).toNat = b3
  have l1 : b1 < 256 := by rw [← hB1]; exact UInt8.toNat_lt _
  have l2 : b2 < 256 := by rw [← hB2]; exact UInt8.toNat_lt _
  have l3 : b3 < 256 := by rw [← hB3]; exact UInt8.toNat_lt _
  have e1 : ∀ h1 : i + 1 < s.size, (s[i + 1]'h1).toNat = b1 := fun h1 => by rw [← hB1, get_lt s _ h1]
  have e2 : ∀ h2 : i + 2 < s.size, (s[i + 2]'h2).toNat = b2 := fun h2 => by rw [← hB2, get_lt s _ h2]
  have e3 : ∀ h3 : i + 3 < s.size, (s[i + 3]'h3).toNat = b3 := fun h3 => by rw [← hB3, get_lt s _ h3]
  clear hB1 hB2 hB3 g0
  by_cases q1 : b0 < 128
  · rw [(next_lead1 (s.size - i) b0 b1 b2 b3 q1).1]
    exact next1 s i b0 b1 b2 b3 w hs hi e0 hb0 q1
  by_cases q0 : (128 ≤ b0 ∧ b0 < 194) ∨ 244 < b0
  · rw [(next_none (s.size - i) b0 b1 b2 b3 q0 hb0 l1 l2 l3).2]
    exact next0 s i b0 b1 b2 b3 w hs hi e0 hb0 q0
  by_cases q2 : 194 ≤ b0 ∧ b0 ≤ 223
  · have hl := leadN_two q2
    unfold nextN
    rw [hl, if_neg (by decide), if_neg (by decide)]
    by_cases h1 : i + 1 < s.size
    · rw [if_neg (by omega)]
      cases c1 : contB b1
      · rw [if_pos (by simp)]
        exact next2_no1 s i b0 b1 b2 b3 w hs hi e0 hb0 q2 h1 (e1 h1) l1 c1
      · cases hsec : secondB b0 b1
        · rw [if_pos (by simp)]
          exact next2_sec s i b0 b1 b2 b3 w hs hi e0 hb0 q2 h1 (e1 h1) l1 c1 hsec
        · rw [if_neg (by simp), if_pos rfl]
          exact next2_fin s i b0 b1 b2 b3 w hs hi e0 hb0 q2 h1 (e1 h1) l1 c1 hsec
    · rw [if_pos (by omega)]
      exact next2_m1 s i b0 b1 b2 b3 w hs hi e0 hb0 q2 (by omega)
  by_cases q3 : 224 ≤ b0 ∧ b0 ≤ 239
  · have hl := leadN_three q3
    unfold nextN
    rw [hl, if_neg (by decide), if_neg (by decide)]
    by_cases h1 : i + 1 < s.size
    · rw [if_neg (by omega)]
      cases c1 : contB b1
      · rw [if_pos (by simp)]
        exact next3_no1 s i b0 b1 b2 b3 w hs hi e0 hb0 q3 h1 (e1 h1) l1 c1
      · cases hsec : secondB b0 b1
        · rw [if_pos (by simp)]
          exact next3_sec s i b0 b1 b2 b3 w hs hi e0 hb0 q3 h1 (e1 h1) l1 c1 hsec
        · rw [if_neg (by simp), if_neg (by decide)]
          by_cases h2 : i + 2 < s.size
          · rw [if_neg (by omega)]
            cases c2 : contB b2
            · rw [if_pos rfl]
              exact next3_no2 s i b0 b1 b2 b3 w hs hi e0 hb0 q3 h1 (e1 h1) l1 c1 hsec h2 (e2 h2) l2 c2
            · rw [if_neg (by decide), if_pos rfl]
              exact next3_fin s i b0 b1 b2 b3 w hs hi e0 hb0 q3 h1 (e1 h1) l1 c1 hsec h2 (e2 h2) l2 c2
          · rw [if_pos (by omega)]
            exact next3_m2 s i b0 b1 b2 b3 w hs hi e0 hb0 q3 h1 (e1 h1) l1 c1 hsec (by omega)
    · rw [if_pos (by omega)]
      exact next3_m1 s i b0 b1 b2 b3 w hs hi e0 hb0 q3 (by omega)
  · have q4 : 240 ≤ b0 ∧ b0 ≤ 244 := by omega
    have hl := leadN_four q4
    unfold nextN
    rw [hl, if_neg (by decide), if_neg (by decide)]
    by_cases h1 : i + 1 < s.size
    · rw [if_neg (by omega)]
      cases c1 : contB b1
      · rw [if_pos (by simp)]
        exact next4_no1 s i b0 b1 b2 b3 w hs hi e0 hb0 q4 h1 (e1 h1) l1 c1
      · cases hsec : secondB b0 b1
        · rw [if_pos (by simp)]
          exact next4_sec s i b0 b1 b2 b3 w hs hi e0 hb0 q4 h1 (e1 h1) l1 c1 hsec
        · rw [if_neg (by simp), if_neg (by decide)]
          by_cases h2 : i + 2 < s.size
          · rw [if_neg (by omega)]
            cases c2 : contB b2
            · rw [if_pos rfl]
              exact next4_no2 s i b0 b1 b2 b3 w hs hi e0 hb0 q4 h1 (e1 h1) l1 c1 hsec h2 (e2 h2) l2 c2
            · rw [if_neg (by decide), if_neg (by decide)]
              by_cases h3 : i + 3 < s.size
              · rw [if_neg (by omega)]
                cases c3 : contB b3
                · rw [if_pos rfl]
                  exact next4_no3 s i b0 b1 b2 b3 w hs hi e0 hb0 q4 h1 (e1 h1) l1 c1 hsec h2 (e2 h2) l2 c2 h3 (e3 h3) l3 c3
                · rw [if_neg (by decide)]
                  exact next4_fin s i b0 b1 b2 b3 w hs hi e0 hb0 q4 h1 (e1 h1) l1 c1 hsec h2 (e2 h2) l2 c2 h3 (e3 h3) l3 c3
              · rw [if_pos (by omega)]
                exact next4_m3 s i b0 b1 b2 b3 w hs hi e0 hb0 q4 h1 (e1 h1) l1 c1 hsec h2 (e2 h2) l2 c2 (by omega)
          · rw [if_pos (by omega)]
            exact next4_m2 s i b0 b1 b2 b3 w hs hi e0 hb0 q4 h1 (e1 h1) l1 c1 hsec (by omega)
    · rw [if_pos (by omega)]
      exact next4_m1 s i b0 b1 b2 b3 w hs hi e0 hb0 q4 (by omega)

/-- From a place on, all is signs that may stand (so many signs are asked at most). -/
def okFrom (s : ByteArray) : Nat → Nat → Bool
  | 0, _ => true
  | f + 1, p => if p < s.size then (if Utf8.decode s p = (65533, 1) then false else if signB ((Utf8.decode s p).1 : Int) = true then okFrom s f (p + (Utf8.decode s p).2) else false) else true
/-- All of a text is signs that may stand. -/
def okT (s : ByteArray) : Bool := okFrom s s.size 0

theorem okFrom_end (s : ByteArray) (f p : Nat) (h : ¬ p < s.size) : okFrom s f p = true := by
  cases f with
  | zero => rfl
  | succ f => simp [okFrom, h]

/-- A sign at a place: the model's reading and the decoder's. -/
theorem nx_decode (s : ByteArray) (i : Nat) (hi : i < s.size) :
    (Utf8.decode s i = (65533, 1) ∧ (nx s i).1 = 0 ∧ (nx s i).2 ≤ 0) ∨
    (∃ r k : Nat, 1 ≤ k ∧ i + k ≤ s.size ∧ k ≤ 4 ∧ (k = 1 → r < 128) ∧ Utf8.decode s i = (r, k) ∧ nx s i = finN r k) := by
  rw [decode_at]
  rcases next_decode (s.size - i) (s.get! i).toNat (s.get! (i + 1)).toNat (s.get! (i + 2)).toNat (s.get! (i + 3)).toNat (by omega) (UInt8.toNat_lt _) (UInt8.toNat_lt _) (UInt8.toNat_lt _) (UInt8.toNat_lt _) with h | ⟨r, k, h1, h2, h3, h4, h5, h6⟩
  · exact .inl h
  · exact .inr ⟨r, k, h1, by omega, h3, h4, h5, h6⟩

set_option maxRecDepth 100000 in
set_option maxHeartbeats 1000000 in
theorem l1Utf_any (s : ByteArray) (w : World) (hs : s.size ≤ 9223372036854775800) :
    Calls Tryd.prog 66 #[.string s] w fun e w' => e = .returned (.bool (okT s)) ∧ Below w.heap.size w w' := by
  go_enter Tryd.func66, Tryd.ntmps66
  go_wp2_with fail
  go_loopw [3] (fun a wr => ∃ p f : Nat, a = .int .i64 p ∧ p ≤ s.size ∧ s.size ≤ p + f ∧ Hid (okFrom s f p = okT s) ∧ Below w.heap.size w wr) (fun a _ => s.size - (intOf a).toNat)
  case atStart => exact ⟨0, s.size, rfl, by omega, by omega, rfl, Below.refl _ _⟩
  case round =>
    obtain ⟨p, f, rfl, hp, hf, hok, hg⟩ := hrel
    by_cases hlt : p < s.size
    · obtain ⟨g, rfl⟩ : ∃ g, f = g + 1 := ⟨f - 1, by omega⟩
      have hd := nx_decode s p hlt
      have hn := l1Next_any s p
      obtain ⟨R, hR⟩ : ∃ R, nx s p = R := ⟨_, rfl⟩
      rw [hR] at hd hn
      clear hR
      obtain ⟨r1, r2⟩ := R
      rcases hd with ⟨hbad, h1, h2⟩ | ⟨r, k, h1, h2, h3, h4, h5, h6⟩
      · have hans : okT s = false := by
          rw [← hok.out]; simp only [okFrom, if_pos hlt, if_pos hbad]
        simp only at h1 h2
        clear hok hbad
        go_wp2_with (go_at_call 82; refine (hn _ hs hlt).mono ?_; rintro e w' ⟨rfl, hg2⟩)
        go_ret
        exact ⟨ret_bool hans.symm, hg.trans (hg2.mono hg.size)⟩
      · have hne : Utf8.decode s p ≠ (65533, 1) := by rw [h5]; simp only [ne_eq, Prod.mk.injEq]; omega
        cases hsg : signB (r : Int)
        · have hans : okT s = false := by
            rw [← hok.out]; simp only [okFrom, if_pos hlt, if_neg hne]; rw [h5]; simp [hsg]
          rw [finN_no hsg] at h6
          simp only [Prod.mk.injEq] at h6
          obtain ⟨rfl, rfl⟩ := h6
          clear hok hne h5
          go_wp2_with (go_at_call 82; refine (hn _ hs hlt).mono ?_; rintro e w' ⟨rfl, hg2⟩)
          go_ret
          exact ⟨ret_bool hans.symm, hg.trans (hg2.mono hg.size)⟩
        · have hnew : Hid (okFrom s g (p + k) = okT s) := by
            have := hok.out
            simp only [okFrom, if_pos hlt, if_neg hne] at this
            rw [h5] at this
            have h9 : okFrom s g (p + k) = okT s := by simpa [hsg] using this
            exact h9
          rw [finN_yes hsg] at h6
          simp only [Prod.mk.injEq] at h6
          obtain ⟨rfl, rfl⟩ := h6
          clear hok hne h5
          go_wp2_with (go_at_call 82; refine (hn _ hs hlt).mono ?_; rintro e w' ⟨rfl, hg2⟩)
          go_roundw
          case rel => exact ⟨p + k, g, by go_num, by omega, by omega, hnew, hg.trans (hg2.mono hg.size)⟩
          case measure => simp [intOf]; omega
    · have hans : okT s = true := by rw [← hok.out, okFrom_end s f p hlt]
      clear hok
      go_wp2_with fail
      go_ret
      exact ⟨ret_bool hans.symm, hg⟩

end Go.Proofs.YtglbjibilllopaaDoor.Hub
