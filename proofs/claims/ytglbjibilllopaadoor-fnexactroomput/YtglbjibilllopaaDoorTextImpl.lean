/-
  The program's TextOk: at every text it answers okT (the tables of unicode/utf8 as they are laid).
-/
import Derived.Test.YtglbjibilllopaaDoorTextSpec
import Derived.Test.YtglbjibilllopaaDoorShelf
import Derived.Lib.OthersKept
namespace Go.Proofs.YtglbjibilllopaaDoor.Hub
open Go.RowKit Go.Lib
set_option linter.unusedVariables false

/-- A text that is no UTF-8 is not ok. -/
theorem okFrom_valid (s : ByteArray) : ∀ (f p : Nat), s.size ≤ p + f → validD (s.data.toList.drop p) = false → okFrom s f p = false
  | 0, p, hf, hv => by
    exfalso
    rw [List.drop_eq_nil_of_le (by have : s.data.toList.length = s.size := rfl; omega)] at hv
    simp [validD_nil] at hv
  | f + 1, p, hf, hv => by
    by_cases hp : p < s.size
    · have hne : s.data.toList.drop p ≠ [] := by
        intro h
        have := congrArg List.length h
        have h2 : s.data.toList.length = s.size := rfl
        simp only [List.length_drop, List.length_nil] at this
        omega
      rw [validD_step _ hne, decodeL_drop] at hv
      simp only [okFrom, if_pos hp]
      by_cases hb : Utf8.decode s p = (65533, 1)
      · rw [if_pos hb]
      · rw [if_neg hb]
        have hb' : ¬ ((Utf8.decode s p).1 = 65533 ∧ (Utf8.decode s p).2 = 1) := fun h => hb (Prod.ext h.1 h.2)
        rw [if_neg hb', List.drop_drop] at hv
        cases hs : signB ((Utf8.decode s p).1 : Int)
        · simp
        · simp only [if_true]
          refine okFrom_valid s f _ ?_ hv
          have : 1 ≤ (Utf8.decode s p).2 := by rw [← decodeL_drop]; exact decodeL_width _
          omega
    · exfalso
      rw [List.drop_eq_nil_of_le (by have : s.data.toList.length = s.size := rfl; omega)] at hv
      simp [validD_nil] at hv

def Tabs (w : World) : Prop := Lib.Utf8Tabs (Tryd.lays196_ren.g 3) (Tryd.lays196_ren.g 4) w

set_option maxRecDepth 100000 in
set_option maxHeartbeats 1000000 in
theorem textOk_any (s : ByteArray) (w : World) (hs : s.size ≤ 9223372036854775800) (hT : Tabs w) :
    Calls Tryd.prog 73 #[.string s] w fun e w' => e = .returned (.bool (okT s)) ∧ Below w.heap.size w w' := by
  have cV := Tryd.utf8_ValidString s w (by omega) hT
  cases hv : validD s.data.toList
  · have hans : okT s = false := okFrom_valid s s.size 0 (by omega) (by simpa using hv)
    rw [hv] at cV
    clear hv
    go_enter Tryd.func73, Tryd.ntmps73
    go_wp2_with (go_at_call 83; refine cV.mono ?_; rintro e w' ⟨rfl, hb⟩)
    go_ret
    exact ⟨ret_bool hans.symm, hb⟩
  · rw [hv] at cV
    go_enter Tryd.func73, Tryd.ntmps73
    go_wp2_with (go_at_call 83; refine cV.mono ?_; rintro e w1 ⟨rfl, hb⟩)
    clear cV
    go_loopw [] (fun wr => ∃ p f : Nat, wr.heap[w1.heap.size]? = some (.stringIter s p) ∧ s.size ≤ p + f ∧ Hid (okFrom s f p = okT s) ∧ Hid (validD (s.data.toList.drop p) = true) ∧ Below w1.heap.size w1 wr) (fun wr => s.size - wr.iterPos w1.heap.size)
    case atStart => exact ⟨0, s.size, World.iter_heap w1 s 0, by omega, rfl, (show validD (s.data.toList.drop 0) = true by simpa using hv), (Below.refl _ w1).alloc (Nat.le_refl _) _⟩
    case round =>
      obtain ⟨p, f, hit, hf, hok, hvd, hbw⟩ := hrel
      have hsz : w1.heap.size < wr.heap.size := (Array.getElem?_eq_some_iff.1 hit).1
      by_cases hp : p < s.size
      · have hnx : ∀ ty, (Instr.next (.pointer (some ⟨w1.heap.size, 0, none⟩)) true ty).run Tryd.prog wr = _ := fun ty => Lib.run_next_any_at wr w1.heap.size s p ty hit hp
        have hne : s.data.toList.drop p ≠ [] := by
          intro h
          have := congrArg List.length h
          have h2 : s.data.toList.length = s.size := rfl
          simp only [List.length_drop, List.length_nil] at this
          omega
        have hwd : 1 ≤ (Utf8.decode s p).2 := by rw [← decodeL_drop]; exact decodeL_width _
        have hd1 := decode_le s p
        have hv2 := hvd.out
        rw [validD_step _ hne, decodeL_drop] at hv2
        by_cases hb1 : (Utf8.decode s p).1 = 65533 ∧ (Utf8.decode s p).2 = 1
        · rw [if_pos hb1] at hv2; cases hv2
        · rw [if_neg hb1, List.drop_drop] at hv2
          have hb' : ¬ Utf8.decode s p = (65533, 1) := fun h => hb1 (by rw [h]; exact ⟨rfl, rfl⟩)
          have hit2 := Lib.iterAt_heap wr w1.heap.size s p (p + (Utf8.decode s p).2) hit
          have hbw2 := Lib.below_iterAt hbw (k := w1.heap.size) (Nat.le_refl _) s (p + (Utf8.decode s p).2)
          obtain ⟨g, rfl⟩ : ∃ g, f = g + 1 := ⟨f - 1, by omega⟩
          cases hsg : signB ((Utf8.decode s p).1 : Int)
          · have hans : okT s = false := by
              rw [← hok.out]; simp only [okFrom, if_pos hp, if_neg hb']; simp [hsg]
            clear hok hvd hv2 hb1 hb' hit2 hne
            go_wp2_with (go_at_call 84; refine (isSign_any _ _).mono ?_; rintro e w' ⟨rfl, rfl⟩)
            go_ret
            exact ⟨ret_bool hans.symm, hb.trans (hbw2.mono hb.size)⟩
          · have hnew : Hid (okFrom s g (p + (Utf8.decode s p).2) = okT s) := by
              have := hok.out
              simp only [okFrom, if_pos hp, if_neg hb'] at this
              have h9 : okFrom s g (p + (Utf8.decode s p).2) = okT s := by simpa [hsg] using this
              exact h9
            have hv3 : Hid (validD (s.data.toList.drop (p + (Utf8.decode s p).2)) = true) := hv2
            clear hok hvd hv2 hb1 hb' hne
            go_wp2_with (go_at_call 84; refine (isSign_any _ _).mono ?_; rintro e w' ⟨rfl, rfl⟩)
            go_roundw
            case rel => exact ⟨p + (Utf8.decode s p).2, g, hit2, by omega, hnew, hv3, hbw2⟩
            case measure =>
              simp only [World.iterPos, hit2, hit]
              omega
      · have hnx : ∀ ty, (Instr.next (.pointer (some ⟨w1.heap.size, 0, none⟩)) true ty).run Tryd.prog wr = _ := fun ty => Lib.run_next_end_at wr w1.heap.size s p ty hit hp
        have hans : okT s = true := by rw [← hok.out, okFrom_end s f p hp]
        clear hok hvd
        go_wp2_with fail
        go_ret
        exact ⟨ret_bool hans.symm, hb.trans (hbw.mono hb.size)⟩
end Go.Proofs.YtglbjibilllopaaDoor.Hub
