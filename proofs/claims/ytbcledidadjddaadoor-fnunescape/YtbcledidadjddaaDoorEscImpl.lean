/-
  Escape, of the program and of its model: at every text of at most 2^40 bytes both answer escT: the escaped bytes of a text that is ok, nothing of another.
-/
import Derived.Test.YtbcledidadjddaaDoorEscSpec
import Derived.Test.YtbcledidadjddaaDoorSignPut
import Derived.Test.YtbcledidadjddaaDoorTextImpl
import Derived.Test.YtbcledidadjddaaDoorBuilder
import Derived.BigCall
namespace Go.Proofs.YtbcledidadjddaaDoor.Hub
open Go.RowKit Go.Lib
set_option linter.unusedVariables false

/-- How a sign stands in marked text. -/
def escS (n : Int) : ByteArray :=
  if n = 38 then ofL [38, 97, 109, 112, 59] else if n = 60 then ofL [38, 108, 116, 59] else if n = 62 then ofL [38, 103, 116, 59] else if n = 34 then ofL [38, 113, 117, 111, 116, 59]
  else if n = 39 then ofL [38, 97, 112, 111, 115, 59] else if n = 10 then ofL [38, 35, 49, 48, 59] else if n = 9 then ofL [38, 35, 57, 59] else putS n

theorem escS_other (n : Int) (h1 : n ≠ 38) (h2 : n ≠ 60) (h3 : n ≠ 62) (h4 : n ≠ 34) (h5 : n ≠ 39) (h6 : n ≠ 10) (h7 : n ≠ 9) : escS n = putS n := by
  unfold escS; rw [if_neg h1, if_neg h2, if_neg h3, if_neg h4, if_neg h5, if_neg h6, if_neg h7]

set_option maxHeartbeats 1000000 in
theorem escapeSign_any (n : Int) (w : World) :
    Calls Tryd.prog 52 #[.int .i64 n] w fun e w' => e = .returned (.string (escS n)) ∧ w' = w := by
  rcases (by omega : n = 38 ∨ n = 60 ∨ n = 62 ∨ n = 34 ∨ n = 39 ∨ n = 10 ∨ n = 9 ∨ (n ≠ 38 ∧ n ≠ 60 ∧ n ≠ 62 ∧ n ≠ 34 ∧ n ≠ 39 ∧ n ≠ 10 ∧ n ≠ 9)) with h | h | h | h | h | h | h | h
  · subst h
    go_enter Tryd.func52, Tryd.ntmps52
    go_wp2_with fail
    go_ret
    exact ⟨rfl, rfl⟩
  · subst h
    go_enter Tryd.func52, Tryd.ntmps52
    go_wp2_with fail
    go_ret
    exact ⟨rfl, rfl⟩
  · subst h
    go_enter Tryd.func52, Tryd.ntmps52
    go_wp2_with fail
    go_ret
    exact ⟨rfl, rfl⟩
  · subst h
    go_enter Tryd.func52, Tryd.ntmps52
    go_wp2_with fail
    go_ret
    exact ⟨rfl, rfl⟩
  · subst h
    go_enter Tryd.func52, Tryd.ntmps52
    go_wp2_with fail
    go_ret
    exact ⟨rfl, rfl⟩
  · subst h
    go_enter Tryd.func52, Tryd.ntmps52
    go_wp2_with fail
    go_ret
    exact ⟨rfl, rfl⟩
  · subst h
    go_enter Tryd.func52, Tryd.ntmps52
    go_wp2_with fail
    go_ret
    exact ⟨rfl, rfl⟩
  · obtain ⟨h1, h2, h3, h4, h5, h6, h7⟩ := h
    have he := escS_other n h1 h2 h3 h4 h5 h6 h7
    rw [he]
    clear he
    go_enter Tryd.func52, Tryd.ntmps52
    go_wp2_with (go_at_call 18; refine (signPut_any n _).mono ?_; rintro e w' ⟨rfl, rfl⟩)
    go_ret
    exact ⟨rfl, rfl⟩

theorem encode_high (n : Int) (hb : signB n = true) (h : 128 ≤ n) : ∀ b ∈ (Utf8.encode n).data.toList, 128 ≤ b.toNat := by
  rw [encode_list n hb]
  have hr := signB_yes hb
  intro b hm
  unfold Lib.encodeRune at hm
  rw [List.mem_map] at hm
  obtain ⟨x, hx, rfl⟩ := hm
  have hbd := Lib.encodeRuneZ_byte n x hx
  have h128 : 128 ≤ x := by
    by_cases h2 : n < 2048
    · rw [Lib.encodeRuneZ_two (by omega) (by omega)] at hx; simp at hx; omega
    by_cases h3 : n < 65536
    · rw [Lib.encodeRuneZ_three (by omega)] at hx; simp at hx; omega
    · rw [Lib.encodeRuneZ_four (by omega) (by omega)] at hx; simp at hx; omega
  have : (x.toNat.toUInt8).toNat = x.toNat := by
    show (UInt8.ofNat x.toNat).toNat = x.toNat
    rw [UInt8.toNat_ofNat']
    omega
  rw [this]
  omega

theorem escL_high : ∀ l : List UInt8, (∀ b ∈ l, 128 ≤ b.toNat) → escL l = l
  | [], _ => rfl
  | c :: l, h => by
    have h1 := escL_high l (fun b hb => h b (.tail _ hb))
    have h2 := h c (.head _)
    have ne : ∀ d : UInt8, d.toNat < 128 → c ≠ d := fun d hd e => by rw [e] at h2; omega
    have e : escB c = [c] := by
      unfold escB
      rw [if_neg (ne _ (by decide)), if_neg (ne _ (by decide)), if_neg (ne _ (by decide)), if_neg (ne _ (by decide)), if_neg (ne _ (by decide)), if_neg (ne _ (by decide)), if_neg (ne _ (by decide))]
    show escB c ++ escL l = c :: l
    rw [e, h1]
    rfl

theorem encode_low (r : Nat) (h : r < 128) : (Utf8.encode (r : Int)).data.toList = [UInt8.ofNat r] := by
  rw [← enc1 (r : Int) (by omega) (by omega)]
  simp [strOfNums]

theorem escB_low : ∀ r : Fin 128, signB (r.val : Int) = true → (escS (r.val : Int)).data.toList = escB (UInt8.ofNat r.val) := by decide +kernel

/-- What is written for a sign is the escaped bytes of that sign. -/
theorem escS_at (s : ByteArray) (p r k : Nat) (hp : p < s.size) (hd : Utf8.decode s p = (r, k)) (hk : k = 1 → r < 128) (hb : signB (r : Int) = true) :
    (escS (r : Int)).data.toList = escL ((s.data.toList.drop p).take k) := by
  have he := encode_at s p r k hp hd hk hb
  rw [← he]
  by_cases hr : r < 128
  · rw [encode_low r hr]
    have := escB_low ⟨r, hr⟩ hb
    simp only at this
    rw [this]
    simp [escL]
  · rw [escL_high _ (encode_high (r : Int) hb (by omega))]
    rw [escS_other (r : Int) (by omega) (by omega) (by omega) (by omega) (by omega) (by omega) (by omega)]
    unfold putS
    rw [if_pos hb]

/-- A text as it stands in marked text. -/
def escT (s : ByteArray) : ByteArray := if okT s = true then ofL (escL s.data.toList) else ⟨#[]⟩

set_option maxHeartbeats 400000 in
theorem specEscape_any (s : ByteArray) (w : World) (hs : s.size ≤ 1099511627776) :
    Calls Tryd.prog 48 #[.string s] w fun e w' => e = .returned (.string (escT s)) ∧ Below w.heap.size w w' := by
  cases hok : okT s
  · have he : escT s = ⟨#[]⟩ := by unfold escT; rw [hok]; rfl
    rw [he]
    clear he
    go_enter Tryd.func48, Tryd.ntmps48
    go_wp2_with (go_at_call 71; refine (l1Utf_any s _ (by omega)).mono ?_; rintro e w' ⟨rfl, hg⟩)
    go_ret
    exact ⟨rfl, hg⟩
  · have he : escT s = ofL (escL s.data.toList) := by unfold escT; rw [if_pos hok]
    rw [he]
    clear he
    go_enter Tryd.func48, Tryd.ntmps48
    go_wp2_with (go_at_call 71; refine (l1Utf_any s _ (by omega)).mono ?_; rintro e w' ⟨rfl, hg⟩)
    refine (l1Escape_any s _ hs).mono ?_
    rintro e w2 ⟨rfl, rfl⟩
    go_wp2_with fail
    go_ret
    exact ⟨rfl, hg⟩

set_option maxHeartbeats 4000000 in
set_option maxRecDepth 1000000 in
theorem escape_any (s : ByteArray) (w : World) (hs : s.size ≤ 1099511627776) (hT : Tabs w) :
    Calls Tryd.prog 25 #[.string s] w fun e w' => e = .returned (.string (escT s)) ∧ Below w.heap.size w w' := by
  cases hok : okT s
  · have he : escT s = ⟨#[]⟩ := by unfold escT; rw [hok]; rfl
    rw [he]
    clear he
    go_enter Tryd.func25, Tryd.ntmps25
    go_wp2_with (go_at_call 22; refine (textOk_any s _ (by omega) hT).mono ?_; rintro e w' ⟨rfl, hg⟩)
    go_ret
    exact ⟨rfl, hg⟩
  · have he : escT s = ofL (escL s.data.toList) := by unfold escT; rw [if_pos hok]
    rw [he]
    clear he
    have HOK : Hid (okFrom s s.size 0 = true) := hok
    go_enter Tryd.func25, Tryd.ntmps25
    go_wp2_with (go_at_call 22; refine (textOk_any s _ (by omega) hT).mono ?_; rintro e v ⟨rfl, hg⟩)
    go_loopw [] (fun wr => ∃ (pos fuel : Nat) (acc : List UInt8), Lib.IsBuilderF 47 5 v.heap.size v.heap.size (Lib.byteCells acc) wr ∧ wr.heap[v.heap.size + 1]? = some (.stringIter s pos) ∧ Below v.heap.size v wr ∧ Hid (acc ++ escL (s.data.toList.drop pos) = escL s.data.toList) ∧ s.size ≤ pos + fuel ∧ Hid (okFrom s fuel pos = true) ∧ acc.length ≤ 6 * pos ∧ pos ≤ s.size) (fun wr => s.size - wr.iterPos (v.heap.size + 1))
    case atStart =>
      refine ⟨0, s.size, [], (Lib.IsBuilderF.of (Lib.fresh_isBuilder 47 5 v)).alloc _, ?_, ((Below.refl _ v).alloc (Nat.le_refl _) _).alloc (by simp) _, rfl, by omega, HOK, by simp, by omega⟩
      have := World.iter_heap (v.alloc (.cells #[.pointer none, .slice none 0 0] 47)) s 0
      simpa using this
    case round =>
      obtain ⟨pos, fuel, acc, hI, hit, hbw, hacc, hfu, hof, hal, hps⟩ := hrel
      have hsz : v.heap.size + 1 < wr.heap.size := (Array.getElem?_eq_some_iff.1 hit).1
      by_cases hp : pos < s.size
      · have hnx : ∀ ty, (Instr.next (.pointer (some ⟨v.heap.size + 1, 0, none⟩)) true ty).run Tryd.prog wr = _ := fun ty => Lib.run_next_any_at wr (v.heap.size + 1) s pos ty hit hp
        obtain ⟨f, rfl⟩ : ∃ f, fuel = f + 1 := ⟨fuel - 1, by omega⟩
        obtain ⟨r, k, hd, hk1, hk2, hk3, hsg, hof2⟩ : ∃ r k : Nat, Utf8.decode s pos = (r, k) ∧ 1 ≤ k ∧ pos + k ≤ s.size ∧ (k = 1 → r < 128) ∧ signB (r : Int) = true ∧ okFrom s f (pos + k) = true := by
          have ho := hof.out
          simp only [okFrom, if_pos hp] at ho
          rcases nx_decode s pos hp with ⟨hbad, _, _⟩ | ⟨r, k, h1, h2, h3, h4, h5, h6⟩
          · rw [if_pos hbad] at ho; cases ho
          · rw [h5] at ho
            have hne : ¬ ((r, k) = ((65533, 1) : Nat × Nat)) := by simp only [Prod.mk.injEq]; omega
            rw [if_neg hne] at ho
            cases hsg : signB (r : Int)
            · simp [hsg] at ho
            · simp only [hsg, if_true] at ho
              exact ⟨r, k, h5, h1, h2, h4, hsg, ho⟩
        have hE := escS_at s pos r k hp hd hk3 hsg
        have hrb := signB_yes hsg
        have hr2 : (r : Int) ≤ 1114111 := by omega
        simp only [hd] at hnx
        have HOF : Hid (okFrom s f (pos + k) = true) := hof2
        have HE : Hid ((escS (r : Int)).data.toList = escL ((s.data.toList.drop pos).take k)) := hE
        have hesz : (escS (r : Int)).size ≤ 6 * k := by
          have h1 : (escS (r : Int)).size = (escS (r : Int)).data.toList.length := rfl
          rw [h1, hE]
          have h2 := escL_le ((s.data.toList.drop pos).take k)
          have h3 : ((s.data.toList.drop pos).take k).length ≤ k := List.length_take_le _ _
          omega
        clear hd hof hof2 hE hrb hok HOK hk3
        have hI2 := hI.iterAt hit (pos + k)
        have hit2 := Lib.iterAt_heap wr (v.heap.size + 1) s pos (pos + k) hit
        have hbw2 := Lib.below_iterAt hbw (k := v.heap.size + 1) (by omega) s (pos + k)
        have hsz2 : v.heap.size ≤ (wr.iterAt (v.heap.size + 1) s (pos + k)).heap.size := by rw [Lib.iterAt_size]; omega
        generalize hes : escS (r : Int) = E at HE hesz
        have HES : Hid (escS (r : Int) = E) := hes
        clear hes
        go_wp2_with (go_at_call 52; refine (escapeSign_any _ _).mono ?_; rintro e w' ⟨rfl, rfl⟩; rw [HES.out])
        refine (writeString_any v.heap.size v.heap.size _ E _ hI2 (by rw [Lib.byteCells_length]; omega) hsz2).mono ?_
        rintro e W1 ⟨rfl, h1, b1, k1⟩
        go_wp2_with fail
        go_roundw
        case rel =>
          refine ⟨pos + k, f, acc ++ E.data.toList, ?_, k1.iter hit2 (by omega), hbw2.trans b1, ?_, by omega, HOF, ?_, by omega⟩
          · rw [Lib.byteCells_append]; exact Or.inr h1
          · show acc ++ E.data.toList ++ escL (s.data.toList.drop (pos + k)) = escL s.data.toList
            rw [HE.out, ← hacc.out, List.append_assoc, ← escL_append, ← List.drop_drop, List.take_append_drop]
          · rw [List.length_append]
            have : E.data.toList.length = E.size := rfl
            omega
        case measure =>
          simp only [World.iterPos, k1.iter hit2 (by omega), hit]
          omega
      · have hnx : ∀ ty, (Instr.next (.pointer (some ⟨v.heap.size + 1, 0, none⟩)) true ty).run Tryd.prog wr = _ := fun ty => Lib.run_next_end_at wr (v.heap.size + 1) s pos ty hit hp
        have hfin : acc = escL s.data.toList := by
          rw [← hacc.out, List.drop_eq_nil_of_le (by have : s.data.toList.length = s.size := rfl; omega)]
          simp [escL]
        subst hfin
        clear hacc hof hok HOK
        go_wp2_with (go_at_call 33; refine (Tryd.Builder_String_any_k v.heap.size v.heap.size _ _ hI (by omega)).mono ?_)
        rintro e W1 ⟨rfl, _, b1, _⟩
        go_wp2_with fail
        go_ret
        exact ⟨rfl, hg.trans ((hbw.trans b1).mono hg.size)⟩
end Go.Proofs.YtbcledidadjddaaDoor.Hub
