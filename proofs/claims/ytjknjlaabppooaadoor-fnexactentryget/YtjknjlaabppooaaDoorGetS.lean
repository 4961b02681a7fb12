/-
  How the model reads an entry.
-/
import Derived.Test.YtjknjlaabppooaaDoorFieldsS
import Derived.Test.YtjknjlaabppooaaDoorEntryPutT
import Derived.Deep.RegionHeld3
namespace Go.Proofs.YtjknjlaabppooaaDoor.Hub
open Go.RowKit
set_option linter.unusedVariables false

theorem fld_len (m : Nat) : ∀ (l acc : List UInt8), l.length ≤ m → ∀ p ∈ fldL acc l, p.length ≤ acc.length + l.length := by
  induction m with
  | zero =>
    intro l acc hl p hp
    have : l = [] := List.eq_nil_of_length_eq_zero (by omega)
    subst this
    rw [fldL] at hp
    rw [List.mem_singleton] at hp
    subst hp; simp
  | succ m ih =>
    intro l acc hl p hp
    cases l with
    | nil =>
      rw [fldL] at hp
      rw [List.mem_singleton] at hp
      subst hp; simp
    | cons x xs =>
      rw [List.length_cons] at hl ⊢
      by_cases h1 : x = 124
      · subst h1
        rw [fld_bar] at hp
        rcases List.mem_cons.1 hp with hp | hp
        · subst hp; omega
        · have := ih xs [] (by omega) p hp
          rw [List.length_nil] at this
          omega
      · by_cases h2 : x = 92
        · subst h2
          cases xs with
          | nil =>
            rw [fld_end, List.mem_singleton] at hp
            subst hp
            rw [List.length_append]
            simp
          | cons y ys =>
            rw [fld_esc] at hp
            rw [List.length_cons] at hl ⊢
            have := ih ys (acc ++ [y]) (by omega) p hp
            rw [List.length_append, List.length_singleton] at this
            omega
        · rw [fld_oth _ _ _ h1 h2] at hp
          have := ih xs (acc ++ [x]) (by omega) p hp
          rw [List.length_append, List.length_singleton] at this
          omega

/-- Nine texts in a list of its own. -/
def NineS (W : World) (g : Nat) (a b r u n t i f c : ByteArray) : Prop :=
  W.cell? ⟨g, 0, none⟩ = some (.string a) ∧ W.cell? ⟨g, 1, none⟩ = some (.string b) ∧ W.cell? ⟨g, 2, none⟩ = some (.string r) ∧ W.cell? ⟨g, 3, none⟩ = some (.string u) ∧ W.cell? ⟨g, 4, none⟩ = some (.string n) ∧ W.cell? ⟨g, 5, none⟩ = some (.string t) ∧ W.cell? ⟨g, 6, none⟩ = some (.string i) ∧ W.cell? ⟨g, 7, none⟩ = some (.string f) ∧ W.cell? ⟨g, 8, none⟩ = some (.string c)

theorem nineS_of {W : World} {base g cap : Nat} {a b r u n t i f c : List UInt8} (h : W.ownsRow base 9 1 (.slice (some ⟨g, 0, none⟩) 9 cap) 9 (strs [a, b, r, u, n, t, i, f, c])) : NineS W g (ofL a) (ofL b) (ofL r) (ofL u) (ofL n) (ofL t) (ofL i) (ofL f) (ofL c) :=
  ⟨World.ownsRow.cellAt h 0 (by omega), World.ownsRow.cellAt h 1 (by omega), World.ownsRow.cellAt h 2 (by omega), World.ownsRow.cellAt h 3 (by omega), World.ownsRow.cellAt h 4 (by omega), World.ownsRow.cellAt h 5 (by omega), World.ownsRow.cellAt h 6 (by omega), World.ownsRow.cellAt h 7 (by omega), World.ownsRow.cellAt h 8 (by omega)⟩

theorem new_heap (w : World) (C : Array Value) {T : TypeId} : ((w.alloc (.cells C T)).drew).heap[w.heap.size]? = some (.cells C T (0, 0)) := by
  show (w.heap.push (.cells C T))[w.heap.size]? = _
  rw [Array.getElem?_push_size]
theorem text_ne {a b : ByteArray} (h : ¬ a = b) : (a.toList == b.toList) = false := by
  rw [beq_eq_false_iff_ne, ByteArray.toList_eq, ByteArray.toList_eq]
  intro e
  exact h (ByteArray.ext (Array.toList_inj.1 e))
/-- An entry, stored field by field. -/
def nineW (W : World) (E : Nat) (r : ByteArray) (q k : Int) (u n t i f : ByteArray) (m : Int) : World :=
  ((((((((W.setCell ⟨E, 0, none⟩ (.string r)).setCell ⟨E, 1, none⟩ (.int .i64 q)).setCell ⟨E, 2, none⟩ (.int .i64 k)).setCell ⟨E, 3, none⟩ (.string u)).setCell ⟨E, 4, none⟩ (.string n)).setCell ⟨E, 5, none⟩ (.string t)).setCell ⟨E, 6, none⟩ (.string i)).setCell ⟨E, 7, none⟩ (.string f)).setCell ⟨E, 8, none⟩ (.int .i64 m)
theorem set_heap {W : World} {E : Nat} {C : Array Value} {T : TypeId} {fz : Nat × Nat} (h : W.heap[E]? = some (.cells C T fz)) (j : Nat) (v : Value) : (W.setCell ⟨E, j, none⟩ v).heap[E]? = some (.cells (C.setIfInBounds j v) T fz) := by
  simp [World.setCell, Array.getElem?_modify, h]
theorem nineW_heap {W : World} {E : Nat} {T : TypeId} {r0 u0 n0 t0 i0 f0 : Value} {q0 k0 m0 : Value} (h : W.heap[E]? = some (.cells #[r0, q0, k0, u0, n0, t0, i0, f0, m0] T (0, 0))) (r : ByteArray) (q k : Int) (u n t i f : ByteArray) (m : Int) :
    (nineW W E r q k u n t i f m).heap[E]? = some (.cells #[.string r, .int .i64 q, .int .i64 k, .string u, .string n, .string t, .string i, .string f, .int .i64 m] T (0, 0)) := by
  unfold nineW
  have := set_heap (set_heap (set_heap (set_heap (set_heap (set_heap (set_heap (set_heap (set_heap h 0 (.string r)) 1 (.int .i64 q)) 2 (.int .i64 k)) 3 (.string u)) 4 (.string n)) 5 (.string t)) 6 (.string i)) 7 (.string f)) 8 (.int .i64 m)
  simp only [List.setIfInBounds_toArray, List.set_cons_zero, List.set_cons_succ] at this
  exact this
theorem nineW_below {B : Nat} {V W : World} (h : Below B V W) {E : Nat} (hE : B ≤ E) (r : ByteArray) (q k : Int) (u n t i f : ByteArray) (m : Int) : Below B V (nineW W E r q k u n t i f m) :=
  ((((((((h.setCell (p := ⟨E, 0, none⟩) hE _).setCell (p := ⟨E, 1, none⟩) hE _).setCell (p := ⟨E, 2, none⟩) hE _).setCell (p := ⟨E, 3, none⟩) hE _).setCell (p := ⟨E, 4, none⟩) hE _).setCell (p := ⟨E, 5, none⟩) hE _).setCell (p := ⟨E, 6, none⟩) hE _).setCell (p := ⟨E, 7, none⟩) hE _).setCell (p := ⟨E, 8, none⟩) hE _
theorem nine_cells {W : World} {E : Nat} {T : TypeId} {r : ByteArray} {q k : Int} {u n t i f : ByteArray} {m : Int} (h : W.heap[E]? = some (.cells #[.string r, .int .i64 q, .int .i64 k, .string u, .string n, .string t, .string i, .string f, .int .i64 m] T (0, 0))) : Nine W E r q k u n t i f m := by
  unfold Nine
  simp only [World.cell?, h]
  exact ⟨rfl, rfl, rfl, rfl, rfl, rfl, rfl, rfl, rfl⟩

/-- Whether parts of a text are an entry that is written so. -/
def getB (s r : ByteArray) (q k : Int) (u n t i f : ByteArray) (m : Int) : Bool := entT r q k u n t i f m && decide (putT r q.toNat k.toNat u n t i f m.toNat = s)
def getV (s r : ByteArray) (q k : Int) (u n t i f : ByteArray) (m : Int) : Value := if getB s r q k u n t i f m = true then entV r q k u n t i f m else entV ⟨#[]⟩ 0 0 ⟨#[]⟩ ⟨#[]⟩ ⟨#[]⟩ ⟨#[]⟩ ⟨#[]⟩ 0

set_option maxRecDepth 100000 in
set_option maxHeartbeats 8000000 in
theorem l8Get_nine (s : ByteArray) (hs : s.size ≤ 1048576) (a b r u n t i f c : List UInt8) (hp : fldL [] s.data.toList = [a, b, r, u, n, t, i, f, c]) (w : World) :
    Calls Tryd.prog 7 #[.string s] w fun e w' => e = .returned (.tuple #[getV s (ofL r) (numT a) (numT b) (ofL u) (ofL n) (ofL t) (ofL i) (ofL f) (numT c), .bool (getB s (ofL r) (numT a) (numT b) (ofL u) (ofL n) (ofL t) (ofL i) (ofL f) (numT c))]) ∧ Below w.heap.size w w' := by
  have hl : s.data.toList.length = s.size := rfl
  have hz : ∀ p ∈ [a, b, r, u, n, t, i, f, c], (ofL p).size ≤ 1048576 := fun p h => by
    rw [← hp] at h
    have := fld_len s.size s.data.toList [] (by omega) p h
    show p.length ≤ _
    rw [List.length_nil] at this
    omega
  have za := hz a (by simp)
  have zb := hz b (by simp)
  have zc := hz c (by simp)
  have cA := fun W => l1Num_any (ofL a) za W
  have cB := fun W => l1Num_any (ofL b) zb W
  have cC := fun W => l1Num_any (ofL c) zc W
  have ea : (ofL a).data.toList = a := rfl
  have eb : (ofL b).data.toList = b := rfl
  have ec : (ofL c).data.toList = c := rfl
  rw [ea] at cA
  rw [eb] at cB
  rw [ec] at cC
  have hF : ∀ W, Calls Tryd.prog 11 #[.string s] W fun e w' => ∃ g cap, e = .returned (.slice (some ⟨g, 0, none⟩) 9 cap) ∧ NineS w' g (ofL a) (ofL b) (ofL r) (ofL u) (ofL n) (ofL t) (ofL i) (ofL f) (ofL c) ∧ W.heap.size ≤ g ∧ Below W.heap.size W w' := fun W => by
    have h := l8Fields_any s hs W
    rw [hp] at h
    refine h.mono ?_
    rintro e w' ⟨g, cap, rfl, hown, hb⟩
    exact ⟨g, cap, rfl, nineS_of hown, (hown.lt g rfl).1, hb⟩
  have zr : (ofL r).size ≤ 9223372036854775800 := Nat.le_trans (hz r (by simp)) (by omega)
  have zu : (ofL u).size ≤ 9223372036854775800 := Nat.le_trans (hz u (by simp)) (by omega)
  have zn : (ofL n).size ≤ 9223372036854775800 := Nat.le_trans (hz n (by simp)) (by omega)
  have zt : (ofL t).size ≤ 9223372036854775800 := Nat.le_trans (hz t (by simp)) (by omega)
  have zi : (ofL i).size ≤ 9223372036854775800 := Nat.le_trans (hz i (by simp)) (by omega)
  have zf : (ofL f).size ≤ 9223372036854775800 := Nat.le_trans (hz f (by simp)) (by omega)
  have hO := fun W => l6EntryOk_any (ofL r) (numT a) (numT b) (ofL u) (ofL n) (ofL t) (ofL i) (ofL f) (numT c) W zr zu zn zt zi zf
  have hPP : entT (ofL r) (numT a) (numT b) (ofL u) (ofL n) (ofL t) (ofL i) (ofL f) (numT c) = true → Hid (∀ W, Calls Tryd.prog 14 #[entV (ofL r) (numT a) (numT b) (ofL u) (ofL n) (ofL t) (ofL i) (ofL f) (numT c)] W fun e w' => e = .returned (.string (putT (ofL r) (numT a).toNat (numT b).toNat (ofL u) (ofL n) (ofL t) (ofL i) (ofL f) (numT c).toNat)) ∧ Below W.heap.size W w') := fun hE => by
    obtain ⟨a1, a2, a3, yr, yu, yn, yt, yi, yf⟩ := entT_small hE
    obtain ⟨q', hq⟩ := Int.eq_ofNat_of_zero_le a1.1
    obtain ⟨k', hk⟩ := Int.eq_ofNat_of_zero_le a2.1
    obtain ⟨m', hm⟩ := Int.eq_ofNat_of_zero_le a3.1
    rw [hq, hk, hm]
    simp only [Int.toNat_natCast]
    intro W
    exact l8Put_any (ofL r) (ofL u) (ofL n) (ofL t) (ofL i) (ofL f) q' k' m' W (by omega) (by omega) (by omega) yr yu yn yt yi yf
  unfold getV getB
  clear hz za zb zc ea eb ec hp hl zr zu zn zt zi zf
  generalize numT a = qa at *
  generalize numT b = kb at *
  generalize numT c = mc at *
  generalize ofL a = A at *
  generalize ofL b = B at *
  generalize ofL c = C at *
  generalize ofL r = r' at *
  generalize ofL u = u' at *
  generalize ofL n = n' at *
  generalize ofL t = t' at *
  generalize ofL i = i' at *
  generalize ofL f = f' at *
  generalize putT r' qa.toNat kb.toNat u' n' t' i' f' mc.toNat = PP at *
  obtain ⟨W0, hW0⟩ : ∃ W0, W0 = w.alloc (.cells #[.string ⟨#[]⟩, .int .i64 0, .int .i64 0, .string ⟨#[]⟩, .string ⟨#[]⟩, .string ⟨#[]⟩, .string ⟨#[]⟩, .string ⟨#[]⟩, .int .i64 0] 23) := ⟨_, rfl⟩
  have b0 : Below w.heap.size w W0 := by rw [hW0]; exact (Below.refl _ w).alloc (Nat.le_refl _) _
  have ZERO : Hid (∀ W : World, Below W0.heap.size W0 W → W.heap[w.heap.size]? = some (.cells #[.string ⟨#[]⟩, .int .i64 0, .int .i64 0, .string ⟨#[]⟩, .string ⟨#[]⟩, .string ⟨#[]⟩, .string ⟨#[]⟩, .string ⟨#[]⟩, .int .i64 0] 23 (0, 0))) := fun W bb => by
    rw [hW0] at bb
    exact (bb.block w.heap.size (by simp)).trans (new_heap w _)
  obtain ⟨T, hT⟩ : ∃ T, entT r' qa kb u' n' t' i' f' mc = T := ⟨_, rfl⟩
  rw [hT] at hPP hO ⊢
  clear hT
  obtain ⟨BB, hBB⟩ : ∃ BB, (T && decide (PP = s)) = BB := ⟨_, rfl⟩
  have HBB : Hid ((T && decide (PP = s)) = BB) := hBB
  rw [hBB]
  obtain ⟨VV, hVV⟩ : ∃ VV, (if BB = true then entV r' qa kb u' n' t' i' f' mc else entV ⟨#[]⟩ 0 0 ⟨#[]⟩ ⟨#[]⟩ ⟨#[]⟩ ⟨#[]⟩ ⟨#[]⟩ 0) = VV := ⟨_, rfl⟩
  have HVV : Hid ((if BB = true then entV r' qa kb u' n' t' i' f' mc else entV ⟨#[]⟩ 0 0 ⟨#[]⟩ ⟨#[]⟩ ⟨#[]⟩ ⟨#[]⟩ ⟨#[]⟩ 0) = VV) := hVV
  rw [hVV]
  clear hVV hBB
  go_enter Tryd.func7, Tryd.ntmps7
  go_wp2_with first
    | (go_at_call 11; rw [← hW0]; go_fit (hF W0); rintro e w1 ⟨g, cap, rfl, NS, hg, b1⟩)
  unfold NineS at NS
  clear hF
  have hgl : g < w1.heap.size := World.block_lt_of_cell? _ _ NS.1
  have NSD : Hid (NineS w1.drew g A B r' u' n' t' i' f' C) := NS
  obtain ⟨W2, hW2⟩ : ∃ W2, W2 = (w1.alloc (.cells #[.string ⟨#[]⟩, .int .i64 0, .int .i64 0, .string ⟨#[]⟩, .string ⟨#[]⟩, .string ⟨#[]⟩, .string ⟨#[]⟩, .string ⟨#[]⟩, .int .i64 0] 23)).drew := ⟨_, rfl⟩
  have b2 : Below w1.heap.size w1 W2 := by rw [hW2]; exact ((Below.refl _ w1).alloc (Nat.le_refl _) _).drew
  have NSA : Hid (NineS W2 g A B r' u' n' t' i' f' C) := by
    unfold NineS
    exact ⟨(b2.cell (p := ⟨g, 0, none⟩) hgl).trans NS.1, (b2.cell (p := ⟨g, 1, none⟩) hgl).trans NS.2.1, (b2.cell (p := ⟨g, 2, none⟩) hgl).trans NS.2.2.1, (b2.cell (p := ⟨g, 3, none⟩) hgl).trans NS.2.2.2.1, (b2.cell (p := ⟨g, 4, none⟩) hgl).trans NS.2.2.2.2.1, (b2.cell (p := ⟨g, 5, none⟩) hgl).trans NS.2.2.2.2.2.1, (b2.cell (p := ⟨g, 6, none⟩) hgl).trans NS.2.2.2.2.2.2.1, (b2.cell (p := ⟨g, 7, none⟩) hgl).trans NS.2.2.2.2.2.2.2.1, (b2.cell (p := ⟨g, 8, none⟩) hgl).trans NS.2.2.2.2.2.2.2.2⟩
  obtain ⟨E, hE⟩ : ∃ E, E = w1.heap.size := ⟨_, rfl⟩
  have HE : Hid (E = w1.heap.size) := hE
  have hb2 : W2.heap[E]? = some (.cells #[.string ⟨#[]⟩, .int .i64 0, .int .i64 0, .string ⟨#[]⟩, .string ⟨#[]⟩, .string ⟨#[]⟩, .string ⟨#[]⟩, .string ⟨#[]⟩, .int .i64 0] 23 (0, 0)) := by rw [hW2, hE]; exact new_heap w1 _
  have fz2 : ∀ j, W2.frozen? ⟨E, j, none⟩ = false := fun j => by simp [World.frozen?, hb2]
  have q0 : W2.cell? ⟨E, 0, none⟩ = some (.string ⟨#[]⟩) := by rw [World.cell?, hb2]; rfl
  have q1 : W2.cell? ⟨E, 1, none⟩ = some (.int .i64 0) := by rw [World.cell?, hb2]; rfl
  have q2 : W2.cell? ⟨E, 2, none⟩ = some (.int .i64 0) := by rw [World.cell?, hb2]; rfl
  have q3 : W2.cell? ⟨E, 3, none⟩ = some (.string ⟨#[]⟩) := by rw [World.cell?, hb2]; rfl
  have q4 : W2.cell? ⟨E, 4, none⟩ = some (.string ⟨#[]⟩) := by rw [World.cell?, hb2]; rfl
  have q5 : W2.cell? ⟨E, 5, none⟩ = some (.string ⟨#[]⟩) := by rw [World.cell?, hb2]; rfl
  have q6 : W2.cell? ⟨E, 6, none⟩ = some (.string ⟨#[]⟩) := by rw [World.cell?, hb2]; rfl
  have q7 : W2.cell? ⟨E, 7, none⟩ = some (.string ⟨#[]⟩) := by rw [World.cell?, hb2]; rfl
  have q8 : W2.cell? ⟨E, 8, none⟩ = some (.int .i64 0) := by rw [World.cell?, hb2]; rfl
  have HB2 : Hid (W2.heap[E]? = some (.cells #[.string ⟨#[]⟩, .int .i64 0, .int .i64 0, .string ⟨#[]⟩, .string ⟨#[]⟩, .string ⟨#[]⟩, .string ⟨#[]⟩, .string ⟨#[]⟩, .int .i64 0] 23 (0, 0))) := hb2
  have HW2 : Hid (W2 = (w1.alloc (.cells #[.string ⟨#[]⟩, .int .i64 0, .int .i64 0, .string ⟨#[]⟩, .string ⟨#[]⟩, .string ⟨#[]⟩, .string ⟨#[]⟩, .string ⟨#[]⟩, .int .i64 0] 23)).drew) := hW2
  obtain ⟨W3, hW3⟩ : ∃ W3, nineW W2 E r' qa kb u' n' t' i' f' mc = W3 := ⟨_, rfl⟩
  have b3 : Below w1.heap.size w1 W3 := by rw [← hW3]; exact nineW_below b2 (by omega) _ _ _ _ _ _ _ _ _
  have h3 : W3.heap[E]? = some (.cells #[.string r', .int .i64 qa, .int .i64 kb, .string u', .string n', .string t', .string i', .string f', .int .i64 mc] 23 (0, 0)) := by rw [← hW3]; exact nineW_heap hb2 _ _ _ _ _ _ _ _ _
  have NSC : Hid (NineS W3 g A B r' u' n' t' i' f' C) := by
    unfold NineS
    exact ⟨(b3.cell (p := ⟨g, 0, none⟩) hgl).trans NS.1, (b3.cell (p := ⟨g, 1, none⟩) hgl).trans NS.2.1, (b3.cell (p := ⟨g, 2, none⟩) hgl).trans NS.2.2.1, (b3.cell (p := ⟨g, 3, none⟩) hgl).trans NS.2.2.2.1, (b3.cell (p := ⟨g, 4, none⟩) hgl).trans NS.2.2.2.2.1, (b3.cell (p := ⟨g, 5, none⟩) hgl).trans NS.2.2.2.2.2.1, (b3.cell (p := ⟨g, 6, none⟩) hgl).trans NS.2.2.2.2.2.2.1, (b3.cell (p := ⟨g, 7, none⟩) hgl).trans NS.2.2.2.2.2.2.2.1, (b3.cell (p := ⟨g, 8, none⟩) hgl).trans NS.2.2.2.2.2.2.2.2⟩
  unfold nineW at hW3
  have HW3 : Hid (_ = W3) := hW3
  have H3 : Hid (W3.heap[E]? = some (.cells #[.string r', .int .i64 qa, .int .i64 kb, .string u', .string n', .string t', .string i', .string f', .int .i64 mc] 23 (0, 0))) := h3
  clear hE hb2 hW2 hW3 h3
  refine wp_region_held_drew (S := (fun W => W.cell? ⟨g, 0, none⟩ = some (.string A) ∧ W.cell? ⟨g, 1, none⟩ = some (.string B) ∧ W.cell? ⟨g, 2, none⟩ = some (.string r') ∧ W.cell? ⟨g, 3, none⟩ = some (.string u') ∧ W.cell? ⟨g, 4, none⟩ = some (.string n') ∧ W.cell? ⟨g, 5, none⟩ = some (.string t') ∧ W.cell? ⟨g, 6, none⟩ = some (.string i') ∧ W.cell? ⟨g, 7, none⟩ = some (.string f') ∧ W.cell? ⟨g, 8, none⟩ = some (.string C))) (by kernel_rfl) NSD.out (fun hHeld => ?_)
  refine wpAnyH_take (i := 0) (v := ?_) rfl (by kernel_rfl) (by kernel_rfl) (by kernel_rfl) (fun _ _ _ h => h) (Or.inl ⟨by rfl, ?takeYg1⟩) NSD.out ?takeRg1
  case takeYg1 => (intro w hSw; (try dsimp only at hSw); go_simp; try (with_reducible rfl))
  simp only [Act.put, List.setIfInBounds_toArray, List.set_cons_zero, List.set_cons_succ, List.getElem_toArray, List.getElem_cons_zero]
  refine wpAnyH_take (i := 1) (v := ?_) rfl (by kernel_rfl) (by kernel_rfl) (by kernel_rfl) (fun _ _ _ h => h) (Or.inl ⟨by rfl, ?takeYg2⟩) NSD.out ?takeRg2
  case takeYg2 => (intro w hSw; (try dsimp only at hSw); go_simp; try (with_reducible rfl))
  simp only [Act.put, List.setIfInBounds_toArray, List.set_cons_zero, List.set_cons_succ, List.getElem_toArray, List.getElem_cons_zero, List.getElem_cons_succ]
  refine wpAnyH_take (i := 2) (v := ?_) rfl (by kernel_rfl) (by kernel_rfl) (by kernel_rfl) (fun _ _ _ h => h) (Or.inl ⟨by rfl, ?takeYg3⟩) NSD.out ?takeRg3
  case takeYg3 => (intro w hSw; (try dsimp only at hSw); go_simp; try (with_reducible rfl))
  simp only [Act.put, List.setIfInBounds_toArray, List.set_cons_zero, List.set_cons_succ, List.getElem_toArray, List.getElem_cons_zero, List.getElem_cons_succ]
  refine wpAnyH_take (i := 4) (v := ?_) rfl (by kernel_rfl) (by kernel_rfl) (by kernel_rfl) (fun _ _ _ h => h) (Or.inl ⟨by rfl, ?takeYg4⟩) NSD.out ?takeRg4
  case takeYg4 => (intro w hSw; (try dsimp only at hSw); go_simp; try (with_reducible rfl))
  simp only [Act.put, List.setIfInBounds_toArray, List.set_cons_zero, List.set_cons_succ, List.getElem_toArray, List.getElem_cons_zero, List.getElem_cons_succ]
  refine wpAnyH_take (i := 5) (v := ?_) rfl (by kernel_rfl) (by kernel_rfl) (by kernel_rfl) (fun _ _ _ h => h) (Or.inl ⟨by rfl, ?takeYg5⟩) NSD.out ?takeRg5
  case takeYg5 => (intro w hSw; (try dsimp only at hSw); go_simp; try (with_reducible rfl))
  simp only [Act.put, List.setIfInBounds_toArray, List.set_cons_zero, List.set_cons_succ, List.getElem_toArray, List.getElem_cons_zero, List.getElem_cons_succ]
  refine wpAnyH_take (i := 6) (v := ?_) rfl (by kernel_rfl) (by kernel_rfl) (by kernel_rfl) (fun _ _ _ h => h) (Or.inl ⟨by rfl, ?takeYg6⟩) NSD.out ?takeRg6
  case takeYg6 => (intro w hSw; (try dsimp only at hSw); go_simp; try (with_reducible rfl))
  simp only [Act.put, List.setIfInBounds_toArray, List.set_cons_zero, List.set_cons_succ, List.getElem_toArray, List.getElem_cons_zero, List.getElem_cons_succ]
  refine wpAnyH_take (i := 8) (v := ?_) rfl (by kernel_rfl) (by kernel_rfl) (by kernel_rfl) (fun _ _ _ h => h) (Or.inl ⟨by rfl, ?takeYg7⟩) NSD.out ?takeRg7
  case takeYg7 => (intro w hSw; (try dsimp only at hSw); go_simp; try (with_reducible rfl))
  simp only [Act.put, List.setIfInBounds_toArray, List.set_cons_zero, List.set_cons_succ, List.getElem_toArray, List.getElem_cons_zero, List.getElem_cons_succ]
  refine wpAnyH_take (i := 9) (v := ?_) rfl (by kernel_rfl) (by kernel_rfl) (by kernel_rfl) (fun _ _ _ h => h) (Or.inl ⟨by rfl, ?takeYg8⟩) NSD.out ?takeRg8
  case takeYg8 => (intro w hSw; (try dsimp only at hSw); go_simp; try (with_reducible rfl))
  simp only [Act.put, List.setIfInBounds_toArray, List.set_cons_zero, List.set_cons_succ, List.getElem_toArray, List.getElem_cons_zero, List.getElem_cons_succ]
  refine wpAnyH_take (i := 10) (v := ?_) rfl (by kernel_rfl) (by kernel_rfl) (by kernel_rfl) (fun _ _ _ h => h) (Or.inl ⟨by rfl, ?takeYg9⟩) NSD.out ?takeRg9
  case takeYg9 => (intro w hSw; (try dsimp only at hSw); go_simp; try (with_reducible rfl))
  simp only [Act.put, List.setIfInBounds_toArray, List.set_cons_zero, List.set_cons_succ, List.getElem_toArray, List.getElem_cons_zero, List.getElem_cons_succ]
  refine wpAnyH_take (i := 11) (v := ?_) rfl (by kernel_rfl) (by kernel_rfl) (by kernel_rfl) (fun _ _ _ h => h) (Or.inl ⟨by rfl, ?takeYg10⟩) NSD.out ?takeRg10
  case takeYg10 => (intro w hSw; (try dsimp only at hSw); go_simp; try (with_reducible rfl))
  simp only [Act.put, List.setIfInBounds_toArray, List.set_cons_zero, List.set_cons_succ, List.getElem_toArray, List.getElem_cons_zero, List.getElem_cons_succ]
  refine wpAnyH_take (i := 12) (v := ?_) rfl (by kernel_rfl) (by kernel_rfl) (by kernel_rfl) (fun _ _ _ h => h) (Or.inl ⟨by rfl, ?takeYg11⟩) NSD.out ?takeRg11
  case takeYg11 => (intro w hSw; (try dsimp only at hSw); go_simp; try (with_reducible rfl))
  simp only [Act.put, List.setIfInBounds_toArray, List.set_cons_zero, List.set_cons_succ, List.getElem_toArray, List.getElem_cons_zero, List.getElem_cons_succ]
  refine wpAnyH_take (i := 13) (v := ?_) rfl (by kernel_rfl) (by kernel_rfl) (by kernel_rfl) (fun _ _ _ h => h) (Or.inl ⟨by rfl, ?takeYg12⟩) NSD.out ?takeRg12
  case takeYg12 => (intro w hSw; (try dsimp only at hSw); go_simp; try (with_reducible rfl))
  simp only [Act.put, List.setIfInBounds_toArray, List.set_cons_zero, List.set_cons_succ, List.getElem_toArray, List.getElem_cons_zero, List.getElem_cons_succ]
  refine wpAnyH_take (i := 14) (v := ?_) rfl (by kernel_rfl) (by kernel_rfl) (by kernel_rfl) (fun _ _ _ h => h) (Or.inl ⟨by rfl, ?takeYg13⟩) NSD.out ?takeRg13
  case takeYg13 => (intro w hSw; (try dsimp only at hSw); go_simp; try (with_reducible rfl))
  simp only [Act.put, List.setIfInBounds_toArray, List.set_cons_zero, List.set_cons_succ, List.getElem_toArray, List.getElem_cons_zero, List.getElem_cons_succ]
  refine wpAnyH_take (i := 15) (v := ?_) rfl (by kernel_rfl) (by kernel_rfl) (by kernel_rfl) (fun _ _ _ h => h) (Or.inl ⟨by rfl, ?takeYg14⟩) NSD.out ?takeRg14
  case takeYg14 => (intro w hSw; (try dsimp only at hSw); go_simp; try (with_reducible rfl))
  simp only [Act.put, List.setIfInBounds_toArray, List.set_cons_zero, List.set_cons_succ, List.getElem_toArray, List.getElem_cons_zero, List.getElem_cons_succ]
  refine wpAnyH_take (i := 16) (v := ?_) rfl (by kernel_rfl) (by kernel_rfl) (by kernel_rfl) (fun _ _ _ h => h) (Or.inl ⟨by rfl, ?takeYg15⟩) NSD.out ?takeRg15
  case takeYg15 => (intro w hSw; (try dsimp only at hSw); go_simp; try (with_reducible rfl))
  simp only [Act.put, List.setIfInBounds_toArray, List.set_cons_zero, List.set_cons_succ, List.getElem_toArray, List.getElem_cons_zero, List.getElem_cons_succ]
  refine wpAnyH_take (i := 17) (v := ?_) rfl (by kernel_rfl) (by kernel_rfl) (by kernel_rfl) (fun _ _ _ h => h) (Or.inl ⟨by rfl, ?takeYg16⟩) NSD.out ?takeRg16
  case takeYg16 => (intro w hSw; (try dsimp only at hSw); go_simp; try (with_reducible rfl))
  simp only [Act.put, List.setIfInBounds_toArray, List.set_cons_zero, List.set_cons_succ, List.getElem_toArray, List.getElem_cons_zero, List.getElem_cons_succ]
  refine wpAnyH_take (i := 18) (v := ?_) rfl (by kernel_rfl) (by kernel_rfl) (by kernel_rfl) (fun _ _ _ h => h) (Or.inl ⟨by rfl, ?takeYg17⟩) NSD.out ?takeRg17
  case takeYg17 => (intro w hSw; (try dsimp only at hSw); go_simp; try (with_reducible rfl))
  simp only [Act.put, List.setIfInBounds_toArray, List.set_cons_zero, List.set_cons_succ, List.getElem_toArray, List.getElem_cons_zero, List.getElem_cons_succ]
  refine wpAnyH_take (i := 19) (v := ?_) rfl (by kernel_rfl) (by kernel_rfl) (by kernel_rfl) (fun _ _ _ h => h) (Or.inl ⟨by rfl, ?takeYg18⟩) NSD.out ?takeRg18
  case takeYg18 => (intro w hSw; (try dsimp only at hSw); go_simp; try (with_reducible rfl))
  simp only [Act.put, List.setIfInBounds_toArray, List.set_cons_zero, List.set_cons_succ, List.getElem_toArray, List.getElem_cons_zero, List.getElem_cons_succ]
  refine wpAnyH_take (i := 20) (v := ?_) rfl (by kernel_rfl) (by kernel_rfl) (by kernel_rfl) (fun _ _ _ h => h) (Or.inl ⟨by rfl, ?takeYg19⟩) NSD.out ?takeRg19
  case takeYg19 => (intro w hSw; (try dsimp only at hSw); go_simp; try (with_reducible rfl))
  simp only [Act.put, List.setIfInBounds_toArray, List.set_cons_zero, List.set_cons_succ, List.getElem_toArray, List.getElem_cons_zero, List.getElem_cons_succ]
  refine wpAnyH_take (i := 21) (v := ?_) rfl (by kernel_rfl) (by kernel_rfl) (by kernel_rfl) (fun _ _ _ h => h) (Or.inl ⟨by rfl, ?takeYg20⟩) NSD.out ?takeRg20
  case takeYg20 => (intro w hSw; (try dsimp only at hSw); go_simp; try (with_reducible rfl))
  simp only [Act.put, List.setIfInBounds_toArray, List.set_cons_zero, List.set_cons_succ, List.getElem_toArray, List.getElem_cons_zero, List.getElem_cons_succ]
  refine wpAnyH_take (i := 22) (v := ?_) rfl (by kernel_rfl) (by kernel_rfl) (by kernel_rfl) (fun _ _ _ h => h) (Or.inl ⟨by rfl, ?takeYg21⟩) NSD.out ?takeRg21
  case takeYg21 => (intro w hSw; (try dsimp only at hSw); go_simp; try (with_reducible rfl))
  simp only [Act.put, List.setIfInBounds_toArray, List.set_cons_zero, List.set_cons_succ, List.getElem_toArray, List.getElem_cons_zero, List.getElem_cons_succ]
  refine wpAnyH_take (i := 23) (v := ?_) rfl (by kernel_rfl) (by kernel_rfl) (by kernel_rfl) (fun _ _ _ h => h) (Or.inl ⟨by rfl, ?takeYg22⟩) NSD.out ?takeRg22
  case takeYg22 => (intro w hSw; (try dsimp only at hSw); go_simp; try (with_reducible rfl))
  simp only [Act.put, List.setIfInBounds_toArray, List.set_cons_zero, List.set_cons_succ, List.getElem_toArray, List.getElem_cons_zero, List.getElem_cons_succ]
  refine wpAnyH_take (i := 24) (v := ?_) rfl (by kernel_rfl) (by kernel_rfl) (by kernel_rfl) (fun _ _ _ h => h) (Or.inl ⟨by rfl, ?takeYg23⟩) NSD.out ?takeRg23
  case takeYg23 => (intro w hSw; (try dsimp only at hSw); go_simp; try (with_reducible rfl))
  simp only [Act.put, List.setIfInBounds_toArray, List.set_cons_zero, List.set_cons_succ, List.getElem_toArray, List.getElem_cons_zero, List.getElem_cons_succ]
  refine wpAnyH_take (i := 25) (v := ?_) rfl (by kernel_rfl) (by kernel_rfl) (by kernel_rfl) (fun _ _ _ h => h) (Or.inl ⟨by rfl, ?takeYg24⟩) NSD.out ?takeRg24
  case takeYg24 => (intro w hSw; (try dsimp only at hSw); go_simp; try (with_reducible rfl))
  simp only [Act.put, List.setIfInBounds_toArray, List.set_cons_zero, List.set_cons_succ, List.getElem_toArray, List.getElem_cons_zero, List.getElem_cons_succ]
  refine wpAnyH_take (i := 26) (v := ?_) rfl (by kernel_rfl) (by kernel_rfl) (by kernel_rfl) (fun _ _ _ h => h) (Or.inl ⟨by rfl, ?takeYg25⟩) NSD.out ?takeRg25
  case takeYg25 => (intro w hSw; (try dsimp only at hSw); go_simp; try (with_reducible rfl))
  simp only [Act.put, List.setIfInBounds_toArray, List.set_cons_zero, List.set_cons_succ, List.getElem_toArray, List.getElem_cons_zero, List.getElem_cons_succ]
  refine wpAnyH_take (i := 27) (v := ?_) rfl (by kernel_rfl) (by kernel_rfl) (by kernel_rfl) (fun _ _ _ h => h) (Or.inl ⟨by rfl, ?takeYg26⟩) NSD.out ?takeRg26
  case takeYg26 => (intro w hSw; (try dsimp only at hSw); go_simp; try (with_reducible rfl))
  simp only [Act.put, List.setIfInBounds_toArray, List.set_cons_zero, List.set_cons_succ, List.getElem_toArray, List.getElem_cons_zero, List.getElem_cons_succ]
  refine wpAnyH_take (i := 28) (v := ?_) rfl (by kernel_rfl) (by kernel_rfl) (by kernel_rfl) (fun _ _ _ h => h) (Or.inl ⟨by rfl, ?takeYg27⟩) NSD.out ?takeRg27
  case takeYg27 => (intro w hSw; (try dsimp only at hSw); go_simp; try (with_reducible rfl))
  simp only [Act.put, List.setIfInBounds_toArray, List.set_cons_zero, List.set_cons_succ, List.getElem_toArray, List.getElem_cons_zero, List.getElem_cons_succ]
  refine wpAnyH_ready (rs := [3, 31]) (by kernel_rfl) (by simp) ?_
  refine (AllReadyH.cons rfl (fun K hK => ?_) (AllReadyH.cons rfl (fun K hK => ?_) AllReadyH.nil))
  · skip
    go_simp
    refine (cA _).mono ?_
    rintro e w9 ⟨rfl, rfl⟩
    go_wp2_with fail
    refine hK.out _ _ NSD.out (fun _ => ?_)
    clear hK K
    try simp only [Act.put, List.setIfInBounds_toArray, List.set_cons_zero, List.set_cons_succ, List.getElem_toArray, List.getElem_cons_zero, List.getElem_cons_succ]
    refine wpAnyH_ready (rs := [7, 31]) (by kernel_rfl) (by simp) ?_
    refine (AllReadyH.cons rfl (fun K hK => ?_) (AllReadyH.cons rfl (fun K hK => ?_) AllReadyH.nil))
    · skip
      go_simp
      refine (cB _).mono ?_
      rintro e w9 ⟨rfl, rfl⟩
      go_wp2_with fail
      refine hK.out _ _ NSD.out (fun _ => ?_)
      clear hK K
      try simp only [Act.put, List.setIfInBounds_toArray, List.set_cons_zero, List.set_cons_succ, List.getElem_toArray, List.getElem_cons_zero, List.getElem_cons_succ]
      refine wpAnyH_ready (rs := [29, 31]) (by kernel_rfl) (by simp) ?_
      refine (AllReadyH.cons rfl (fun K hK => ?_) (AllReadyH.cons rfl (fun K hK => ?_) AllReadyH.nil))
      · skip
        go_simp
        refine (cC _).mono ?_
        rintro e w9 ⟨rfl, rfl⟩
        go_wp2_with fail
        refine hK.out _ _ NSD.out (fun _ => ?_)
        clear hK K
        try simp only [Act.put, List.setIfInBounds_toArray, List.set_cons_zero, List.set_cons_succ, List.getElem_toArray, List.getElem_cons_zero, List.getElem_cons_succ]
        refine wpAnyH_take (i := 30) (v := ?_) rfl (by kernel_rfl) (by kernel_rfl) (by kernel_rfl) (fun _ _ _ h => h) (Or.inl ⟨by rfl, ?takeYg28⟩) NSD.out ?takeRg28
        case takeYg28 => (intro w hSw; (try dsimp only at hSw); go_simp; try (with_reducible rfl))
        simp only [Act.put, List.setIfInBounds_toArray, List.set_cons_zero, List.set_cons_succ, List.getElem_toArray, List.getElem_cons_zero, List.getElem_cons_succ]
        refine wpAnyH_ready (rs := [31]) (by kernel_rfl) (by simp) ?_
        refine AllReadyH.cons rfl (fun K hK => ?_) AllReadyH.nil
        go_simp
        rw [← HW2.out, ← HE.out]
        refine hK.out _ _ NSA.out (fun _ => ?_)
        clear hK K
        try simp only [Act.put, List.setIfInBounds_toArray, List.set_cons_zero, List.set_cons_succ, List.getElem_toArray, List.getElem_cons_zero, List.getElem_cons_succ]
        refine wpAnyH_ready (rs := [32]) (by kernel_rfl) (by simp) ?_
        refine AllReadyH.cons rfl (fun K hK => ?_) AllReadyH.nil
        go_simp
        rw [HW3.out]
        refine hK.out _ _ NSC.out (fun _ => ?_)
        clear hK K
        try simp only [Act.put, List.setIfInBounds_toArray, List.set_cons_zero, List.set_cons_succ, List.getElem_toArray, List.getElem_cons_zero, List.getElem_cons_succ]
        refine wpAnyH_done (by kernel_rfl) ?_ _
        clear NS NSD NSA NSC HW3 HW2 HB2 q0 q1 q2 q3 q4 q5 q6 q7 q8 fz2 b2 cA cB cC hgl hHeld
        have N3 := nine_cells H3.out
        unfold Nine at N3
        have hEl : E < W3.heap.size := World.block_lt_of_cell? _ _ N3.1
        cases T
        · go_wp2_with (go_at_call 13; go_fit (hO W3); rintro e w5 ⟨rfl, b5⟩; have Bw5 : Below W0.heap.size W0 w5 := b1.trans ((b3.trans (b5.mono b3.size)).mono b1.size); have Z5 := ZERO.out w5 Bw5; have ZH : Hid (w5.heap[w.heap.size]? = some (.cells #[.string ⟨#[]⟩, .int .i64 0, .int .i64 0, .string ⟨#[]⟩, .string ⟨#[]⟩, .string ⟨#[]⟩, .string ⟨#[]⟩, .string ⟨#[]⟩, .int .i64 0] 23 (0, 0))) := Z5; have BH : Hid (Below w.heap.size w w5) := b0.trans (Bw5.mono b0.size); obtain ⟨z0, z1, z2, z3, z4, z5, z6, z7, z8⟩ := nine_cells Z5; have zf : ∀ j, w5.frozen? ⟨w.heap.size, j, none⟩ = false := (fun j => (by simp [World.frozen?, Z5])); clear Z5)
          obtain ⟨W9, hW9⟩ : ∃ W9, nineW w5 w.heap.size ⟨#[]⟩ 0 0 ⟨#[]⟩ ⟨#[]⟩ ⟨#[]⟩ ⟨#[]⟩ ⟨#[]⟩ 0 = W9 := ⟨_, rfl⟩
          have N9 := nine_cells (nineW_heap ZH.out ⟨#[]⟩ 0 0 ⟨#[]⟩ ⟨#[]⟩ ⟨#[]⟩ ⟨#[]⟩ ⟨#[]⟩ 0)
          have b9 : Below w.heap.size w (nineW w5 w.heap.size ⟨#[]⟩ 0 0 ⟨#[]⟩ ⟨#[]⟩ ⟨#[]⟩ ⟨#[]⟩ ⟨#[]⟩ 0) := nineW_below BH.out (Nat.le_refl _) _ _ _ _ _ _ _ _ _
          rw [hW9] at N9 b9
          unfold nineW at hW9
          rw [hW9]
          obtain ⟨n0, n1, n2, n3, n4, n5, n6, n7, n8⟩ := N9
          refine bodyPost_ret (v := .tuple #[entV ⟨#[]⟩ 0 0 ⟨#[]⟩ ⟨#[]⟩ ⟨#[]⟩ ⟨#[]⟩ ⟨#[]⟩ 0, .bool false]) (by simp [results, Tryd.results7, go_sem, n0, n1, n2, n3, n4, n5, n6, n7, n8]) rfl ⟨?_, b9⟩
          rw [← HVV.out, ← HBB.out]
          rfl
        · have hP := (hPP rfl).out
          have EC : Hid (∀ W : World, Below W3.heap.size W3 W → W.heap[E]? = some (.cells #[.string r', .int .i64 qa, .int .i64 kb, .string u', .string n', .string t', .string i', .string f', .int .i64 mc] 23 (0, 0))) := fun W bb => (bb.block E hEl).trans H3.out
          by_cases hPs : PP = s
          · subst hPs
            go_wp2_with first
              | (go_at_call 14; go_fit (hP w5); rintro e w6 ⟨rfl, b6⟩; have b56 := b5.trans (b6.mono b5.size); obtain ⟨y0, y1, y2, y3, y4, y5, y6, y7, y8⟩ := nine_cells (EC.out w6 b56); have Bw6 : Below W0.heap.size W0 w6 := b1.trans ((b3.trans (b56.mono b3.size)).mono b1.size); have Z5 := ZERO.out w6 Bw6; have ZH : Hid (w6.heap[w.heap.size]? = some (.cells #[.string ⟨#[]⟩, .int .i64 0, .int .i64 0, .string ⟨#[]⟩, .string ⟨#[]⟩, .string ⟨#[]⟩, .string ⟨#[]⟩, .string ⟨#[]⟩, .int .i64 0] 23 (0, 0))) := Z5; have BH : Hid (Below w.heap.size w w6) := b0.trans (Bw6.mono b0.size); obtain ⟨z0, z1, z2, z3, z4, z5, z6, z7, z8⟩ := nine_cells Z5; have zf : ∀ j, w6.frozen? ⟨w.heap.size, j, none⟩ = false := (fun j => (by simp [World.frozen?, Z5])); clear Z5)
              | (go_at_call 13; go_fit (hO W3); rintro e w5 ⟨rfl, b5⟩; obtain ⟨x0, x1, x2, x3, x4, x5, x6, x7, x8⟩ := nine_cells (EC.out w5 b5))
            obtain ⟨W9, hW9⟩ : ∃ W9, nineW w6 w.heap.size r' qa kb u' n' t' i' f' mc = W9 := ⟨_, rfl⟩
            have N9 := nine_cells (nineW_heap ZH.out r' qa kb u' n' t' i' f' mc)
            have b9 : Below w.heap.size w (nineW w6 w.heap.size r' qa kb u' n' t' i' f' mc) := nineW_below BH.out (Nat.le_refl _) _ _ _ _ _ _ _ _ _
            rw [hW9] at N9 b9
            unfold nineW at hW9
            rw [hW9]
            obtain ⟨n0, n1, n2, n3, n4, n5, n6, n7, n8⟩ := N9
            refine bodyPost_ret (v := .tuple #[entV r' qa kb u' n' t' i' f' mc, .bool true]) (by simp [results, Tryd.results7, go_sem, n0, n1, n2, n3, n4, n5, n6, n7, n8]) rfl ⟨?_, b9⟩
            rw [← HVV.out, ← HBB.out]
            simp
          · have hne := text_ne hPs
            go_wp2_with first
              | (go_at_call 14; go_fit (hP w5); rintro e w6 ⟨rfl, b6⟩; have b56 := b5.trans (b6.mono b5.size); have Bw6 : Below W0.heap.size W0 w6 := b1.trans ((b3.trans (b56.mono b3.size)).mono b1.size); have Z5 := ZERO.out w6 Bw6; have ZH : Hid (w6.heap[w.heap.size]? = some (.cells #[.string ⟨#[]⟩, .int .i64 0, .int .i64 0, .string ⟨#[]⟩, .string ⟨#[]⟩, .string ⟨#[]⟩, .string ⟨#[]⟩, .string ⟨#[]⟩, .int .i64 0] 23 (0, 0))) := Z5; have BH : Hid (Below w.heap.size w w6) := b0.trans (Bw6.mono b0.size); obtain ⟨z0, z1, z2, z3, z4, z5, z6, z7, z8⟩ := nine_cells Z5; have zf : ∀ j, w6.frozen? ⟨w.heap.size, j, none⟩ = false := (fun j => (by simp [World.frozen?, Z5])); clear Z5)
              | (go_at_call 13; go_fit (hO W3); rintro e w5 ⟨rfl, b5⟩; obtain ⟨x0, x1, x2, x3, x4, x5, x6, x7, x8⟩ := nine_cells (EC.out w5 b5))
            obtain ⟨W9, hW9⟩ : ∃ W9, nineW w6 w.heap.size ⟨#[]⟩ 0 0 ⟨#[]⟩ ⟨#[]⟩ ⟨#[]⟩ ⟨#[]⟩ ⟨#[]⟩ 0 = W9 := ⟨_, rfl⟩
            have N9 := nine_cells (nineW_heap ZH.out ⟨#[]⟩ 0 0 ⟨#[]⟩ ⟨#[]⟩ ⟨#[]⟩ ⟨#[]⟩ ⟨#[]⟩ 0)
            have b9 : Below w.heap.size w (nineW w6 w.heap.size ⟨#[]⟩ 0 0 ⟨#[]⟩ ⟨#[]⟩ ⟨#[]⟩ ⟨#[]⟩ ⟨#[]⟩ 0) := nineW_below BH.out (Nat.le_refl _) _ _ _ _ _ _ _ _ _
            rw [hW9] at N9 b9
            unfold nineW at hW9
            rw [hW9]
            obtain ⟨n0, n1, n2, n3, n4, n5, n6, n7, n8⟩ := N9
            refine bodyPost_ret (v := .tuple #[entV ⟨#[]⟩ 0 0 ⟨#[]⟩ ⟨#[]⟩ ⟨#[]⟩ ⟨#[]⟩ ⟨#[]⟩ 0, .bool false]) (by simp [results, Tryd.results7, go_sem, n0, n1, n2, n3, n4, n5, n6, n7, n8]) rfl ⟨?_, b9⟩
            rw [← HVV.out, ← HBB.out, decide_eq_false hPs]
            rfl
      · skip
        go_simp
        rw [← HW2.out, ← HE.out]
        refine hK.out _ _ NSA.out (fun _ => ?_)
        clear hK K
        try simp only [Act.put, List.setIfInBounds_toArray, List.set_cons_zero, List.set_cons_succ, List.getElem_toArray, List.getElem_cons_zero, List.getElem_cons_succ]
        refine wpAnyH_ready (rs := [29]) (by kernel_rfl) (by simp) ?_
        refine AllReadyH.cons rfl (fun K hK => ?_) AllReadyH.nil
        go_simp
        refine (cC _).mono ?_
        rintro e w9 ⟨rfl, rfl⟩
        go_wp2_with fail
        refine hK.out _ _ NSA.out (fun _ => ?_)
        clear hK K
        try simp only [Act.put, List.setIfInBounds_toArray, List.set_cons_zero, List.set_cons_succ, List.getElem_toArray, List.getElem_cons_zero, List.getElem_cons_succ]
        refine wpAnyH_take (i := 30) (v := ?_) rfl (by kernel_rfl) (by kernel_rfl) (by kernel_rfl) (fun _ _ _ h => h) (Or.inl ⟨by rfl, ?takeYg29⟩) NSA.out ?takeRg29
        case takeYg29 => (intro w hSw; (try dsimp only at hSw); go_simp; try (with_reducible rfl))
        simp only [Act.put, List.setIfInBounds_toArray, List.set_cons_zero, List.set_cons_succ, List.getElem_toArray, List.getElem_cons_zero, List.getElem_cons_succ]
        refine wpAnyH_ready (rs := [32]) (by kernel_rfl) (by simp) ?_
        refine AllReadyH.cons rfl (fun K hK => ?_) AllReadyH.nil
        go_simp
        rw [HW3.out]
        refine hK.out _ _ NSC.out (fun _ => ?_)
        clear hK K
        try simp only [Act.put, List.setIfInBounds_toArray, List.set_cons_zero, List.set_cons_succ, List.getElem_toArray, List.getElem_cons_zero, List.getElem_cons_succ]
        refine wpAnyH_done (by kernel_rfl) ?_ _
        clear NS NSD NSA NSC HW3 HW2 HB2 q0 q1 q2 q3 q4 q5 q6 q7 q8 fz2 b2 cA cB cC hgl hHeld
        have N3 := nine_cells H3.out
        unfold Nine at N3
        have hEl : E < W3.heap.size := World.block_lt_of_cell? _ _ N3.1
        cases T
        · go_wp2_with (go_at_call 13; go_fit (hO W3); rintro e w5 ⟨rfl, b5⟩; have Bw5 : Below W0.heap.size W0 w5 := b1.trans ((b3.trans (b5.mono b3.size)).mono b1.size); have Z5 := ZERO.out w5 Bw5; have ZH : Hid (w5.heap[w.heap.size]? = some (.cells #[.string ⟨#[]⟩, .int .i64 0, .int .i64 0, .string ⟨#[]⟩, .string ⟨#[]⟩, .string ⟨#[]⟩, .string ⟨#[]⟩, .string ⟨#[]⟩, .int .i64 0] 23 (0, 0))) := Z5; have BH : Hid (Below w.heap.size w w5) := b0.trans (Bw5.mono b0.size); obtain ⟨z0, z1, z2, z3, z4, z5, z6, z7, z8⟩ := nine_cells Z5; have zf : ∀ j, w5.frozen? ⟨w.heap.size, j, none⟩ = false := (fun j => (by simp [World.frozen?, Z5])); clear Z5)
          obtain ⟨W9, hW9⟩ : ∃ W9, nineW w5 w.heap.size ⟨#[]⟩ 0 0 ⟨#[]⟩ ⟨#[]⟩ ⟨#[]⟩ ⟨#[]⟩ ⟨#[]⟩ 0 = W9 := ⟨_, rfl⟩
          have N9 := nine_cells (nineW_heap ZH.out ⟨#[]⟩ 0 0 ⟨#[]⟩ ⟨#[]⟩ ⟨#[]⟩ ⟨#[]⟩ ⟨#[]⟩ 0)
          have b9 : Below w.heap.size w (nineW w5 w.heap.size ⟨#[]⟩ 0 0 ⟨#[]⟩ ⟨#[]⟩ ⟨#[]⟩ ⟨#[]⟩ ⟨#[]⟩ 0) := nineW_below BH.out (Nat.le_refl _) _ _ _ _ _ _ _ _ _
          rw [hW9] at N9 b9
          unfold nineW at hW9
          rw [hW9]
          obtain ⟨n0, n1, n2, n3, n4, n5, n6, n7, n8⟩ := N9
          refine bodyPost_ret (v := .tuple #[entV ⟨#[]⟩ 0 0 ⟨#[]⟩ ⟨#[]⟩ ⟨#[]⟩ ⟨#[]⟩ ⟨#[]⟩ 0, .bool false]) (by simp [results, Tryd.results7, go_sem, n0, n1, n2, n3, n4, n5, n6, n7, n8]) rfl ⟨?_, b9⟩
          rw [← HVV.out, ← HBB.out]
          rfl
        · have hP := (hPP rfl).out
          have EC : Hid (∀ W : World, Below W3.heap.size W3 W → W.heap[E]? = some (.cells #[.string r', .int .i64 qa, .int .i64 kb, .string u', .string n', .string t', .string i', .string f', .int .i64 mc] 23 (0, 0))) := fun W bb => (bb.block E hEl).trans H3.out
          by_cases hPs : PP = s
          · subst hPs
            go_wp2_with first
              | (go_at_call 14; go_fit (hP w5); rintro e w6 ⟨rfl, b6⟩; have b56 := b5.trans (b6.mono b5.size); obtain ⟨y0, y1, y2, y3, y4, y5, y6, y7, y8⟩ := nine_cells (EC.out w6 b56); have Bw6 : Below W0.heap.size W0 w6 := b1.trans ((b3.trans (b56.mono b3.size)).mono b1.size); have Z5 := ZERO.out w6 Bw6; have ZH : Hid (w6.heap[w.heap.size]? = some (.cells #[.string ⟨#[]⟩, .int .i64 0, .int .i64 0, .string ⟨#[]⟩, .string ⟨#[]⟩, .string ⟨#[]⟩, .string ⟨#[]⟩, .string ⟨#[]⟩, .int .i64 0] 23 (0, 0))) := Z5; have BH : Hid (Below w.heap.size w w6) := b0.trans (Bw6.mono b0.size); obtain ⟨z0, z1, z2, z3, z4, z5, z6, z7, z8⟩ := nine_cells Z5; have zf : ∀ j, w6.frozen? ⟨w.heap.size, j, none⟩ = false := (fun j => (by simp [World.frozen?, Z5])); clear Z5)
              | (go_at_call 13; go_fit (hO W3); rintro e w5 ⟨rfl, b5⟩; obtain ⟨x0, x1, x2, x3, x4, x5, x6, x7, x8⟩ := nine_cells (EC.out w5 b5))
            obtain ⟨W9, hW9⟩ : ∃ W9, nineW w6 w.heap.size r' qa kb u' n' t' i' f' mc = W9 := ⟨_, rfl⟩
            have N9 := nine_cells (nineW_heap ZH.out r' qa kb u' n' t' i' f' mc)
            have b9 : Below w.heap.size w (nineW w6 w.heap.size r' qa kb u' n' t' i' f' mc) := nineW_below BH.out (Nat.le_refl _) _ _ _ _ _ _ _ _ _
            rw [hW9] at N9 b9
            unfold nineW at hW9
            rw [hW9]
            obtain ⟨n0, n1, n2, n3, n4, n5, n6, n7, n8⟩ := N9
            refine bodyPost_ret (v := .tuple #[entV r' qa kb u' n' t' i' f' mc, .bool true]) (by simp [results, Tryd.results7, go_sem, n0, n1, n2, n3, n4, n5, n6, n7, n8]) rfl ⟨?_, b9⟩
            rw [← HVV.out, ← HBB.out]
            simp
          · have hne := text_ne hPs
            go_wp2_with first
              | (go_at_call 14; go_fit (hP w5); rintro e w6 ⟨rfl, b6⟩; have b56 := b5.trans (b6.mono b5.size); have Bw6 : Below W0.heap.size W0 w6 := b1.trans ((b3.trans (b56.mono b3.size)).mono b1.size); have Z5 := ZERO.out w6 Bw6; have ZH : Hid (w6.heap[w.heap.size]? = some (.cells #[.string ⟨#[]⟩, .int .i64 0, .int .i64 0, .string ⟨#[]⟩, .string ⟨#[]⟩, .string ⟨#[]⟩, .string ⟨#[]⟩, .string ⟨#[]⟩, .int .i64 0] 23 (0, 0))) := Z5; have BH : Hid (Below w.heap.size w w6) := b0.trans (Bw6.mono b0.size); obtain ⟨z0, z1, z2, z3, z4, z5, z6, z7, z8⟩ := nine_cells Z5; have zf : ∀ j, w6.frozen? ⟨w.heap.size, j, none⟩ = false := (fun j => (by simp [World.frozen?, Z5])); clear Z5)
              | (go_at_call 13; go_fit (hO W3); rintro e w5 ⟨rfl, b5⟩; obtain ⟨x0, x1, x2, x3, x4, x5, x6, x7, x8⟩ := nine_cells (EC.out w5 b5))
            obtain ⟨W9, hW9⟩ : ∃ W9, nineW w6 w.heap.size ⟨#[]⟩ 0 0 ⟨#[]⟩ ⟨#[]⟩ ⟨#[]⟩ ⟨#[]⟩ ⟨#[]⟩ 0 = W9 := ⟨_, rfl⟩
            have N9 := nine_cells (nineW_heap ZH.out ⟨#[]⟩ 0 0 ⟨#[]⟩ ⟨#[]⟩ ⟨#[]⟩ ⟨#[]⟩ ⟨#[]⟩ 0)
            have b9 : Below w.heap.size w (nineW w6 w.heap.size ⟨#[]⟩ 0 0 ⟨#[]⟩ ⟨#[]⟩ ⟨#[]⟩ ⟨#[]⟩ ⟨#[]⟩ 0) := nineW_below BH.out (Nat.le_refl _) _ _ _ _ _ _ _ _ _
            rw [hW9] at N9 b9
            unfold nineW at hW9
            rw [hW9]
            obtain ⟨n0, n1, n2, n3, n4, n5, n6, n7, n8⟩ := N9
            refine bodyPost_ret (v := .tuple #[entV ⟨#[]⟩ 0 0 ⟨#[]⟩ ⟨#[]⟩ ⟨#[]⟩ ⟨#[]⟩ ⟨#[]⟩ 0, .bool false]) (by simp [results, Tryd.results7, go_sem, n0, n1, n2, n3, n4, n5, n6, n7, n8]) rfl ⟨?_, b9⟩
            rw [← HVV.out, ← HBB.out, decide_eq_false hPs]
            rfl
    · skip
      go_simp
      rw [← HW2.out, ← HE.out]
      refine hK.out _ _ NSA.out (fun _ => ?_)
      clear hK K
      try simp only [Act.put, List.setIfInBounds_toArray, List.set_cons_zero, List.set_cons_succ, List.getElem_toArray, List.getElem_cons_zero, List.getElem_cons_succ]
      refine wpAnyH_ready (rs := [7]) (by kernel_rfl) (by simp) ?_
      refine AllReadyH.cons rfl (fun K hK => ?_) AllReadyH.nil
      go_simp
      refine (cB _).mono ?_
      rintro e w9 ⟨rfl, rfl⟩
      go_wp2_with fail
      refine hK.out _ _ NSA.out (fun _ => ?_)
      clear hK K
      try simp only [Act.put, List.setIfInBounds_toArray, List.set_cons_zero, List.set_cons_succ, List.getElem_toArray, List.getElem_cons_zero, List.getElem_cons_succ]
      refine wpAnyH_ready (rs := [29]) (by kernel_rfl) (by simp) ?_
      refine AllReadyH.cons rfl (fun K hK => ?_) AllReadyH.nil
      go_simp
      refine (cC _).mono ?_
      rintro e w9 ⟨rfl, rfl⟩
      go_wp2_with fail
      refine hK.out _ _ NSA.out (fun _ => ?_)
      clear hK K
      try simp only [Act.put, List.setIfInBounds_toArray, List.set_cons_zero, List.set_cons_succ, List.getElem_toArray, List.getElem_cons_zero, List.getElem_cons_succ]
      refine wpAnyH_take (i := 30) (v := ?_) rfl (by kernel_rfl) (by kernel_rfl) (by kernel_rfl) (fun _ _ _ h => h) (Or.inl ⟨by rfl, ?takeYg30⟩) NSA.out ?takeRg30
      case takeYg30 => (intro w hSw; (try dsimp only at hSw); go_simp; try (with_reducible rfl))
      simp only [Act.put, List.setIfInBounds_toArray, List.set_cons_zero, List.set_cons_succ, List.getElem_toArray, List.getElem_cons_zero, List.getElem_cons_succ]
      refine wpAnyH_ready (rs := [32]) (by kernel_rfl) (by simp) ?_
      refine AllReadyH.cons rfl (fun K hK => ?_) AllReadyH.nil
      go_simp
      rw [HW3.out]
      refine hK.out _ _ NSC.out (fun _ => ?_)
      clear hK K
      try simp only [Act.put, List.setIfInBounds_toArray, List.set_cons_zero, List.set_cons_succ, List.getElem_toArray, List.getElem_cons_zero, List.getElem_cons_succ]
      refine wpAnyH_done (by kernel_rfl) ?_ _
      clear NS NSD NSA NSC HW3 HW2 HB2 q0 q1 q2 q3 q4 q5 q6 q7 q8 fz2 b2 cA cB cC hgl hHeld
      have N3 := nine_cells H3.out
      unfold Nine at N3
      have hEl : E < W3.heap.size := World.block_lt_of_cell? _ _ N3.1
      cases T
      · go_wp2_with (go_at_call 13; go_fit (hO W3); rintro e w5 ⟨rfl, b5⟩; have Bw5 : Below W0.heap.size W0 w5 := b1.trans ((b3.trans (b5.mono b3.size)).mono b1.size); have Z5 := ZERO.out w5 Bw5; have ZH : Hid (w5.heap[w.heap.size]? = some (.cells #[.string ⟨#[]⟩, .int .i64 0, .int .i64 0, .string ⟨#[]⟩, .string ⟨#[]⟩, .string ⟨#[]⟩, .string ⟨#[]⟩, .string ⟨#[]⟩, .int .i64 0] 23 (0, 0))) := Z5; have BH : Hid (Below w.heap.size w w5) := b0.trans (Bw5.mono b0.size); obtain ⟨z0, z1, z2, z3, z4, z5, z6, z7, z8⟩ := nine_cells Z5; have zf : ∀ j, w5.frozen? ⟨w.heap.size, j, none⟩ = false := (fun j => (by simp [World.frozen?, Z5])); clear Z5)
        obtain ⟨W9, hW9⟩ : ∃ W9, nineW w5 w.heap.size ⟨#[]⟩ 0 0 ⟨#[]⟩ ⟨#[]⟩ ⟨#[]⟩ ⟨#[]⟩ ⟨#[]⟩ 0 = W9 := ⟨_, rfl⟩
        have N9 := nine_cells (nineW_heap ZH.out ⟨#[]⟩ 0 0 ⟨#[]⟩ ⟨#[]⟩ ⟨#[]⟩ ⟨#[]⟩ ⟨#[]⟩ 0)
        have b9 : Below w.heap.size w (nineW w5 w.heap.size ⟨#[]⟩ 0 0 ⟨#[]⟩ ⟨#[]⟩ ⟨#[]⟩ ⟨#[]⟩ ⟨#[]⟩ 0) := nineW_below BH.out (Nat.le_refl _) _ _ _ _ _ _ _ _ _
        rw [hW9] at N9 b9
        unfold nineW at hW9
        rw [hW9]
        obtain ⟨n0, n1, n2, n3, n4, n5, n6, n7, n8⟩ := N9
        refine bodyPost_ret (v := .tuple #[entV ⟨#[]⟩ 0 0 ⟨#[]⟩ ⟨#[]⟩ ⟨#[]⟩ ⟨#[]⟩ ⟨#[]⟩ 0, .bool false]) (by simp [results, Tryd.results7, go_sem, n0, n1, n2, n3, n4, n5, n6, n7, n8]) rfl ⟨?_, b9⟩
        rw [← HVV.out, ← HBB.out]
        rfl
      · have hP := (hPP rfl).out
        have EC : Hid (∀ W : World, Below W3.heap.size W3 W → W.heap[E]? = some (.cells #[.string r', .int .i64 qa, .int .i64 kb, .string u', .string n', .string t', .string i', .string f', .int .i64 mc] 23 (0, 0))) := fun W bb => (bb.block E hEl).trans H3.out
        by_cases hPs : PP = s
        · subst hPs
          go_wp2_with first
            | (go_at_call 14; go_fit (hP w5); rintro e w6 ⟨rfl, b6⟩; have b56 := b5.trans (b6.mono b5.size); obtain ⟨y0, y1, y2, y3, y4, y5, y6, y7, y8⟩ := nine_cells (EC.out w6 b56); have Bw6 : Below W0.heap.size W0 w6 := b1.trans ((b3.trans (b56.mono b3.size)).mono b1.size); have Z5 := ZERO.out w6 Bw6; have ZH : Hid (w6.heap[w.heap.size]? = some (.cells #[.string ⟨#[]⟩, .int .i64 0, .int .i64 0, .string ⟨#[]⟩, .string ⟨#[]⟩, .string ⟨#[]⟩, .string ⟨#[]⟩, .string ⟨#[]⟩, .int .i64 0] 23 (0, 0))) := Z5; have BH : Hid (Below w.heap.size w w6) := b0.trans (Bw6.mono b0.size); obtain ⟨z0, z1, z2, z3, z4, z5, z6, z7, z8⟩ := nine_cells Z5; have zf : ∀ j, w6.frozen? ⟨w.heap.size, j, none⟩ = false := (fun j => (by simp [World.frozen?, Z5])); clear Z5)
            | (go_at_call 13; go_fit (hO W3); rintro e w5 ⟨rfl, b5⟩; obtain ⟨x0, x1, x2, x3, x4, x5, x6, x7, x8⟩ := nine_cells (EC.out w5 b5))
          obtain ⟨W9, hW9⟩ : ∃ W9, nineW w6 w.heap.size r' qa kb u' n' t' i' f' mc = W9 := ⟨_, rfl⟩
          have N9 := nine_cells (nineW_heap ZH.out r' qa kb u' n' t' i' f' mc)
          have b9 : Below w.heap.size w (nineW w6 w.heap.size r' qa kb u' n' t' i' f' mc) := nineW_below BH.out (Nat.le_refl _) _ _ _ _ _ _ _ _ _
          rw [hW9] at N9 b9
          unfold nineW at hW9
          rw [hW9]
          obtain ⟨n0, n1, n2, n3, n4, n5, n6, n7, n8⟩ := N9
          refine bodyPost_ret (v := .tuple #[entV r' qa kb u' n' t' i' f' mc, .bool true]) (by simp [results, Tryd.results7, go_sem, n0, n1, n2, n3, n4, n5, n6, n7, n8]) rfl ⟨?_, b9⟩
          rw [← HVV.out, ← HBB.out]
          simp
        · have hne := text_ne hPs
          go_wp2_with first
            | (go_at_call 14; go_fit (hP w5); rintro e w6 ⟨rfl, b6⟩; have b56 := b5.trans (b6.mono b5.size); have Bw6 : Below W0.heap.size W0 w6 := b1.trans ((b3.trans (b56.mono b3.size)).mono b1.size); have Z5 := ZERO.out w6 Bw6; have ZH : Hid (w6.heap[w.heap.size]? = some (.cells #[.string ⟨#[]⟩, .int .i64 0, .int .i64 0, .string ⟨#[]⟩, .string ⟨#[]⟩, .string ⟨#[]⟩, .string ⟨#[]⟩, .string ⟨#[]⟩, .int .i64 0] 23 (0, 0))) := Z5; have BH : Hid (Below w.heap.size w w6) := b0.trans (Bw6.mono b0.size); obtain ⟨z0, z1, z2, z3, z4, z5, z6, z7, z8⟩ := nine_cells Z5; have zf : ∀ j, w6.frozen? ⟨w.heap.size, j, none⟩ = false := (fun j => (by simp [World.frozen?, Z5])); clear Z5)
            | (go_at_call 13; go_fit (hO W3); rintro e w5 ⟨rfl, b5⟩; obtain ⟨x0, x1, x2, x3, x4, x5, x6, x7, x8⟩ := nine_cells (EC.out w5 b5))
          obtain ⟨W9, hW9⟩ : ∃ W9, nineW w6 w.heap.size ⟨#[]⟩ 0 0 ⟨#[]⟩ ⟨#[]⟩ ⟨#[]⟩ ⟨#[]⟩ ⟨#[]⟩ 0 = W9 := ⟨_, rfl⟩
          have N9 := nine_cells (nineW_heap ZH.out ⟨#[]⟩ 0 0 ⟨#[]⟩ ⟨#[]⟩ ⟨#[]⟩ ⟨#[]⟩ ⟨#[]⟩ 0)
          have b9 : Below w.heap.size w (nineW w6 w.heap.size ⟨#[]⟩ 0 0 ⟨#[]⟩ ⟨#[]⟩ ⟨#[]⟩ ⟨#[]⟩ ⟨#[]⟩ 0) := nineW_below BH.out (Nat.le_refl _) _ _ _ _ _ _ _ _ _
          rw [hW9] at N9 b9
          unfold nineW at hW9
          rw [hW9]
          obtain ⟨n0, n1, n2, n3, n4, n5, n6, n7, n8⟩ := N9
          refine bodyPost_ret (v := .tuple #[entV ⟨#[]⟩ 0 0 ⟨#[]⟩ ⟨#[]⟩ ⟨#[]⟩ ⟨#[]⟩ ⟨#[]⟩ 0, .bool false]) (by simp [results, Tryd.results7, go_sem, n0, n1, n2, n3, n4, n5, n6, n7, n8]) rfl ⟨?_, b9⟩
          rw [← HVV.out, ← HBB.out, decide_eq_false hPs]
          rfl
  · skip
    go_simp
    rw [← HW2.out, ← HE.out]
    refine hK.out _ _ NSA.out (fun _ => ?_)
    clear hK K
    try simp only [Act.put, List.setIfInBounds_toArray, List.set_cons_zero, List.set_cons_succ, List.getElem_toArray, List.getElem_cons_zero, List.getElem_cons_succ]
    refine wpAnyH_ready (rs := [3]) (by kernel_rfl) (by simp) ?_
    refine AllReadyH.cons rfl (fun K hK => ?_) AllReadyH.nil
    go_simp
    refine (cA _).mono ?_
    rintro e w9 ⟨rfl, rfl⟩
    go_wp2_with fail
    refine hK.out _ _ NSA.out (fun _ => ?_)
    clear hK K
    try simp only [Act.put, List.setIfInBounds_toArray, List.set_cons_zero, List.set_cons_succ, List.getElem_toArray, List.getElem_cons_zero, List.getElem_cons_succ]
    refine wpAnyH_ready (rs := [7]) (by kernel_rfl) (by simp) ?_
    refine AllReadyH.cons rfl (fun K hK => ?_) AllReadyH.nil
    go_simp
    refine (cB _).mono ?_
    rintro e w9 ⟨rfl, rfl⟩
    go_wp2_with fail
    refine hK.out _ _ NSA.out (fun _ => ?_)
    clear hK K
    try simp only [Act.put, List.setIfInBounds_toArray, List.set_cons_zero, List.set_cons_succ, List.getElem_toArray, List.getElem_cons_zero, List.getElem_cons_succ]
    refine wpAnyH_ready (rs := [29]) (by kernel_rfl) (by simp) ?_
    refine AllReadyH.cons rfl (fun K hK => ?_) AllReadyH.nil
    go_simp
    refine (cC _).mono ?_
    rintro e w9 ⟨rfl, rfl⟩
    go_wp2_with fail
    refine hK.out _ _ NSA.out (fun _ => ?_)
    clear hK K
    try simp only [Act.put, List.setIfInBounds_toArray, List.set_cons_zero, List.set_cons_succ, List.getElem_toArray, List.getElem_cons_zero, List.getElem_cons_succ]
    refine wpAnyH_take (i := 30) (v := ?_) rfl (by kernel_rfl) (by kernel_rfl) (by kernel_rfl) (fun _ _ _ h => h) (Or.inl ⟨by rfl, ?takeYg31⟩) NSA.out ?takeRg31
    case takeYg31 => (intro w hSw; (try dsimp only at hSw); go_simp; try (with_reducible rfl))
    simp only [Act.put, List.setIfInBounds_toArray, List.set_cons_zero, List.set_cons_succ, List.getElem_toArray, List.getElem_cons_zero, List.getElem_cons_succ]
    refine wpAnyH_ready (rs := [32]) (by kernel_rfl) (by simp) ?_
    refine AllReadyH.cons rfl (fun K hK => ?_) AllReadyH.nil
    go_simp
    rw [HW3.out]
    refine hK.out _ _ NSC.out (fun _ => ?_)
    clear hK K
    try simp only [Act.put, List.setIfInBounds_toArray, List.set_cons_zero, List.set_cons_succ, List.getElem_toArray, List.getElem_cons_zero, List.getElem_cons_succ]
    refine wpAnyH_done (by kernel_rfl) ?_ _
    clear NS NSD NSA NSC HW3 HW2 HB2 q0 q1 q2 q3 q4 q5 q6 q7 q8 fz2 b2 cA cB cC hgl hHeld
    have N3 := nine_cells H3.out
    unfold Nine at N3
    have hEl : E < W3.heap.size := World.block_lt_of_cell? _ _ N3.1
    cases T
    · go_wp2_with (go_at_call 13; go_fit (hO W3); rintro e w5 ⟨rfl, b5⟩; have Bw5 : Below W0.heap.size W0 w5 := b1.trans ((b3.trans (b5.mono b3.size)).mono b1.size); have Z5 := ZERO.out w5 Bw5; have ZH : Hid (w5.heap[w.heap.size]? = some (.cells #[.string ⟨#[]⟩, .int .i64 0, .int .i64 0, .string ⟨#[]⟩, .string ⟨#[]⟩, .string ⟨#[]⟩, .string ⟨#[]⟩, .string ⟨#[]⟩, .int .i64 0] 23 (0, 0))) := Z5; have BH : Hid (Below w.heap.size w w5) := b0.trans (Bw5.mono b0.size); obtain ⟨z0, z1, z2, z3, z4, z5, z6, z7, z8⟩ := nine_cells Z5; have zf : ∀ j, w5.frozen? ⟨w.heap.size, j, none⟩ = false := (fun j => (by simp [World.frozen?, Z5])); clear Z5)
      obtain ⟨W9, hW9⟩ : ∃ W9, nineW w5 w.heap.size ⟨#[]⟩ 0 0 ⟨#[]⟩ ⟨#[]⟩ ⟨#[]⟩ ⟨#[]⟩ ⟨#[]⟩ 0 = W9 := ⟨_, rfl⟩
      have N9 := nine_cells (nineW_heap ZH.out ⟨#[]⟩ 0 0 ⟨#[]⟩ ⟨#[]⟩ ⟨#[]⟩ ⟨#[]⟩ ⟨#[]⟩ 0)
      have b9 : Below w.heap.size w (nineW w5 w.heap.size ⟨#[]⟩ 0 0 ⟨#[]⟩ ⟨#[]⟩ ⟨#[]⟩ ⟨#[]⟩ ⟨#[]⟩ 0) := nineW_below BH.out (Nat.le_refl _) _ _ _ _ _ _ _ _ _
      rw [hW9] at N9 b9
      unfold nineW at hW9
      rw [hW9]
      obtain ⟨n0, n1, n2, n3, n4, n5, n6, n7, n8⟩ := N9
      refine bodyPost_ret (v := .tuple #[entV ⟨#[]⟩ 0 0 ⟨#[]⟩ ⟨#[]⟩ ⟨#[]⟩ ⟨#[]⟩ ⟨#[]⟩ 0, .bool false]) (by simp [results, Tryd.results7, go_sem, n0, n1, n2, n3, n4, n5, n6, n7, n8]) rfl ⟨?_, b9⟩
      rw [← HVV.out, ← HBB.out]
      rfl
    · have hP := (hPP rfl).out
      have EC : Hid (∀ W : World, Below W3.heap.size W3 W → W.heap[E]? = some (.cells #[.string r', .int .i64 qa, .int .i64 kb, .string u', .string n', .string t', .string i', .string f', .int .i64 mc] 23 (0, 0))) := fun W bb => (bb.block E hEl).trans H3.out
      by_cases hPs : PP = s
      · subst hPs
        go_wp2_with first
          | (go_at_call 14; go_fit (hP w5); rintro e w6 ⟨rfl, b6⟩; have b56 := b5.trans (b6.mono b5.size); obtain ⟨y0, y1, y2, y3, y4, y5, y6, y7, y8⟩ := nine_cells (EC.out w6 b56); have Bw6 : Below W0.heap.size W0 w6 := b1.trans ((b3.trans (b56.mono b3.size)).mono b1.size); have Z5 := ZERO.out w6 Bw6; have ZH : Hid (w6.heap[w.heap.size]? = some (.cells #[.string ⟨#[]⟩, .int .i64 0, .int .i64 0, .string ⟨#[]⟩, .string ⟨#[]⟩, .string ⟨#[]⟩, .string ⟨#[]⟩, .string ⟨#[]⟩, .int .i64 0] 23 (0, 0))) := Z5; have BH : Hid (Below w.heap.size w w6) := b0.trans (Bw6.mono b0.size); obtain ⟨z0, z1, z2, z3, z4, z5, z6, z7, z8⟩ := nine_cells Z5; have zf : ∀ j, w6.frozen? ⟨w.heap.size, j, none⟩ = false := (fun j => (by simp [World.frozen?, Z5])); clear Z5)
          | (go_at_call 13; go_fit (hO W3); rintro e w5 ⟨rfl, b5⟩; obtain ⟨x0, x1, x2, x3, x4, x5, x6, x7, x8⟩ := nine_cells (EC.out w5 b5))
        obtain ⟨W9, hW9⟩ : ∃ W9, nineW w6 w.heap.size r' qa kb u' n' t' i' f' mc = W9 := ⟨_, rfl⟩
        have N9 := nine_cells (nineW_heap ZH.out r' qa kb u' n' t' i' f' mc)
        have b9 : Below w.heap.size w (nineW w6 w.heap.size r' qa kb u' n' t' i' f' mc) := nineW_below BH.out (Nat.le_refl _) _ _ _ _ _ _ _ _ _
        rw [hW9] at N9 b9
        unfold nineW at hW9
        rw [hW9]
        obtain ⟨n0, n1, n2, n3, n4, n5, n6, n7, n8⟩ := N9
        refine bodyPost_ret (v := .tuple #[entV r' qa kb u' n' t' i' f' mc, .bool true]) (by simp [results, Tryd.results7, go_sem, n0, n1, n2, n3, n4, n5, n6, n7, n8]) rfl ⟨?_, b9⟩
        rw [← HVV.out, ← HBB.out]
        simp
      · have hne := text_ne hPs
        go_wp2_with first
          | (go_at_call 14; go_fit (hP w5); rintro e w6 ⟨rfl, b6⟩; have b56 := b5.trans (b6.mono b5.size); have Bw6 : Below W0.heap.size W0 w6 := b1.trans ((b3.trans (b56.mono b3.size)).mono b1.size); have Z5 := ZERO.out w6 Bw6; have ZH : Hid (w6.heap[w.heap.size]? = some (.cells #[.string ⟨#[]⟩, .int .i64 0, .int .i64 0, .string ⟨#[]⟩, .string ⟨#[]⟩, .string ⟨#[]⟩, .string ⟨#[]⟩, .string ⟨#[]⟩, .int .i64 0] 23 (0, 0))) := Z5; have BH : Hid (Below w.heap.size w w6) := b0.trans (Bw6.mono b0.size); obtain ⟨z0, z1, z2, z3, z4, z5, z6, z7, z8⟩ := nine_cells Z5; have zf : ∀ j, w6.frozen? ⟨w.heap.size, j, none⟩ = false := (fun j => (by simp [World.frozen?, Z5])); clear Z5)
          | (go_at_call 13; go_fit (hO W3); rintro e w5 ⟨rfl, b5⟩; obtain ⟨x0, x1, x2, x3, x4, x5, x6, x7, x8⟩ := nine_cells (EC.out w5 b5))
        obtain ⟨W9, hW9⟩ : ∃ W9, nineW w6 w.heap.size ⟨#[]⟩ 0 0 ⟨#[]⟩ ⟨#[]⟩ ⟨#[]⟩ ⟨#[]⟩ ⟨#[]⟩ 0 = W9 := ⟨_, rfl⟩
        have N9 := nine_cells (nineW_heap ZH.out ⟨#[]⟩ 0 0 ⟨#[]⟩ ⟨#[]⟩ ⟨#[]⟩ ⟨#[]⟩ ⟨#[]⟩ 0)
        have b9 : Below w.heap.size w (nineW w6 w.heap.size ⟨#[]⟩ 0 0 ⟨#[]⟩ ⟨#[]⟩ ⟨#[]⟩ ⟨#[]⟩ ⟨#[]⟩ 0) := nineW_below BH.out (Nat.le_refl _) _ _ _ _ _ _ _ _ _
        rw [hW9] at N9 b9
        unfold nineW at hW9
        rw [hW9]
        obtain ⟨n0, n1, n2, n3, n4, n5, n6, n7, n8⟩ := N9
        refine bodyPost_ret (v := .tuple #[entV ⟨#[]⟩ 0 0 ⟨#[]⟩ ⟨#[]⟩ ⟨#[]⟩ ⟨#[]⟩ ⟨#[]⟩ 0, .bool false]) (by simp [results, Tryd.results7, go_sem, n0, n1, n2, n3, n4, n5, n6, n7, n8]) rfl ⟨?_, b9⟩
        rw [← HVV.out, ← HBB.out, decide_eq_false hPs]
        rfl

theorem zero_block (w : World) : Hid (∀ W : World, Below (w.alloc (.cells #[.string ⟨#[]⟩, .int .i64 0, .int .i64 0, .string ⟨#[]⟩, .string ⟨#[]⟩, .string ⟨#[]⟩, .string ⟨#[]⟩, .string ⟨#[]⟩, .int .i64 0] 23)).heap.size (w.alloc (.cells #[.string ⟨#[]⟩, .int .i64 0, .int .i64 0, .string ⟨#[]⟩, .string ⟨#[]⟩, .string ⟨#[]⟩, .string ⟨#[]⟩, .string ⟨#[]⟩, .int .i64 0] 23)) W → W.heap[w.heap.size]? = some (.cells #[.string ⟨#[]⟩, .int .i64 0, .int .i64 0, .string ⟨#[]⟩, .string ⟨#[]⟩, .string ⟨#[]⟩, .string ⟨#[]⟩, .string ⟨#[]⟩, .int .i64 0] 23 (0, 0))) := fun W bb => (bb.block w.heap.size (by simp)).trans (new_heap w _)

set_option maxRecDepth 100000 in
set_option maxHeartbeats 4000000 in
theorem l8Get_not (s : ByteArray) (hs : s.size ≤ 1048576) (hp : (fldL [] s.data.toList).length ≠ 9) (w : World) :
    Calls Tryd.prog 7 #[.string s] w fun e w' => e = .returned (.tuple #[entV ⟨#[]⟩ 0 0 ⟨#[]⟩ ⟨#[]⟩ ⟨#[]⟩ ⟨#[]⟩ ⟨#[]⟩ 0, .bool false]) ∧ Below w.heap.size w w' := by
  have ZERO := zero_block w
  have hF := fun W => l8Fields_any s hs W
  obtain ⟨m, hm⟩ : ∃ m, (fldL [] s.data.toList).length = m := ⟨_, rfl⟩
  obtain ⟨W0, hW0⟩ : ∃ W0, W0 = w.alloc (.cells #[.string ⟨#[]⟩, .int .i64 0, .int .i64 0, .string ⟨#[]⟩, .string ⟨#[]⟩, .string ⟨#[]⟩, .string ⟨#[]⟩, .string ⟨#[]⟩, .int .i64 0] 23) := ⟨_, rfl⟩
  rw [← hW0] at ZERO
  have b0 : Below w.heap.size w W0 := by rw [hW0]; exact (Below.refl _ w).alloc (Nat.le_refl _) _
  have hF0 : Calls Tryd.prog 11 #[.string s] W0 fun e w' => ∃ g cap, e = .returned (.slice (some ⟨g, 0, none⟩) m cap) ∧ Below W0.heap.size W0 w' := by
    refine (hF W0).mono ?_
    rintro e w' ⟨g, cap, rfl, hown, hb⟩
    exact ⟨g, cap, by rw [hm], hb⟩
  rw [hm] at hp
  have g9 : ((m : Int) == 9) = false := beq_eq_false_iff_ne.2 (by omega)
  clear hF hm
  go_enter Tryd.func7, Tryd.ntmps7
  go_wp2_with first
    | (go_at_call 11; rw [← hW0]; go_fit hF0; rintro e w5 ⟨g, cap, rfl, b5⟩; have Z5 := ZERO.out w5 b5; have ZH : Hid (w5.heap[w.heap.size]? = some (.cells #[.string ⟨#[]⟩, .int .i64 0, .int .i64 0, .string ⟨#[]⟩, .string ⟨#[]⟩, .string ⟨#[]⟩, .string ⟨#[]⟩, .string ⟨#[]⟩, .int .i64 0] 23 (0, 0))) := Z5; have BH : Hid (Below w.heap.size w w5) := b0.trans (b5.mono b0.size); obtain ⟨z0, z1, z2, z3, z4, z5, z6, z7, z8⟩ := nine_cells Z5; have zf : ∀ j, w5.frozen? ⟨w.heap.size, j, none⟩ = false := (fun j => (by simp [World.frozen?, Z5])); clear Z5)
  obtain ⟨W9, hW9⟩ : ∃ W9, nineW w5 w.heap.size ⟨#[]⟩ 0 0 ⟨#[]⟩ ⟨#[]⟩ ⟨#[]⟩ ⟨#[]⟩ ⟨#[]⟩ 0 = W9 := ⟨_, rfl⟩
  have N9 := nine_cells (nineW_heap ZH.out ⟨#[]⟩ 0 0 ⟨#[]⟩ ⟨#[]⟩ ⟨#[]⟩ ⟨#[]⟩ ⟨#[]⟩ 0)
  have b9 : Below w.heap.size w (nineW w5 w.heap.size ⟨#[]⟩ 0 0 ⟨#[]⟩ ⟨#[]⟩ ⟨#[]⟩ ⟨#[]⟩ ⟨#[]⟩ 0) := nineW_below BH.out (Nat.le_refl _) _ _ _ _ _ _ _ _ _
  rw [hW9] at N9 b9
  unfold nineW at hW9
  rw [hW9]
  obtain ⟨n0, n1, n2, n3, n4, n5, n6, n7, n8⟩ := N9
  exact bodyPost_ret (v := .tuple #[entV ⟨#[]⟩ 0 0 ⟨#[]⟩ ⟨#[]⟩ ⟨#[]⟩ ⟨#[]⟩ ⟨#[]⟩ 0, .bool false]) (by simp [results, Tryd.results7, go_sem, n0, n1, n2, n3, n4, n5, n6, n7, n8]) rfl ⟨rfl, b9⟩
end Go.Proofs.YtjknjlaabppooaaDoor.Hub
