/-
  The library's strings.Cut at a text of one byte and strings.Clone, the model's l4Get and JidGet, and the program's JidGet: at every text they answer jgetT.
-/
import Derived.Test.YtjpebjmjpilbbaaDoorJidFold
import Derived.Test.YtjpebjmjpilbbaaDoorJidPut
namespace Go.Proofs.YtjpebjmjpilbbaaDoor.Hub
open Go.RowKit Go.Shelf Go.Proofs
set_option linter.unusedVariables false

/-- A text cut at the first of a byte: what is ahead, what is behind, whether there is one. -/
def cutB (c : UInt8) (s : ByteArray) : ByteArray × ByteArray × Bool :=
  if Lib.indexByte s.data.toList c = -1 then (s, ⟨#[]⟩, false) else (s.extract 0 (Lib.indexByte s.data.toList c).toNat, s.extract ((Lib.indexByte s.data.toList c).toNat + 1) s.size, true)
theorem cutB_cases (c : UInt8) (s : ByteArray) : (Lib.indexByte s.data.toList c = -1 ∧ cutB c s = (s, ⟨#[]⟩, false) ∧ cutL c 1 s.data.toList = [s.data.toList]) ∨
    (∃ i : Nat, i < s.size ∧ Lib.indexByte s.data.toList c = (i : Int) ∧ cutB c s = (s.extract 0 i, s.extract (i + 1) s.size, true) ∧ cutL c 1 s.data.toList = [s.data.toList.take i, s.data.toList.drop (i + 1)]) := by
  rcases cutL_index c 1 s.data.toList (by omega) with ⟨h1, h2⟩ | ⟨i, h1, h2, h3⟩
  · exact .inl ⟨h1, by unfold cutB; rw [if_pos h1], h2⟩
  · refine .inr ⟨i, h2, h1, ?_, ?_⟩
    · unfold cutB
      rw [if_neg (by omega), h1]
      rfl
    · rw [h3]
      show _ :: cutL c 0 _ = _
      rw [cutL_zero]

/-- What is read of an address: the nick, what is ahead of it, the user and the host, and whether that is an address. -/
def gNick (s : ByteArray) : ByteArray := (cutB 47 s).2.1
def gHead (s : ByteArray) : ByteArray := (cutB 47 s).1
def gUser (s : ByteArray) : ByteArray := if (cutB 64 (gHead s)).2.2 = true then (cutB 64 (gHead s)).1 else ⟨#[]⟩
def gHost (s : ByteArray) : ByteArray := if (cutB 64 (gHead s)).2.2 = true then (cutB 64 (gHead s)).2.1 else gHead s
def noNick (s : ByteArray) : Bool := (cutB 47 s).2.2 && decide ((gNick s).size = 0)
def noUser (s : ByteArray) : Bool := (cutB 64 (gHead s)).2.2 && decide ((gUser s).size = 0)
def gOk (s : ByteArray) : Bool := !noNick s && (!noUser s && jidT (foldT (gUser s)) (foldT (gHost s)) (gNick s))
def gVal (s : ByteArray) : Value := .tuple (if gOk s = true then #[.agg #[.string (foldT (gUser s)), .string (foldT (gHost s)), .string (gNick s)], .bool true] else #[.agg #[.string ⟨#[]⟩, .string ⟨#[]⟩, .string ⟨#[]⟩], .bool false])
theorem cutB_size (c : UInt8) (s : ByteArray) : (cutB c s).1.size ≤ s.size ∧ (cutB c s).2.1.size ≤ s.size := by
  rcases cutB_cases c s with ⟨_, h, _⟩ | ⟨i, hi, _, h, _⟩
  · rw [h]; exact ⟨Nat.le_refl _, Nat.zero_le _⟩
  · rw [h]; simp only [ByteArray.size_extract]; omega
theorem gHead_size (s : ByteArray) : (gHead s).size ≤ s.size := (cutB_size 47 s).1
theorem gNick_size (s : ByteArray) : (gNick s).size ≤ s.size := (cutB_size 47 s).2
theorem gUser_size (s : ByteArray) : (gUser s).size ≤ s.size := by
  have h1 := gHead_size s
  have h2 := (cutB_size 64 (gHead s)).1
  unfold gUser
  split
  · omega
  · exact Nat.zero_le _
theorem gHost_size (s : ByteArray) : (gHost s).size ≤ s.size := by
  have h1 := gHead_size s
  have h2 := (cutB_size 64 (gHead s)).2
  unfold gHost
  split
  · omega
  · exact h1
/-- Three texts in a block of their own. -/
def Three (W : World) (b : Nat) (x y z : ByteArray) : Prop := W.heap[b]? = some (.cells #[.string x, .string y, .string z] 24 (0, 0))
theorem Three.c0 {W : World} {b : Nat} {x y z : ByteArray} (h : Three W b x y z) : W.cell? ⟨b, 0, none⟩ = some (.string x) := by unfold Three at h; simp [World.cell?, h]
theorem Three.c1 {W : World} {b : Nat} {x y z : ByteArray} (h : Three W b x y z) : W.cell? ⟨b, 1, none⟩ = some (.string y) := by unfold Three at h; simp [World.cell?, h]
theorem Three.c2 {W : World} {b : Nat} {x y z : ByteArray} (h : Three W b x y z) : W.cell? ⟨b, 2, none⟩ = some (.string z) := by unfold Three at h; simp [World.cell?, h]
theorem Three.fz {W : World} {b : Nat} {x y z : ByteArray} (h : Three W b x y z) (i : Nat) : W.frozen? ⟨b, i, none⟩ = false := by unfold Three at h; simp [World.frozen?, h]
theorem Three.lt {W : World} {b : Nat} {x y z : ByteArray} (h : Three W b x y z) : b < W.heap.size := (Array.getElem?_eq_some_iff.1 h).1
theorem Three.below {W W' : World} {b : Nat} {x y z : ByteArray} (h : Three W b x y z) (hb : Below W.heap.size W W') : Three W' b x y z := (hb.block b h.lt).trans h
theorem heap_set (W : World) (b i : Nat) (v : Value) (c : Array Value) (t : TypeId) (f : Nat × Nat) (h : W.heap[b]? = some (.cells c t f)) : (W.setCell ⟨b, i, none⟩ v).heap[b]? = some (.cells (c.setIfInBounds i v) t f) := by
  obtain ⟨hlt, hk⟩ := Array.getElem?_eq_some_iff.1 h
  show (W.heap.modify b _)[b]? = _
  rw [Array.getElem?_eq_getElem (by rw [Array.size_modify]; exact hlt), Array.getElem_modify_self, hk]
  rfl
theorem heap_set_ne (W : World) (b k i : Nat) (v : Value) (hk : k ≠ b) : (W.setCell ⟨b, i, none⟩ v).heap[k]? = W.heap[k]? := by
  show (W.heap.modify b _)[k]? = _
  rw [Array.getElem?_modify, if_neg (fun e => hk e.symm)]
theorem Three.set0 {W : World} {b : Nat} {x y z : ByteArray} (h : Three W b x y z) (v : ByteArray) : Three (W.setCell ⟨b, 0, none⟩ (.string v)) b v y z := heap_set W b 0 _ _ _ _ h
theorem Three.set1 {W : World} {b : Nat} {x y z : ByteArray} (h : Three W b x y z) (v : ByteArray) : Three (W.setCell ⟨b, 1, none⟩ (.string v)) b x v z := heap_set W b 1 _ _ _ _ h
theorem Three.set2 {W : World} {b : Nat} {x y z : ByteArray} (h : Three W b x y z) (v : ByteArray) : Three (W.setCell ⟨b, 2, none⟩ (.string v)) b x y v := heap_set W b 2 _ _ _ _ h
theorem Three.other {W : World} {b c i : Nat} {x y z : ByteArray} {v : Value} (h : Three W b x y z) (hne : b ≠ c) : Three (W.setCell ⟨c, i, none⟩ v) b x y z := (heap_set_ne W c b i v hne).trans h
theorem three_new (w : World) (x y z : ByteArray) : Three (w.alloc (.cells #[.string x, .string y, .string z] 24)) w.heap.size x y z := World.alloc_heap_new _ _

/-- A text in a cell of a row of texts. -/
def RowHas (W : World) (g i : Nat) (x : ByteArray) : Prop := ∃ cur f, W.heap[g]? = some (.cells cur 9 f) ∧ cur[i]? = some (.string x)
theorem RowHas.cell {W : World} {g i : Nat} {x : ByteArray} (h : RowHas W g i x) : W.cell? ⟨g, i, none⟩ = some (.string x) := by
  obtain ⟨cur, f, h1, h2⟩ := h
  simp [World.cell?, h1, h2]
theorem RowHas.below {W W' : World} {g i : Nat} {x : ByteArray} (h : RowHas W g i x) (hb : Below W.heap.size W W') : RowHas W' g i x := by
  obtain ⟨cur, f, h1, h2⟩ := h
  exact ⟨cur, f, (hb.block g (Array.getElem?_eq_some_iff.1 h1).1).trans h1, h2⟩
theorem RowHas.other {W : World} {g i b k : Nat} {x : ByteArray} {v : Value} (h : RowHas W g i x) (hne : g ≠ b) : RowHas (W.setCell ⟨b, k, none⟩ v) g i x := by
  obtain ⟨cur, f, h1, h2⟩ := h
  exact ⟨cur, f, (heap_set_ne W b g k v hne).trans h1, h2⟩
theorem row_of {W : World} {n₀ g cap : Nat} {ps : List (List UInt8)} (h : W.ownsRow n₀ 9 1 (.slice (some ⟨g, 0, none⟩) ps.length cap) ps.length (strs ps)) (i : Nat) (hi : i < ps.length) : RowHas W g i (ofL ps[i]) ∧ n₀ ≤ g := by
  rcases h.2 with ⟨e, _⟩ | ⟨g2, c2, cur, e, h2, h3, h4, _, h5, h6⟩
  · cases e
  · cases e
    refine ⟨⟨cur, (0, 0), h3, ?_⟩, h2⟩
    have : (cur.toList.take (ps.length * 1))[i]? = (strs ps)[i]? := by rw [h6]
    rw [List.getElem?_take_of_lt (by omega)] at this
    rw [← Array.getElem?_toList, this]
    simp [strs, hi]
/-- A text cut once: one part, or two. -/
def Once (c : UInt8) (s : ByteArray) (w : World) (e : Ending) (w' : World) : Prop :=
  ∃ g cap n : Nat, e = .returned (.slice (some ⟨g, 0, none⟩) n cap) ∧ w.heap.size ≤ g ∧ Below w.heap.size w w' ∧ RowHas w' g 0 (cutB c s).1 ∧ ((n = 1 ∧ (cutB c s).2.2 = false) ∨ (n = 2 ∧ (cutB c s).2.2 = true ∧ RowHas w' g 1 (cutB c s).2.1))
theorem l1Cut_once (c : UInt8) (x : Int) (hx : x = (c.toNat : Int)) (s : ByteArray) (w : World) (hs : s.size ≤ 1099511627776) :
    Calls Tryd.prog 81 #[.string s, .int .u8 x, .int .i64 1] w fun e w' => Once c s w e w' := by
  subst hx
  refine (l1Cut_any s c 1 (by omega) w hs).mono ?_
  rintro e w' ⟨g, cap, rfl, hown, hb⟩
  rcases cutB_cases c s with ⟨_, h2, h3⟩ | ⟨i, hi, _, h2, h3⟩
  · rw [h3] at hown ⊢
    obtain ⟨r0, hg⟩ := row_of hown 0 (by simp)
    refine ⟨g, cap, 1, rfl, hg, hb, ?_, .inl ⟨rfl, by rw [h2]⟩⟩
    rw [h2]
    exact r0
  · rw [h3] at hown ⊢
    obtain ⟨r0, hg⟩ := row_of hown 0 (by simp)
    obtain ⟨r1, _⟩ := row_of hown 1 (by simp)
    refine ⟨g, cap, 2, rfl, hg, hb, ?_, .inr ⟨rfl, by rw [h2], ?_⟩⟩
    · rw [h2]
      have e0 := head_bytes s i
      simp only [List.getElem_cons_zero] at r0
      rw [e0] at r0
      exact r0
    · rw [h2]
      have e1 : ofL (s.data.toList.drop (i + 1)) = s.extract (i + 1) s.size := by
        apply WideShapes.bytes_inj
        rw [tail_list]
        simp [ofL]
      simp only [List.getElem_cons_succ, List.getElem_cons_zero] at r1
      rw [e1] at r1
      exact r1

end Go.Proofs.YtjpebjmjpilbbaaDoor.Hub
