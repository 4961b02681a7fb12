/-
  The library's strings.Cut at a text of one byte and strings.Clone, the model's l4Get and JidGet, and the program's JidGet: at every text they answer jgetT.
-/
import Derived.Test.YthcjimigmeijfacDoorJidFold
import Derived.Test.YthcjimigmeijfacDoorJidPut
namespace Go.Proofs.YthcjimigmeijfacDoor.Hub
open Go.RowKit Go.Shelf Go.Proofs
set_option linter.unusedVariables false

/-- A text cut at the first of a byte: what is ahead, what is behind, whether there is one. -/
def cutB (c : UInt8) (s : ByteArray) : ByteArray × ByteArray × Bool :=
  if Lib.indexByte s.data.toList c = -1 then (s, ⟨#[]⟩, false) else (s.extract 0 (Lib.indexByte s.data.toList c).toNat, s.extract ((Lib.indexByte s.data.toList c).toNat + 1) s.size, true)
theorem cutB_cases (c : UInt8) (s : ByteArray) : (Lib.indexByte s.data.toList c = -1 ∧ cutB c s = (s, ⟨#[]⟩, false) ∧ cutL c 1 s.data.toList = [s.data.toList]) ∨
    (∃ i : Nat, i < s.size ∧ Lib.indexByte s.data.toList c = (i : Int) ∧ cutB c s = (s.extract 0 i, s.extract (i + 1) s.size, true) ∧ cutL c 1 s.data.toList = [s.data.toList.take i, s.data.toList.drop (i + 1)]) := by
  rcases cutL_index c 1 s.data.toList (by omega) with ⟨h1, h2⟩ | ⟨i, h1, h2, h3⟩
  · exact .inl ⟨h1, by unfold cutB; rw [if_pos h1], h2⟩
  · refine .inr ⟨i, h2, h1, ?_, ?_⟩
    · unfold cutB
      rw [if_neg (by omega), h1]
      rfl
    · rw [h3]
      show _ :: cutL c 0 _ = _
      rw [cutL_zero]

set_option maxRecDepth 100000 in
set_option maxHeartbeats 1000000 in
theorem sliteCut_any (c : UInt8) (s : ByteArray) (w : World) (hs : s.size ≤ 1099511627776) :
    Calls Tryd.prog 43 #[.string s, .string ⟨#[c]⟩] w fun e w' => e = .returned (.tuple #[.string (cutB c s).1, .string (cutB c s).2.1, .bool (cutB c s).2.2]) ∧ Below w.heap.size w w' := by
  have hix := fun w => Tryd.stringslite_Index_one s c w
  rcases cutB_cases c s with ⟨h1, h2, _⟩ | ⟨i, hi, h1, h2, _⟩
  · rw [h2]
    rw [h1] at hix
    clear h1 h2
    go_enter Tryd.func43, Tryd.ntmps43
    go_wp2_with (go_at_call 57; go_fit (hix _); rintro e w' ⟨rfl, rfl⟩)
    go_ret3
    exact ⟨rfl, Below.refl _ _⟩
  · rw [h2]
    rw [h1] at hix
    clear h1 h2
    have c1 : (0 : Int) ≤ (i : Int) := by omega
    have c2 : (i : Int) ≤ (s.size : Int) := by omega
    have c3 : (0 : Int) ≤ (i : Int) + 1 := by omega
    have c4 : (i : Int) + 1 ≤ (s.size : Int) := by omega
    have hwr : IntKind.i64.wrap ((i : Int) + 1) = (i : Int) + 1 := by rw [IntKind.wrap_i64]; omega
    go_enter Tryd.func43, Tryd.ntmps43
    go_wp2_with (go_at_call 57; go_fit (hix _); rintro e w' ⟨rfl, rfl⟩)
    go_region
    go_wp2_with fail
    go_ret3
    exact ⟨rfl, (Below.refl _ _).drew⟩
theorem cut_any (c : UInt8) (s : ByteArray) (w : World) (hs : s.size ≤ 1099511627776) :
    Calls Tryd.prog 25 #[.string s, .string ⟨#[c]⟩] w fun e w' => e = .returned (.tuple #[.string (cutB c s).1, .string (cutB c s).2.1, .bool (cutB c s).2.2]) ∧ Below w.heap.size w w' := by
  have hC := fun w => sliteCut_any c s w hs
  go_enter Tryd.func25, Tryd.ntmps25
  go_wp2_with (go_at_call 43; go_fit (hC _); rintro e w1 ⟨rfl, b1⟩)
  go_ret3
  exact ⟨rfl, b1⟩
theorem clone_any (s : ByteArray) (w : World) (hs : s.size ≤ 1099511627776) :
    Calls Tryd.prog 27 #[.string s] w fun e w' => e = .returned (.string s) ∧ Below w.heap.size w w' := by
  have hC := fun w => Tryd.stringslite_Clone s w (by omega)
  go_enter Tryd.func27, Tryd.ntmps27
  go_wp2_with (go_at_call 44; go_fit (hC _); rintro e w1 ⟨rfl, b1⟩)
  go_ret
  exact ⟨rfl, b1⟩

/-- What is read of an address: the nick, what is ahead of it, the user and the host, and whether that is an address. -/
def gNick (s : ByteArray) : ByteArray := (cutB 47 s).2.1
def gHead (s : ByteArray) : ByteArray := (cutB 47 s).1
def gUser (s : ByteArray) : ByteArray := if (cutB 64 (gHead s)).2.2 = true then (cutB 64 (gHead s)).1 else ⟨#[]⟩
def gHost (s : ByteArray) : ByteArray := if (cutB 64 (gHead s)).2.2 = true then (cutB 64 (gHead s)).2.1 else gHead s
def noNick (s : ByteArray) : Bool := (cutB 47 s).2.2 && decide ((gNick s).size = 0)
def noUser (s : ByteArray) : Bool := (cutB 64 (gHead s)).2.2 && decide ((gUser s).size = 0)
def gOk (s : ByteArray) : Bool := !noNick s && (!noUser s && jidT (foldT (gUser s)) (foldT (gHost s)) (gNick s))
def gVal (s : ByteArray) : Value := .tuple (if gOk s = true then #[.agg #[.string (foldT (gUser s)), .string (foldT (gHost s)), .string (gNick s)], .bool true] else #[.agg #[.string ⟨#[]⟩, .string ⟨#[]⟩, .string ⟨#[]⟩], .bool false])
theorem cutB_size (c : UInt8) (s : ByteArray) : (cutB c s).1.size ≤ s.size ∧ (cutB c s).2.1.size ≤ s.size := by
  rcases cutB_cases c s with ⟨_, h, _⟩ | ⟨i, hi, _, h, _⟩
  · rw [h]; exact ⟨Nat.le_refl _, Nat.zero_le _⟩
  · rw [h]; simp only [ByteArray.size_extract]; omega
theorem gHead_size (s : ByteArray) : (gHead s).size ≤ s.size := (cutB_size 47 s).1
theorem gNick_size (s : ByteArray) : (gNick s).size ≤ s.size := (cutB_size 47 s).2
theorem gUser_size (s : ByteArray) : (gUser s).size ≤ s.size := by
  have h1 := gHead_size s
  have h2 := (cutB_size 64 (gHead s)).1
  unfold gUser
  split
  · omega
  · exact Nat.zero_le _
theorem gHost_size (s : ByteArray) : (gHost s).size ≤ s.size := by
  have h1 := gHead_size s
  have h2 := (cutB_size 64 (gHead s)).2
  unfold gHost
  split
  · omega
  · exact h1
/-- Three texts in a block of their own. -/
def Three (W : World) (b : Nat) (x y z : ByteArray) : Prop := W.heap[b]? = some (.cells #[.string x, .string y, .string z] 24 (0, 0))
theorem Three.c0 {W : World} {b : Nat} {x y z : ByteArray} (h : Three W b x y z) : W.cell? ⟨b, 0, none⟩ = some (.string x) := by unfold Three at h; simp [World.cell?, h]
theorem Three.c1 {W : World} {b : Nat} {x y z : ByteArray} (h : Three W b x y z) : W.cell? ⟨b, 1, none⟩ = some (.string y) := by unfold Three at h; simp [World.cell?, h]
theorem Three.c2 {W : World} {b : Nat} {x y z : ByteArray} (h : Three W b x y z) : W.cell? ⟨b, 2, none⟩ = some (.string z) := by unfold Three at h; simp [World.cell?, h]
theorem Three.fz {W : World} {b : Nat} {x y z : ByteArray} (h : Three W b x y z) (i : Nat) : W.frozen? ⟨b, i, none⟩ = false := by unfold Three at h; simp [World.frozen?, h]
theorem Three.lt {W : World} {b : Nat} {x y z : ByteArray} (h : Three W b x y z) : b < W.heap.size := (Array.getElem?_eq_some_iff.1 h).1
theorem Three.below {W W' : World} {b : Nat} {x y z : ByteArray} (h : Three W b x y z) (hb : Below W.heap.size W W') : Three W' b x y z := (hb.block b h.lt).trans h
theorem heap_set (W : World) (b i : Nat) (v : Value) (c : Array Value) (t : TypeId) (f : Nat × Nat) (h : W.heap[b]? = some (.cells c t f)) : (W.setCell ⟨b, i, none⟩ v).heap[b]? = some (.cells (c.setIfInBounds i v) t f) := by
  obtain ⟨hlt, hk⟩ := Array.getElem?_eq_some_iff.1 h
  show (W.heap.modify b _)[b]? = _
  rw [Array.getElem?_eq_getElem (by rw [Array.size_modify]; exact hlt), Array.getElem_modify_self, hk]
  rfl
theorem heap_set_ne (W : World) (b k i : Nat) (v : Value) (hk : k ≠ b) : (W.setCell ⟨b, i, none⟩ v).heap[k]? = W.heap[k]? := by
  show (W.heap.modify b _)[k]? = _
  rw [Array.getElem?_modify, if_neg (fun e => hk e.symm)]
theorem Three.set0 {W : World} {b : Nat} {x y z : ByteArray} (h : Three W b x y z) (v : ByteArray) : Three (W.setCell ⟨b, 0, none⟩ (.string v)) b v y z := heap_set W b 0 _ _ _ _ h
theorem Three.set1 {W : World} {b : Nat} {x y z : ByteArray} (h : Three W b x y z) (v : ByteArray) : Three (W.setCell ⟨b, 1, none⟩ (.string v)) b x v z := heap_set W b 1 _ _ _ _ h
theorem Three.set2 {W : World} {b : Nat} {x y z : ByteArray} (h : Three W b x y z) (v : ByteArray) : Three (W.setCell ⟨b, 2, none⟩ (.string v)) b x y v := heap_set W b 2 _ _ _ _ h
theorem Three.other {W : World} {b c i : Nat} {x y z : ByteArray} {v : Value} (h : Three W b x y z) (hne : b ≠ c) : Three (W.setCell ⟨c, i, none⟩ v) b x y z := (heap_set_ne W c b i v hne).trans h
theorem three_new (w : World) (x y z : ByteArray) : Three (w.alloc (.cells #[.string x, .string y, .string z] 24)) w.heap.size x y z := World.alloc_heap_new _ _

/-- A text in a cell of a row of texts. -/
def RowHas (W : World) (g i : Nat) (x : ByteArray) : Prop := ∃ cur f, W.heap[g]? = some (.cells cur 9 f) ∧ cur[i]? = some (.string x)
theorem RowHas.cell {W : World} {g i : Nat} {x : ByteArray} (h : RowHas W g i x) : W.cell? ⟨g, i, none⟩ = some (.string x) := by
  obtain ⟨cur, f, h1, h2⟩ := h
  simp [World.cell?, h1, h2]
theorem RowHas.below {W W' : World} {g i : Nat} {x : ByteArray} (h : RowHas W g i x) (hb : Below W.heap.size W W') : RowHas W' g i x := by
  obtain ⟨cur, f, h1, h2⟩ := h
  exact ⟨cur, f, (hb.block g (Array.getElem?_eq_some_iff.1 h1).1).trans h1, h2⟩
theorem RowHas.other {W : World} {g i b k : Nat} {x : ByteArray} {v : Value} (h : RowHas W g i x) (hne : g ≠ b) : RowHas (W.setCell ⟨b, k, none⟩ v) g i x := by
  obtain ⟨cur, f, h1, h2⟩ := h
  exact ⟨cur, f, (heap_set_ne W b g k v hne).trans h1, h2⟩
theorem row_of {W : World} {n₀ g cap : Nat} {ps : List (List UInt8)} (h : W.ownsRow n₀ 9 1 (.slice (some ⟨g, 0, none⟩) ps.length cap) ps.length (strs ps)) (i : Nat) (hi : i < ps.length) : RowHas W g i (ofL ps[i]) ∧ n₀ ≤ g := by
  rcases h.2 with ⟨e, _⟩ | ⟨g2, c2, cur, e, h2, h3, h4, _, h5, h6⟩
  · cases e
  · cases e
    refine ⟨⟨cur, (0, 0), h3, ?_⟩, h2⟩
    have : (cur.toList.take (ps.length * 1))[i]? = (strs ps)[i]? := by rw [h6]
    rw [List.getElem?_take_of_lt (by omega)] at this
    rw [← Array.getElem?_toList, this]
    simp [strs, hi]
/-- A text cut once: one part, or two. -/
def Once (c : UInt8) (s : ByteArray) (w : World) (e : Ending) (w' : World) : Prop :=
  ∃ g cap n : Nat, e = .returned (.slice (some ⟨g, 0, none⟩) n cap) ∧ w.heap.size ≤ g ∧ Below w.heap.size w w' ∧ RowHas w' g 0 (cutB c s).1 ∧ ((n = 1 ∧ (cutB c s).2.2 = false) ∨ (n = 2 ∧ (cutB c s).2.2 = true ∧ RowHas w' g 1 (cutB c s).2.1))
theorem l1Cut_once (c : UInt8) (x : Int) (hx : x = (c.toNat : Int)) (s : ByteArray) (w : World) (hs : s.size ≤ 1099511627776) :
    Calls Tryd.prog 45 #[.string s, .int .u8 x, .int .i64 1] w fun e w' => Once c s w e w' := by
  subst hx
  refine (l1Cut_any s c 1 (by omega) w hs).mono ?_
  rintro e w' ⟨g, cap, rfl, hown, hb⟩
  rcases cutB_cases c s with ⟨_, h2, h3⟩ | ⟨i, hi, _, h2, h3⟩
  · rw [h3] at hown ⊢
    obtain ⟨r0, hg⟩ := row_of hown 0 (by simp)
    refine ⟨g, cap, 1, rfl, hg, hb, ?_, .inl ⟨rfl, by rw [h2]⟩⟩
    rw [h2]
    exact r0
  · rw [h3] at hown ⊢
    obtain ⟨r0, hg⟩ := row_of hown 0 (by simp)
    obtain ⟨r1, _⟩ := row_of hown 1 (by simp)
    refine ⟨g, cap, 2, rfl, hg, hb, ?_, .inr ⟨rfl, by rw [h2], ?_⟩⟩
    · rw [h2]
      have e0 := head_bytes s i
      simp only [List.getElem_cons_zero] at r0
      rw [e0] at r0
      exact r0
    · rw [h2]
      have e1 : ofL (s.data.toList.drop (i + 1)) = s.extract (i + 1) s.size := by
        apply WideShapes.bytes_inj
        rw [tail_list]
        simp [ofL]
      simp only [List.getElem_cons_succ, List.getElem_cons_zero] at r1
      rw [e1] at r1
      exact r1

set_option maxRecDepth 100000 in
set_option maxHeartbeats 2000000 in
theorem l4Get_any (s : ByteArray) (w : World) (hs : s.size ≤ 1099511627776) :
    Calls Tryd.prog 31 #[.string s] w fun e w' => e = .returned (gVal s) ∧ Below w.heap.size w w' := by
  have hH := gHead_size s
  have hNs := gNick_size s
  have hUs := gUser_size s
  have hOs := gHost_size s
  have t0 := (three_new w ⟨#[]⟩ ⟨#[]⟩ ⟨#[]⟩).below ((Below.refl _ _).alloc (Nat.le_refl _) (.cells #[.string ⟨#[]⟩, .string ⟨#[]⟩, .string ⟨#[]⟩] 24))
  have t1 := three_new (w.alloc (.cells #[.string ⟨#[]⟩, .string ⟨#[]⟩, .string ⟨#[]⟩] 24)) ⟨#[]⟩ ⟨#[]⟩ ⟨#[]⟩
  have b0 : Below w.heap.size w ((w.alloc (.cells #[.string ⟨#[]⟩, .string ⟨#[]⟩, .string ⟨#[]⟩] 24)).alloc (.cells #[.string ⟨#[]⟩, .string ⟨#[]⟩, .string ⟨#[]⟩] 24)) := ((Below.refl _ w).alloc (Nat.le_refl _) _).alloc (by simp) _
  have hsz : ((w.alloc (.cells #[.string ⟨#[]⟩, .string ⟨#[]⟩, .string ⟨#[]⟩] 24)).alloc (.cells #[.string ⟨#[]⟩, .string ⟨#[]⟩, .string ⟨#[]⟩] 24)).heap.size = w.heap.size + 1 + 1 := by simp
  simp only [World.size_alloc] at t0 t1
  have hcut := l1Cut_once 47 47 rfl s ((w.alloc (.cells #[.string ⟨#[]⟩, .string ⟨#[]⟩, .string ⟨#[]⟩] 24)).alloc (.cells #[.string ⟨#[]⟩, .string ⟨#[]⟩, .string ⟨#[]⟩] 24)) hs
  go_enter Tryd.func31, Tryd.ntmps31
  go_upto_if 12 with (go_at_call 45; go_fit hcut; rintro e W1 ⟨g, cap, n, rfl, hg, b1, r0, hn⟩)
  have c1 := b0.trans (b1.mono b0.size)
  have x0 := t0.below b1
  have x1 := t1.below b1
  have hne : g ≠ w.heap.size + 1 ∧ g ≠ w.heap.size := by omega
  clear t0 t1 hcut b1 b0
  go_cut [] from 12 to 20 (fun W => RowHas W g 0 (gHead s) ∧ Three W (w.heap.size + 1) ⟨#[]⟩ ⟨#[]⟩ (gNick s) ∧ Three W w.heap.size ⟨#[]⟩ ⟨#[]⟩ ⟨#[]⟩ ∧ noNick s = false ∧ Below w.heap.size w W)
  case first =>
    rcases hn with ⟨rfl, hf⟩ | ⟨rfl, hf, r1⟩
    · have hk : gNick s = ⟨#[]⟩ ∧ noNick s = false := by
        rcases cutB_cases 47 s with ⟨_, h2, _⟩ | ⟨i, _, _, h2, _⟩
        · unfold noNick gNick; rw [h2]; exact ⟨rfl, rfl⟩
        · rw [h2] at hf; cases hf
      go_wp2_with fail
      go_meet
      case rel => rw [hk.1]; exact ⟨r0, x1, x0, hk.2, c1⟩
    · have q1 := r1.cell
      have f2 := x1.fz 2
      have z2 := x1.c2
      have hnick : (cutB 47 s).2.1 = gNick s := rfl
      rw [hnick] at r1 q1
      have x1' := x1.set2 (gNick s)
      have x0' : Three (W1.setCell ⟨w.heap.size + 1, 2, none⟩ (.string (gNick s))) w.heap.size ⟨#[]⟩ ⟨#[]⟩ ⟨#[]⟩ := x0.other (by omega)
      have r0' : RowHas (W1.setCell ⟨w.heap.size + 1, 2, none⟩ (.string (gNick s))) g 0 (gHead s) := RowHas.other r0 hne.1
      have c1' := c1.setCell (p := ⟨w.heap.size + 1, 2, none⟩) (by simp) (.string (gNick s))
      by_cases hz : (gNick s).size = 0
      · have hv : gVal s = .tuple #[.agg #[.string ⟨#[]⟩, .string ⟨#[]⟩, .string ⟨#[]⟩], .bool false] := by
          unfold gVal gOk noNick; rw [hf, decide_eq_true hz]; rfl
        have hN := size_zero _ hz
        rw [hN] at q1 r1 x1' x0' c1'
        have y0 := ((x0'.set0 ⟨#[]⟩).set1 ⟨#[]⟩).set2 ⟨#[]⟩
        have yB := ((c1'.setCell (p := ⟨w.heap.size, 0, none⟩) (Nat.le_refl _) (.string ⟨#[]⟩)).setCell (p := ⟨w.heap.size, 1, none⟩) (Nat.le_refl _) (.string ⟨#[]⟩)).setCell (p := ⟨w.heap.size, 2, none⟩) (Nat.le_refl _) (.string ⟨#[]⟩)
        have a0 := x0.c0
        have a1 := x0.c1
        have a2 := x0.c2
        have f0 := x0.fz 0
        have f1 := x0.fz 1
        have f3 := x0.fz 2
        have d0 := y0.c0
        have d1 := y0.c1
        have d2 := y0.c2
        have HV : Hid (gVal s = .tuple #[.agg #[.string ⟨#[]⟩, .string ⟨#[]⟩, .string ⟨#[]⟩], .bool false]) := hv
        clear hv r0' r1 x1' x0' c1' y0
        go_wp2_with fail
        exact bodyPost_ret (v := .tuple #[.agg #[.string ⟨#[]⟩, .string ⟨#[]⟩, .string ⟨#[]⟩], .bool false]) (by simp [results, Tryd.results31, go_sem, d0, d1, d2]) rfl ⟨by rw [HV.out], yB⟩
      · have hno : noNick s = false := by unfold noNick; rw [decide_eq_false hz, Bool.and_false]
        have hem := not_empty (gNick s) (by omega)
        go_wp2_with fail
        go_meet
        case rel => exact ⟨r0', x1', x0', hno, c1'⟩
  case rest =>
    obtain ⟨r0, x1, x0, hno, c1⟩ := hcut
    have hn1 : 1 ≤ n := by rcases hn with ⟨h, _⟩ | ⟨h, _⟩ <;> omega
    have hn1I : (0 : Int) < (n : Int) := by omega
    have q0 := r0.cell
    have hcut2 := l1Cut_once 64 64 rfl (gHead s) wc (by omega)
    clear hn
    go_wp2_with (go_at_call 45; go_fit hcut2)
    rintro e W2 ⟨g2, cap2, n2, rfl, hg2, b2, s0, hn2⟩
    have hsel : RowHas W2 g2 (n2 - 1) (gHost s) := by
      rcases hn2 with ⟨rfl, h⟩ | ⟨rfl, h, s1⟩
      · have e1 : gHost s = gHead s := by unfold gHost; rw [h]; rfl
        have e2 : (cutB 64 (gHead s)).1 = gHead s := by
          rcases cutB_cases 64 (gHead s) with ⟨_, h2, _⟩ | ⟨i, _, _, h2, _⟩
          · rw [h2]
          · rw [h2] at h; cases h
        rw [e1]
        rw [e2] at s0
        exact s0
      · have e1 : gHost s = (cutB 64 (gHead s)).2.1 := by unfold gHost; rw [if_pos h]
        rw [e1]
        exact s1
    have hn2a : 1 ≤ n2 := by rcases hn2 with ⟨h, _⟩ | ⟨h, _⟩ <;> omega
    have i1 : (0 : Int) ≤ (n2 : Int) - 1 := by omega
    have i2 : (n2 : Int) - 1 < (n2 : Int) := by omega
    have i3 : (n2 : Int) - 1 = ((n2 - 1 : Nat) : Int) := by omega
    have hn2b : n2 ≤ 2 := by rcases hn2 with ⟨h, _⟩ | ⟨h, _⟩ <;> omega
    have qs := hsel.cell
    have c2 := c1.trans (b2.mono c1.size)
    have y1 := x1.below b2
    have y0 := x0.below b2
    have hg2' : g2 ≠ w.heap.size + 1 ∧ g2 ≠ w.heap.size := by have := x1.lt; omega
    clear hcut2 x1 x0 r0 q0 c1
    go_wp2_with fail
    go_fit (l4Fold_any (gHost s) W2 (by omega))
    rintro e W3 ⟨rfl, b3⟩
    have c3 := c2.trans (b3.mono c2.size)
    have z1 := y1.below b3
    have z0 := y0.below b3
    have s0' := s0.below b3
    have k0 := z1.c1
    have k1 := z1.fz 1
    clear y1 y0 hsel qs b2 b3 s0
    have v1 := z1.set1 (foldT (gHost s))
    have v0 : Three (W3.setCell ⟨w.heap.size + 1, 1, none⟩ (.string (foldT (gHost s)))) w.heap.size ⟨#[]⟩ ⟨#[]⟩ ⟨#[]⟩ := z0.other (by omega)
    have sv : RowHas (W3.setCell ⟨w.heap.size + 1, 1, none⟩ (.string (foldT (gHost s)))) g2 0 (cutB 64 (gHead s)).1 := s0'.other hg2'.1
    have cv := c3.setCell (p := ⟨w.heap.size + 1, 1, none⟩) (by simp) (.string (foldT (gHost s)))
    go_upto_if 35 with fail
    obtain ⟨W4, hW4⟩ : ∃ W4, W3.setCell ⟨w.heap.size + 1, 1, none⟩ (.string (foldT (gHost s))) = W4 := ⟨_, rfl⟩
    rw [hW4] at v1 v0 sv cv ⊢
    clear hW4 z1 z0 s0' k0 k1 c2 c3
    go_cut [] from 35 to 44 (fun W => Three W (w.heap.size + 1) (foldT (gUser s)) (foldT (gHost s)) (gNick s) ∧ Three W w.heap.size ⟨#[]⟩ ⟨#[]⟩ ⟨#[]⟩ ∧ noUser s = false ∧ Below w.heap.size w W)
    case first =>
      rcases hn2 with ⟨rfl, hf⟩ | ⟨rfl, hf, _⟩
      · have hk : gUser s = ⟨#[]⟩ ∧ noUser s = false := by
          unfold noUser gUser
          rw [hf]
          exact ⟨rfl, rfl⟩
        have hk2 : foldT (gUser s) = ⟨#[]⟩ := by rw [hk.1]; rfl
        go_wp2_with fail
        go_meet
        case rel => rw [hk2]; exact ⟨v1, v0, hk.2, cv⟩
      · have hus : (cutB 64 (gHead s)).1 = gUser s := by unfold gUser; rw [if_pos hf]
        rw [hus] at sv
        have q1 := sv.cell
        go_wp2_with fail
        go_fit (l4Fold_any (gUser s) W4 (by omega))
        rintro e W5 ⟨rfl, b5⟩
        have cw := cv.trans (b5.mono cv.size)
        have w1 := v1.below b5
        have w0 := v0.below b5
        have k0 := w1.c0
        have k1 := w1.fz 0
        have w1' := w1.set0 (foldT (gUser s))
        have w0' : Three (W5.setCell ⟨w.heap.size + 1, 0, none⟩ (.string (foldT (gUser s)))) w.heap.size ⟨#[]⟩ ⟨#[]⟩ ⟨#[]⟩ := w0.other (by omega)
        have cw' := cw.setCell (p := ⟨w.heap.size + 1, 0, none⟩) (by simp) (.string (foldT (gUser s)))
        have hfs := foldT_size (gUser s)
        clear v1 v0 sv cv q1 b5
        by_cases hz : (gUser s).size = 0
        · have hv : gVal s = .tuple #[.agg #[.string ⟨#[]⟩, .string ⟨#[]⟩, .string ⟨#[]⟩], .bool false] := by
            unfold gVal gOk noUser; rw [hf, decide_eq_true hz]; cases noNick s <;> rfl
          have HV : Hid (gVal s = .tuple #[.agg #[.string ⟨#[]⟩, .string ⟨#[]⟩, .string ⟨#[]⟩], .bool false]) := hv
          have hN := size_zero (foldT (gUser s)) (by omega)
          rw [hN] at w1' w0' cw' ⊢
          have y0 := ((w0'.set0 ⟨#[]⟩).set1 ⟨#[]⟩).set2 ⟨#[]⟩
          have yB := ((cw'.setCell (p := ⟨w.heap.size, 0, none⟩) (Nat.le_refl _) (.string ⟨#[]⟩)).setCell (p := ⟨w.heap.size, 1, none⟩) (Nat.le_refl _) (.string ⟨#[]⟩)).setCell (p := ⟨w.heap.size, 2, none⟩) (Nat.le_refl _) (.string ⟨#[]⟩)
          have a0 := w0.c0
          have a1 := w0.c1
          have a2 := w0.c2
          have f0 := w0.fz 0
          have f1 := w0.fz 1
          have f3 := w0.fz 2
          have d0 := y0.c0
          have d1 := y0.c1
          have d2 := y0.c2
          clear hv w1' w0' cw' y0 hN hfs
          go_wp2_with fail
          exact bodyPost_ret (v := .tuple #[.agg #[.string ⟨#[]⟩, .string ⟨#[]⟩, .string ⟨#[]⟩], .bool false]) (by simp [results, Tryd.results31, go_sem, d0, d1, d2]) rfl ⟨by rw [HV.out], yB⟩
        · have hno2 : noUser s = false := by unfold noUser; rw [decide_eq_false hz, Bool.and_false]
          have hem := not_empty (foldT (gUser s)) (by omega)
          go_wp2_with fail
          go_meet
          case rel => exact ⟨w1', w0', hno2, cw'⟩
    case rest =>
      obtain ⟨v1, v0, hno2, cv⟩ := hcut
      have e0 := v1.c0
      have e1 := v1.c1
      have e2 := v1.c2
      have fu := foldT_size (gUser s)
      have fh := foldT_size (gHost s)
      have hgo : gOk s = jidT (foldT (gUser s)) (foldT (gHost s)) (gNick s) := by unfold gOk; rw [hno, hno2]; rfl
      have hok := l4Ok_any (foldT (gUser s)) (foldT (gHost s)) (gNick s) wc (by omega) (by omega) (by omega)
      rw [← hgo] at hok
      have hval : gVal s = .tuple (if gOk s = true then #[.agg #[.string (foldT (gUser s)), .string (foldT (gHost s)), .string (gNick s)], .bool true] else #[.agg #[.string ⟨#[]⟩, .string ⟨#[]⟩, .string ⟨#[]⟩], .bool false]) := rfl
      cases hj : gOk s
      · rw [hj] at hok hval
        have HV : Hid (gVal s = .tuple #[.agg #[.string ⟨#[]⟩, .string ⟨#[]⟩, .string ⟨#[]⟩], .bool false]) := hval
        clear hval hgo hj
        go_wp2_with fail
        go_fit hok
        rintro e W6 ⟨rfl, b6⟩
        have w1 := v1.below b6
        have w0 := v0.below b6
        have cw := cv.trans (b6.mono cv.size)
        clear v1 v0 cv
        have y0 := ((w0.set0 ⟨#[]⟩).set1 ⟨#[]⟩).set2 ⟨#[]⟩
        have yB := ((cw.setCell (p := ⟨w.heap.size, 0, none⟩) (Nat.le_refl _) (.string ⟨#[]⟩)).setCell (p := ⟨w.heap.size, 1, none⟩) (Nat.le_refl _) (.string ⟨#[]⟩)).setCell (p := ⟨w.heap.size, 2, none⟩) (Nat.le_refl _) (.string ⟨#[]⟩)
        have a0 := w0.c0
        have a1 := w0.c1
        have a2 := w0.c2
        have f0 := w0.fz 0
        have f1 := w0.fz 1
        have f3 := w0.fz 2
        have d0 := y0.c0
        have d1 := y0.c1
        have d2 := y0.c2
        clear y0
        go_wp2_with fail
        exact bodyPost_ret (v := .tuple #[.agg #[.string ⟨#[]⟩, .string ⟨#[]⟩, .string ⟨#[]⟩], .bool false]) (by simp [results, Tryd.results31, go_sem, d0, d1, d2]) rfl ⟨by rw [HV.out], yB⟩
      · rw [hj] at hok hval
        have HV : Hid (gVal s = .tuple #[.agg #[.string (foldT (gUser s)), .string (foldT (gHost s)), .string (gNick s)], .bool true]) := hval
        clear hval hgo hj
        go_wp2_with fail
        go_fit hok
        rintro e W6 ⟨rfl, b6⟩
        have w1 := v1.below b6
        have w0 := v0.below b6
        have cw := cv.trans (b6.mono cv.size)
        have m0 := w1.c0
        have m1 := w1.c1
        have m2 := w1.c2
        clear v1 v0 cv e0 e1 e2
        have y0 := ((w0.set0 (foldT (gUser s))).set1 (foldT (gHost s))).set2 (gNick s)
        have yB := ((cw.setCell (p := ⟨w.heap.size, 0, none⟩) (Nat.le_refl _) (.string (foldT (gUser s)))).setCell (p := ⟨w.heap.size, 1, none⟩) (Nat.le_refl _) (.string (foldT (gHost s)))).setCell (p := ⟨w.heap.size, 2, none⟩) (Nat.le_refl _) (.string (gNick s))
        have a0 := w0.c0
        have a1 := w0.c1
        have a2 := w0.c2
        have f0 := w0.fz 0
        have f1 := w0.fz 1
        have f3 := w0.fz 2
        have d0 := y0.c0
        have d1 := y0.c1
        have d2 := y0.c2
        clear y0
        go_wp2_with fail
        exact bodyPost_ret (v := .tuple #[.agg #[.string (foldT (gUser s)), .string (foldT (gHost s)), .string (gNick s)], .bool true]) (by simp [results, Tryd.results31, go_sem, d0, d1, d2]) rfl ⟨by rw [HV.out], yB⟩
end Go.Proofs.YthcjimigmeijfacDoor.Hub
