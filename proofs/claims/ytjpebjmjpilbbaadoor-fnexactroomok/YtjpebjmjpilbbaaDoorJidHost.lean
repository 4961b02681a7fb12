/-
  The library's strings.SplitSeq at a dot, and the program's isHost: at every text it answers hostT.
-/
import Derived.Shelf.Abstract
import Derived.Shelf.RegionOpen
import Derived.OwnWalkIn
import Derived.TacticsInMore
import Derived.LoopNIn
import Derived.LoopIn
import Derived.Test.YtjpebjmjpilbbaaDoorRangeBox
import Derived.Test.YtjpebjmjpilbbaaDoorShelfC
import Derived.Test.YtjpebjmjpilbbaaDoorJidUser
namespace Go.Proofs.YtjpebjmjpilbbaaDoor.Hub
open Go.RowKit Go.Shelf Go.Proofs
attribute [local go_sem] Oper.semAt_some
set_option linter.unusedVariables false

theorem cutL_more (c : UInt8) : ∀ (m : Nat) (l : List UInt8), l.length ≤ m → cutL c (m + 1) l = cutL c m l
  | m, [], _ => by cases m <;> rfl
  | 0, _ :: _, h => by simp at h
  | m + 1, x :: xs, h => by
    simp only [List.length_cons] at h
    have e1 := cutL_more c m xs (by omega)
    have e2 := cutL_more c (m + 1) xs (by omega)
    rw [cutL_cons, cutL_cons, e2, e1]
theorem tail_list (r : ByteArray) (k : Nat) : (r.extract k r.size).data.toList = r.data.toList.drop k := by
  rw [extract_list, List.take_of_length_le (by rw [List.length_drop]; exact Nat.le_refl _)]
theorem head_bytes (r : ByteArray) (i : Nat) : ofL (r.data.toList.take i) = r.extract 0 i := by
  apply WideShapes.bytes_inj
  rw [extract_list]
  simp [ofL]
/-- The parts of a text, as texts. -/
def partsB (m : Nat) (r : ByteArray) : List ByteArray := (cutL 46 m r.data.toList).map ofL
theorem partsB_cases (m : Nat) (r : ByteArray) (hm : 1 ≤ m) : (Lib.indexByte r.data.toList 46 = -1 ∧ partsB m r = [r]) ∨ (∃ i : Nat, Lib.indexByte r.data.toList 46 = (i : Int) ∧ i < r.size ∧ partsB m r = r.extract 0 i :: partsB (m - 1) (r.extract (i + 1) r.size)) := by
  unfold partsB
  rcases cutL_index 46 m r.data.toList hm with ⟨h1, h2⟩ | ⟨i, h1, h2, h3⟩
  · exact .inl ⟨h1, by rw [h2]; rfl⟩
  · refine .inr ⟨i, h1, h2, ?_⟩
    rw [h3, List.map_cons, head_bytes, tail_list]
theorem host_parts (s : ByteArray) (h : s.size ≤ 20) : hostT s = (partsB (s.size + 1) s).all hpartT := by
  unfold hostT partsB
  rw [decide_eq_true h, Bool.true_and, cutL_more 46 s.size s.data.toList (Nat.le_refl _), List.all_map]
  rfl

theorem splitSeq_any (s : ByteArray) (w : World) :
    Calls Tryd.prog 49 #[.string s, .string ⟨#[46]⟩] w fun e w' => e = .returned (.func (.func 94) #[] #[.pointer (some ⟨w.heap.size + 1, 0, none⟩), .pointer (some ⟨w.heap.size, 0, none⟩), .pointer (some ⟨w.heap.size + 1 + 1, 0, none⟩)]) ∧ w' = ((w.alloc (.cells #[.string s] 9)).alloc (.cells #[.string ⟨#[46]⟩] 9)).alloc (.cells #[.int .i64 0] 3) := by
  have hmf : ∀ (fn : Fn) (first cap : Array Value) (w : World), (Instr.makeFunc fn first cap).run Tryd.prog w = .ok (.func fn first cap) w := fun _ _ _ _ => rfl
  go_enter Tryd.func49, Tryd.ntmps49
  go_wp2
  go_ret
  exact ⟨rfl, rfl⟩

/-- How long the text is that lies in a block's cell. -/
def strAt (w : World) (b : Nat) : Nat := match w.cell? ⟨b, 0, none⟩ with
  | some (.string r) => r.size
  | _ => 0
theorem strAt_of {w : World} {b : Nat} {r : ByteArray} (h : w.heap[b]? = some (.cells #[.string r] 9 (0, 0))) : strAt w b = r.size := by
  unfold strAt
  simp [World.cell?, h]

set_option maxRecDepth 100000 in
set_option maxHeartbeats 4000000 in
theorem split_gives (n : Nat) (hn : 1 ≤ n) (B Bs Bp Bv : Nat) (s : ByteArray) (hs : s.size ≤ 1099511627776) (hB : Bs < B ∧ Bp < B ∧ Bv < B) (hd : Bs ≠ Bp ∧ Bs ≠ Bv) (w : World)
    (hbs : w.heap[Bs]? = some (.cells #[.string s] 9 (0, 0))) (hbp : w.heap[Bp]? = some (.cells #[.string ⟨#[46]⟩] 9 (0, 0))) (hbv : w.heap[Bv]? = some (.cells #[.int .i64 0] 3 (0, 0))) :
    GivesBox Fence.wide n Tryd.prog 94 #[.pointer (some ⟨Bp, 0, none⟩), .pointer (some ⟨Bs, 0, none⟩), .pointer (some ⟨Bv, 0, none⟩)] (fun x : ByteArray => #[.string x]) (fun x => x.size ≤ 1099511627776) B Bs (partsB (s.size + 1) s) w := by
  intro l J Jx W hW hJ hJb hY h0
  obtain ⟨xs, hxs⟩ : ∃ xs, partsB (s.size + 1) s = xs := ⟨_, rfl⟩
  rw [hxs]
  have HX : Hid (partsB (s.size + 1) s = xs) := hxs
  clear hxs
  have hbs1 := (hW.block Bs (Array.getElem?_eq_some_iff.1 hbs).1).trans hbs
  have hbp1 := (hW.block Bp (Array.getElem?_eq_some_iff.1 hbp).1).trans hbp
  have hbv1 := (hW.block Bv (Array.getElem?_eq_some_iff.1 hbv).1).trans hbv
  clear hbs hbp hbv
  have cp : W.cell? ⟨Bp, 0, none⟩ = some (.string ⟨#[46]⟩) := by simp [World.cell?, hbp1]
  show CallsIn Fence.wide n Tryd.prog 94 #[.func (.yield l) #[] #[], .pointer (some ⟨Bp, 0, none⟩), .pointer (some ⟨Bs, 0, none⟩), .pointer (some ⟨Bv, 0, none⟩)] W _
  refine callsIn_of_wp Tryd.func94 rfl trivial ?_ rfl
  simp only [Tryd.ntmps94, List.size_toArray, List.length_cons, List.length_nil, Nat.reduceAdd, Nat.reduceSub, Array.replicate_succ, Array.replicate_zero, List.push_toArray, List.append_toArray, List.nil_append, List.cons_append]
  gi_wp2_with fail
  clear cp
  gi_loopw [] (fun wr => ∃ (pre : List ByteArray) (r : ByteArray) (m : Nat), r.size < m ∧ r.size ≤ s.size ∧ Hid (pre ++ partsB m r = xs) ∧ J pre wr ∧ wr.heap[Bs]? = some (.cells #[.string r] 9 (0, 0)) ∧ wr.heap[Bp]? = some (.cells #[.string ⟨#[46]⟩] 9 (0, 0)) ∧ wr.heap[Bv]? = some (.cells #[.int .i64 0] 3 (0, 0)))
    (fun wr => strAt wr Bs)
  case atStart => exact ⟨[], s, s.size + 1, by omega, Nat.le_refl _, HX, h0, hbs1, hbp1, hbv1⟩
  case round =>
    obtain ⟨pre, r, m, hm, hrs, hpre, hJs, hb1, hb2, hb3⟩ := hrel
    have c1 : wr.cell? ⟨Bs, 0, none⟩ = some (.string r) := by simp [World.cell?, hb1]
    have c2 : wr.cell? ⟨Bp, 0, none⟩ = some (.string ⟨#[46]⟩) := by simp [World.cell?, hb2]
    have c3 : wr.cell? ⟨Bv, 0, none⟩ = some (.int .i64 0) := by simp [World.cell?, hb3]
    have hix := fun w => Tryd.strings_Index_one r 46 w
    rcases partsB_cases m r (by omega) with ⟨h1, h2⟩ | ⟨i, h1, h2, h3⟩
    · have HF : Hid (pre ++ [r] = xs) := (by rw [← hpre.out, h2] : pre ++ [r] = xs)
      rw [h1] at hix
      obtain ⟨fn, tmps, assign, body, hy, hR⟩ := hY pre r wr (by omega) hJs
      clear h1 h2 hpre
      gi_wp2_with fail
      refine ⟨trivial, ?_⟩
      refine (callsIn_wide.2 (hix _)).mono ?_
      rintro e w' ⟨rfl, rfl⟩
      gi_wp2
      refine hR.mono ?_
      rintro e W3 (⟨rfl, hJ3, hk3⟩ | ⟨rfl, hJx3⟩)
      · gi_wp2
        go_end0
        exact ⟨⟨_, rfl⟩, .inl (by rw [← HF.out]; exact hJ3)⟩
      · gi_wp2
        go_end0
        exact ⟨⟨_, rfl⟩, .inr ⟨_, ⟨[], by rw [List.append_nil]; exact HF.out⟩, hJx3⟩⟩
    · have HF : Hid (pre ++ r.extract 0 i :: partsB (m - 1) (r.extract (i + 1) r.size) = xs) := (by rw [← hpre.out, h3] : pre ++ r.extract 0 i :: partsB (m - 1) (r.extract (i + 1) r.size) = xs)
      rw [h1] at hix
      have hiI : (i : Int) < (r.size : Int) := by omega
      have hi0 : ¬ (i : Int) < 0 := by omega
      have hi1 : (i : Int) ≤ (r.size : Int) := by omega
      have hi2 : (i : Int) + 1 ≤ (r.size : Int) := by omega
      obtain ⟨fn, tmps, assign, body, hy, hR⟩ := hY pre (r.extract 0 i) wr (by rw [ByteArray.size_extract]; omega) hJs
      clear h1 h3 hpre
      gi_wp2_with fail
      refine ⟨trivial, ?_⟩
      refine (callsIn_wide.2 (hix _)).mono ?_
      rintro e w' ⟨rfl, rfl⟩
      gi_wp2
      refine hR.mono ?_
      rintro e W3 (⟨rfl, hJ3, hk3⟩ | ⟨rfl, hJx3⟩)
      · have d1 := (hk3.block Bs hB.1).trans hb1
        have d2 := (hk3.block Bp hB.2.1).trans hb2
        have d3 := (hk3.block Bv hB.2.2).trans hb3
        have e1 : W3.cell? ⟨Bs, 0, none⟩ = some (.string r) := by simp [World.cell?, d1]
        have e2 : W3.cell? ⟨Bp, 0, none⟩ = some (.string ⟨#[46]⟩) := by simp [World.cell?, d2]
        have f1 : W3.frozen? ⟨Bs, 0, none⟩ = false := by simp [World.frozen?, d1]
        have g1 := heap_setCell_ne W3 Bs Bp (.string (r.extract (i + 1) r.size)) (fun e => hd.1 e.symm)
        have g2 := heap_setCell_ne W3 Bs Bv (.string (r.extract (i + 1) r.size)) (fun e => hd.2 e.symm)
        have g3 : (W3.setCell ⟨Bs, 0, none⟩ (.string (r.extract (i + 1) r.size))).heap[Bs]? = some (.cells #[.string (r.extract (i + 1) r.size)] 9 (0, 0)) := (show Boxed W3 Bs 9 (.string r) from d1).set _
        have HJ : Hid (J (pre ++ [r.extract 0 i]) (W3.setCell ⟨Bs, 0, none⟩ (.string (r.extract (i + 1) r.size)))) := hJb _ _ _ hJ3
        have HG : Hid ((W3.setCell ⟨Bs, 0, none⟩ (.string (r.extract (i + 1) r.size))).heap[Bs]? = some (.cells #[.string (r.extract (i + 1) r.size)] 9 (0, 0)) ∧ (W3.setCell ⟨Bs, 0, none⟩ (.string (r.extract (i + 1) r.size))).heap[Bp]? = some (.cells #[.string ⟨#[46]⟩] 9 (0, 0)) ∧ (W3.setCell ⟨Bs, 0, none⟩ (.string (r.extract (i + 1) r.size))).heap[Bv]? = some (.cells #[.int .i64 0] 3 (0, 0))) := ⟨g3, g1.trans d2, g2.trans d3⟩
        clear hR hy g1 g2 g3 d2 d3 hJ3 hb2 hb3 c1 c2 c3
        gi_wp2
        go_roundw
        case rel =>
          have hsz : (r.extract (i + 1) r.size).size = r.size - (i + 1) := by rw [ByteArray.size_extract]; omega
          exact ⟨pre ++ [r.extract 0 i], r.extract (i + 1) r.size, m - 1, by omega, by omega, (by rw [List.append_assoc]; exact HF.out : (pre ++ [r.extract 0 i]) ++ partsB (m - 1) (r.extract (i + 1) r.size) = xs), HJ.out, HG.out.1, HG.out.2.1, HG.out.2.2⟩
        case measure =>
          rw [strAt_of HG.out.1, strAt_of hb1, ByteArray.size_extract]
          omega
      · gi_wp2
        refine bodyPost_ret (results_none rfl _ _ _) rfl ?_
        exact ⟨⟨_, rfl⟩, .inr ⟨_, ⟨partsB (m - 1) (r.extract (i + 1) r.size), by rw [List.append_assoc]; exact HF.out⟩, hJx3⟩⟩

theorem boxed_store {W : World} {B b : Nat} {t : TypeId} {v u : Value} (h : Boxed W B t v) (hne : B ≠ b) : Boxed (W.setCell ⟨b, 0, none⟩ u) B t v := (heap_setCell_ne W b B u hne).trans h

set_option maxRecDepth 100000 in
set_option maxHeartbeats 4000000 in
theorem isHost_any (s : ByteArray) (w : World) (hs : s.size ≤ 1099511627776) :
    Calls Tryd.prog 23 #[.string s] w fun e w' => e = .returned (.bool (hostT s)) ∧ Below w.heap.size w w' := by
  refine (callsIn_wide (n := 3)).1 ?_
  refine callsIn_of_wp_marks Tryd.func23 rfl trivial ?_ rfl
  simp only [Tryd.ntmps23, List.size_toArray, List.length_cons, List.length_nil, Nat.reduceAdd, Nat.reduceSub, Array.replicate_succ, Array.replicate_zero, List.push_toArray, List.append_toArray, List.nil_append, List.cons_append]
  by_cases hbig : 20 < s.size
  · have hb : (20 : Int) < (s.size : Int) := by omega
    have hz : hostT s = false := by unfold hostT; rw [decide_eq_false (by omega)]; rfl
    rw [hz]
    clear hz
    gi_wp2_with fail
    have e1 := (Boxed.new w 4 (.bool false)).cell
    refine ⟨.bool false, ?_, rfl, (Below.refl _ w).alloc (Nat.le_refl _) _⟩
    simp [results, Tryd.f23, go_sem, e1]
  · have hb : ¬ (20 : Int) < (s.size : Int) := by omega
    have hz := host_parts s (by omega)
    rw [hz]
    clear hz
    gi_wp2_with fail
    refine ⟨trivial, ?_⟩
    refine (callsIn_wide.2 (splitSeq_any s _)).mono ?_
    rintro e w' ⟨rfl, rfl⟩
    gi_wp2_with fail
    have bO := (((Boxed.new w 4 (.bool false)).alloc (.cells #[.string s] 9)).alloc (.cells #[.string ⟨#[46]⟩] 9)).alloc (.cells #[.int .i64 0] 3)
    have bS := ((Boxed.new (w.alloc (.cells #[.bool false] 4)) 9 (.string s)).alloc (.cells #[.string ⟨#[46]⟩] 9)).alloc (.cells #[.int .i64 0] 3)
    have bP := (Boxed.new ((w.alloc (.cells #[.bool false] 4)).alloc (.cells #[.string s] 9)) 9 (.string ⟨#[46]⟩)).alloc (.cells #[.int .i64 0] 3)
    have bV := Boxed.new (((w.alloc (.cells #[.bool false] 4)).alloc (.cells #[.string s] 9)).alloc (.cells #[.string ⟨#[46]⟩] 9)) 3 (.int .i64 0)
    have hB0 : Below w.heap.size w ((((w.alloc (.cells #[.bool false] 4)).alloc (.cells #[.string s] 9)).alloc (.cells #[.string ⟨#[46]⟩] 9)).alloc (.cells #[.int .i64 0] 3)) := ((((Below.refl _ w).alloc (Nat.le_refl _) _).alloc (by simp) _).alloc (by simp; omega) _).alloc (by simp; omega) _
    have hsz : ((((w.alloc (.cells #[.bool false] 4)).alloc (.cells #[.string s] 9)).alloc (.cells #[.string ⟨#[46]⟩] 9)).alloc (.cells #[.int .i64 0] 3)).heap.size = w.heap.size + 4 := by simp
    simp only [World.size_alloc] at bO bS bP bV
    obtain ⟨W0, hW0⟩ : ∃ W0, (((w.alloc (.cells #[.bool false] 4)).alloc (.cells #[.string s] 9)).alloc (.cells #[.string ⟨#[46]⟩] 9)).alloc (.cells #[.int .i64 0] 3) = W0 := ⟨_, rfl⟩
    rw [hW0] at bO bS bP bV hB0 hsz ⊢
    clear hW0
    refine wpIn_range_box rfl (by decide) (gf := 94) (lb := #[.pointer (some ⟨w.heap.size + 1 + 1, 0, none⟩), .pointer (some ⟨w.heap.size + 1, 0, none⟩), .pointer (some ⟨w.heap.size + 1 + 1 + 1, 0, none⟩)]) rfl trivial (enters_of Tryd.func94 (by kernel_rfl) rfl)
      (b := w.heap.size + 1) (xs := partsB (s.size + 1) s) (by omega)
      (split_gives 2 (by decide) W0.heap.size (w.heap.size + 1) (w.heap.size + 1 + 1) (w.heap.size + 1 + 1 + 1) s hs (by omega) (by omega) W0 bS bP bV) (fun _ => rfl)
      (fun pre W => (pre.all hpartT = true ∧ Boxed W w.heap.size 4 (.bool false)) ∧ Below w.heap.size w W)
      (fun pre W => (pre.all hpartT = false ∧ Boxed W w.heap.size 4 (.bool false)) ∧ Below w.heap.size w W)
      (OwnFrom.and (OwnFrom.and (ownFrom_pure _ _) (Own.from (boxed_own _ _ _) _)) (ownFrom_below (Nat.le_refl _) (by omega)))
      (OwnFrom.and (OwnFrom.and (ownFrom_pure _ _) (Own.from (boxed_own _ _ _) _)) (ownFrom_below (Nat.le_refl _) (by omega)))
      (fun pre V v h => ⟨⟨h.1.1, boxed_store h.1.2 (by omega)⟩, h.2.setCell (p := ⟨w.heap.size + 1, 0, none⟩) (by simp) _⟩)
      ⟨⟨rfl, bO⟩, hB0⟩
      (fun x => { tmps := #[.string s, undef, .pointer (some ⟨w.heap.size, 0, none⟩), .string x, .string s, .int .i64 s.size, .bool false, .string s, .func (.func 94) #[] #[.pointer (some ⟨w.heap.size + 1 + 1, 0, none⟩), .pointer (some ⟨w.heap.size + 1, 0, none⟩), .pointer (some ⟨w.heap.size + 1 + 1 + 1, 0, none⟩)], .string x, undef, undef, undef], defers := [] })
      ?assign ?body ?done ?stop
    case assign =>
      intro l x W K hK
      gi_wp2
      exact hK
    case body =>
      rintro l pre x W hl hx ⟨⟨hg, bO1⟩, hB1⟩
      have cO := bO1.cell
      have fO := bO1.frozen
      have hp := isHostPart_any x W (by omega)
      have hall : ∀ q, (pre ++ [x]).all q = (pre.all q && q x) := fun q => by simp
      cases hq : hpartT x
      · have HA : Hid ((pre ++ [x]).all hpartT = false) := (by rw [hall, hq, Bool.and_false] : (pre ++ [x]).all hpartT = false)
        rw [hq] at hp
        clear hall hq hg
        gi_wp2_with fail
        refine ⟨trivial, ?_⟩
        refine (CallsIn.inRound l (callsIn_wide.2 hp)).mono ?_
        rintro e W1 ⟨rfl, rfl⟩
        gi_wp2_with fail
        exact ⟨(KeepsOthers.setCell _ _ _).from _, rfl, ⟨HA.out, bO1.set _⟩, hB1.setCell (p := ⟨w.heap.size, 0, none⟩) (Nat.le_refl _) _⟩
      · have HA : Hid ((pre ++ [x]).all hpartT = true) := (by rw [hall, hq, hg]; rfl : (pre ++ [x]).all hpartT = true)
        rw [hq] at hp
        clear hall hq hg
        gi_wp2_with fail
        refine ⟨trivial, ?_⟩
        refine (CallsIn.inRound l (callsIn_wide.2 hp)).mono ?_
        rintro e W1 ⟨rfl, rfl⟩
        gi_wp2_with fail
        exact ⟨KeepsFrom.refl _ _, Below.refl _ _, ⟨HA.out, bO1⟩, hB1⟩
    case done =>
      rintro D W hD ⟨⟨hg, bO1⟩, hB1⟩ hK
      have cO := bO1.cell
      have fO := bO1.frozen
      have HG : Hid ((partsB (s.size + 1) s).all hpartT = true) := hg
      clear hg
      gi_wp2_with fail
      have hK3 := (KeepsOthers.setCell W ⟨w.heap.size, 0, none⟩ (.bool true)).same D _ hK rfl
      refine ⟨by simp, .inl ⟨_, _, rfl, run_takeDeferred hK3, ?_⟩⟩
      have e2 := (boxed_own w.heap.size 4 (fun (_ : Unit) => Value.bool true) () _ _ _ (bO1.set (.bool true)) (grownBy_putObj' _ D (.deferred none)) (fun r e => by cases e; exact ⟨_, hK3, rfl⟩)).cell
      refine ⟨.bool true, ?_, by rw [HG.out], (hB1.setCell (p := ⟨w.heap.size, 0, none⟩) (Nat.le_refl _) _).trans (belowK_b (w := w) (Nat.le_refl _) _ D _ _ (by omega) hK3 rfl rfl)⟩
      simp [results, Tryd.f23, go_sem, e2]
    case stop =>
      rintro D pre W hD hpre ⟨⟨hg, bO1⟩, hB1⟩ hK
      have HG : Hid ((partsB (s.size + 1) s).all hpartT = false) := (by
        obtain ⟨t, ht⟩ := hpre
        rw [← ht, List.all_append, hg]
        rfl : (partsB (s.size + 1) s).all hpartT = false)
      clear hg
      gi_wp2_with fail
      refine ⟨by simp, .inl ⟨_, _, rfl, run_takeDeferred hK, ?_⟩⟩
      have e2 := (boxed_own w.heap.size 4 (fun (_ : Unit) => Value.bool false) () _ _ _ bO1 (grownBy_putObj' _ D (.deferred none)) (fun r e => by cases e; exact ⟨_, hK, rfl⟩)).cell
      refine ⟨.bool false, ?_, by rw [HG.out], hB1.trans (belowK_b (w := w) (Nat.le_refl _) W D _ _ (by omega) hK rfl rfl)⟩
      simp [results, Tryd.f23, go_sem, e2]
end Go.Proofs.YtjpebjmjpilbbaaDoor.Hub
