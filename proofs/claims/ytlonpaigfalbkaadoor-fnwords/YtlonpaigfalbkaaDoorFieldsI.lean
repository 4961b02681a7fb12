/-
  The library's strings.FieldsFuncSeq at the program's isApart: it gives the runs of a text, one behind the other.
-/
import Derived.Shelf.Abstract
import Derived.Shelf.RegionOpen
import Derived.OwnWalkIn
import Derived.TacticsInMore
import Derived.LoopNIn
import Derived.LoopIn
import Derived.RangeFuncWrites
import Derived.RangeFuncBound
import Derived.RangeFuncCalls
import Derived.RangeFuncLeaves
import Derived.WalkKit
import Derived.Shelf.Spec.BytesIndexFunc
import Derived.Test.YtlonpaigfalbkaaDoorShelf
import Derived.Test.YtlonpaigfalbkaaDoorApartI
import Derived.Test.YtlonpaigfalbkaaDoorRunsD
namespace Go.Proofs.YtlonpaigfalbkaaDoor.Hub
open Go.RowKit Go.Shelf Go.Proofs
attribute [local go_sem] Oper.semAt_some
set_option linter.unusedVariables false
set_option linter.unusedSimpArgs false

abbrev apartV : Value := .func (.func 12) #[] #[]
set_option maxHeartbeats 1000000 in
theorem fieldsSeq_any (s : ByteArray) (w : World) :
    Calls Tryd.prog 11 #[.string s, apartV] w fun e w' => e = .returned (.func (.func 17) #[] #[.pointer (some ⟨w.heap.size, 0, none⟩), .pointer (some ⟨w.heap.size + 1, 0, none⟩)]) ∧ w' = (w.alloc (.cells #[.string s] 9)).alloc (.cells #[apartV] 36) := by
  have hmf : ∀ (fn : Fn) (first cap : Array Value) (w : World), (Instr.makeFunc fn first cap).run Tryd.prog w = .ok (.func fn first cap) w := fun _ _ _ _ => rfl
  go_enter Tryd.func11, Tryd.ntmps11
  go_wp2
  go_ret
  exact ⟨rfl, rfl⟩
/-- A text that is not empty, of at most so many bytes. -/
abbrev SmallT := { r : ByteArray // 0 < r.size ∧ r.size ≤ 1048576 }
theorem grown_of_below' {W W' : World} (h : Below W.heap.size W W') : W.grownBy W' none := ⟨h.os, h.tape, h.output, h.size, fun k hk _ => h.block k hk⟩
theorem runs_len (s : ByteArray) : ∀ f k, (runsF s f k).length ≤ f
  | 0, k => Nat.le_refl _
  | f + 1, k => by
    rw [runsF]
    split
    · split
      · have := runs_len s f (k + 1); omega
      · have := runs_len s f (runEnd s (s.size - k) k); rw [List.length_cons]; omega
    · exact Nat.zero_le _
theorem sign_cases (s : ByteArray) (i : Nat) (h : i < s.size) :
    (letAt s i = false ∧ (Utf8.decode s i).2 = 1 ∧ ∀ W, Calls Tryd.prog 12 #[.int .i32 ((Utf8.decode s i).1 : Int)] W fun e w' => e = .returned (.bool true) ∧ w' = W) ∨
    (1 ≤ (Utf8.decode s i).2 ∧ i + (Utf8.decode s i).2 ≤ s.size ∧ (∀ t, t < (Utf8.decode s i).2 → letAt s (i + t) = true) ∧ ∀ W, Calls Tryd.prog 12 #[.int .i32 ((Utf8.decode s i).1 : Int)] W fun e w' => e = .returned (.bool false) ∧ w' = W) := by
  by_cases hb : s[i].toNat < 128
  · have hA := fun W => apart_small s[i] hb W
    rw [dec_small s i h hb]
    rcases hl : letB s[i] with _ | _
    · rw [hl] at hA
      exact .inl ⟨by rw [letAt_in s i h, hl], rfl, hA⟩
    · rw [hl] at hA
      exact .inr ⟨Nat.le_refl _, h, fun t ht => by rw [show i + t = i by simp only at ht; omega, letAt_in s i h, hl], hA⟩
  · obtain ⟨a, b, c, d⟩ := dec_word s i h (by omega)
    exact .inr ⟨b, c, d, fun W => apart_big _ a W⟩
/-- What a round keeps: what lay ahead of the call, and the two boxes. -/
def KeepF (n₀ Bs Bf : Nat) (W W' : World) : Prop := Below n₀ W W' ∧ W'.heap[Bs]? = W.heap[Bs]? ∧ W'.heap[Bf]? = W.heap[Bf]?
set_option maxRecDepth 100000 in
set_option maxHeartbeats 4000000 in
theorem fields_stops (n : Nat) (hn : 1 ≤ n) (n₀ Bs Bf : Nat) (s : ByteArray) (hs : s.size ≤ 1048576) (w : World) (hn0 : n₀ ≤ w.heap.size)
    (hbs : w.heap[Bs]? = some (.cells #[.string s] 9 (0, 0))) (hbf : w.heap[Bf]? = some (.cells #[apartV] 36 (0, 0))) (hT : ∀ W, Below n₀ w W → Lib.Utf8Tabs 0 1 W) :
    SeqStopsK Fence.wide n Tryd.prog 17 #[.pointer (some ⟨Bs, 0, none⟩), .pointer (some ⟨Bf, 0, none⟩)] (fun x : SmallT => #[.string x.1]) (KeepF n₀ Bs Bf) (fun xs => xs.map (·.1) = runsV s 0) (fun _ => True) (s.size + 1) w := by
  intro l J Jx W hW hJ hJx hY h0
  have hbs1 := (hW.block Bs (Array.getElem?_eq_some_iff.1 hbs).1).trans hbs
  have hbf1 := (hW.block Bf (Array.getElem?_eq_some_iff.1 hbf).1).trans hbf
  have bW : Below n₀ w W := hW.mono hn0
  show CallsIn Fence.wide n Tryd.prog 17 #[.func (.yield l) #[] #[], .pointer (some ⟨Bs, 0, none⟩), .pointer (some ⟨Bf, 0, none⟩)] W _
  refine callsIn_of_wp Tryd.func17 rfl trivial ?_ rfl
  simp only [Tryd.ntmps17, List.size_toArray, List.length_cons, List.length_nil, Nat.reduceAdd, Nat.reduceSub, Array.replicate_succ, Array.replicate_zero, List.push_toArray, List.append_toArray, List.nil_append, List.cons_append]
  gi_wp2_with fail
  gi_loopw [4, 5] (fun a b wr => ∃ (i : Nat) (pre : List SmallT) (rest : List ByteArray), b = .int .i64 i ∧ i ≤ s.size ∧ ((a = .int .i64 (-1) ∧ rest = runsV s i) ∨ (∃ k : Nat, a = .int .i64 k ∧ k < i ∧ rest = s.extract k (runEnd s (s.size - i) i) :: runsV s (runEnd s (s.size - i) i))) ∧ Hid (pre.map (·.1) ++ rest = runsV s 0) ∧ J pre wr ∧ Below n₀ w wr ∧ wr.heap[Bs]? = some (.cells #[.string s] 9 (0, 0)) ∧ wr.heap[Bf]? = some (.cells #[apartV] 36 (0, 0)) ∧ W.heap.size ≤ wr.heap.size)
    (fun _ b _ => s.size - (intOf b).toNat)
  case atStart => exact ⟨0, [], runsV s 0, rfl, by omega, .inl ⟨rfl, rfl⟩, rfl, h0, bW, hbs1, hbf1, Nat.le_refl _⟩
  case round =>
    obtain ⟨i, pre, rest, rfl, hi, hst, hpre, hJs, hbl, hbs2, hbf2, hsz⟩ := hrel
    have c1 : wr.cell? ⟨Bs, 0, none⟩ = some (.string s) := by simp [World.cell?, hbs2]
    have c2 : wr.cell? ⟨Bf, 0, none⟩ = some apartV := by simp [World.cell?, hbf2]
    by_cases hlt : i < s.size
    · have hD := Tryd.utf8_DecodeRuneInString (s.extract i s.size) wr (hT wr hbl)
      rw [decodeGo_tail s i hlt] at hD
      have hltI : (i : Int) < (s.size : Int) := by omega
      have hsg := sign_cases s i hlt
      obtain ⟨R, hR⟩ : ∃ R, (Utf8.decode s i).1 = R := ⟨_, rfl⟩
      obtain ⟨K, hK⟩ : ∃ K, (Utf8.decode s i).2 = K := ⟨_, rfl⟩
      rw [hR, hK] at hD hsg
      clear hR hK
      rcases hsg with ⟨hl, rfl, hA⟩ | ⟨hK1, hK2, hls, hA⟩
      · have HL : Hid (letAt s i = false) := hl
        clear hl
        rcases hst with ⟨rfl, rfl⟩ | ⟨k, rfl, hk, rfl⟩
        · gi_wp2_with fail
          refine ⟨trivial, ?_⟩
          refine (callsIn_wide.2 hD).mono ?_
          rintro e w1 ⟨rfl, hg⟩
          have hJ1 := hJ pre wr w1 none hJs (grown_of_below' hg) (fun r e => by cases e)
          have hbl1 : Below n₀ w w1 := hbl.trans (hg.mono (by have := hbl.size; omega))
          have hbs3 := (hg.block Bs (Array.getElem?_eq_some_iff.1 hbs2).1).trans hbs2
          have hbf3 := (hg.block Bf (Array.getElem?_eq_some_iff.1 hbf2).1).trans hbf2
          have hsz1 : W.heap.size ≤ w1.heap.size := Nat.le_trans hsz hg.size
          have d1 : w1.cell? ⟨Bs, 0, none⟩ = some (.string s) := by simp [World.cell?, hbs3]
          have d2 : w1.cell? ⟨Bf, 0, none⟩ = some apartV := by simp [World.cell?, hbf3]
          clear c1 c2 hJs hbs2 hbf2 hD
          gi_wp2_with fail
          refine ⟨trivial, ?_⟩
          refine (callsIn_wide.2 (hA _)).mono ?_
          rintro e w2 ⟨rfl, hw2⟩
          rw [hw2]
          clear hw2
          gi_wp2
          go_roundw
          case rel => exact ⟨i + 1, pre, _, by go_num, hlt, .inl ⟨rfl, rfl⟩, (by rw [← runs_skip s i hlt HL.out]; exact hpre.out : pre.map (·.1) ++ runsV s (i + 1) = runsV s 0), hJ1, hbl1, hbs3, hbf3, hsz1⟩
          case measure => simp [intOf]; omega
        · have he := run_stop s i hlt (by rw [← letAt_in s i hlt]; exact HL.out)
          rw [he] at hpre
          have hkI : (0 : Int) ≤ (k : Int) := by omega
          have hki : (k : Int) ≤ (i : Int) := by omega
          have his : (i : Int) ≤ (s.size : Int) := by omega
          have hpl : pre.length < s.size + 1 := by
            have h1 := congrArg List.length hpre.out
            have h2 := runs_len s (s.size - 0) 0
            unfold runsV at h1
            rw [List.length_append, List.length_map, List.length_cons] at h1
            omega
          clear he
          gi_wp2_with fail
          refine ⟨trivial, ?_⟩
          refine (callsIn_wide.2 hD).mono ?_
          rintro e w1 ⟨rfl, hg⟩
          have hJ1 := hJ pre wr w1 none hJs (grown_of_below' hg) (fun r e => by cases e)
          have hbl1 : Below n₀ w w1 := hbl.trans (hg.mono (by have := hbl.size; omega))
          have hbs3 := (hg.block Bs (Array.getElem?_eq_some_iff.1 hbs2).1).trans hbs2
          have hbf3 := (hg.block Bf (Array.getElem?_eq_some_iff.1 hbf2).1).trans hbf2
          have hsz1 : W.heap.size ≤ w1.heap.size := Nat.le_trans hsz hg.size
          have d1 : w1.cell? ⟨Bs, 0, none⟩ = some (.string s) := by simp [World.cell?, hbs3]
          have d2 : w1.cell? ⟨Bf, 0, none⟩ = some apartV := by simp [World.cell?, hbf3]
          clear c1 c2 hJs hbs2 hbf2 hD
          gi_wp2_with fail
          refine ⟨trivial, ?_⟩
          refine (callsIn_wide.2 (hA _)).mono ?_
          rintro e w2 ⟨rfl, hw2⟩
          rw [hw2]
          clear hw2
          obtain ⟨fn, tmps, assign, body, hy, hR⟩ := hY pre ⟨s.extract k i, by rw [ByteArray.size_extract]; omega⟩ w1 hJ1 hpl
          dsimp only at hy
          gi_wp2
          refine hR.mono ?_
          rintro e W3 (⟨rfl, hJ3, hk3⟩ | ⟨rfl, hJx3⟩)
          · have hbs4 := hk3.2.1.trans hbs3
            have hbf4 := hk3.2.2.trans hbf3
            have hbl4 := hbl1.trans hk3.1
            have hsz4 : W.heap.size ≤ W3.heap.size := Nat.le_trans hsz1 hk3.1.size
            have HN : Hid ((pre ++ [(⟨s.extract k i, by rw [ByteArray.size_extract]; omega⟩ : SmallT)]).map (·.1) ++ runsV s (i + 1) = runsV s 0) := by
              have h9 : (pre ++ [(⟨s.extract k i, by rw [ByteArray.size_extract]; omega⟩ : SmallT)]).map (·.1) ++ runsV s (i + 1) = runsV s 0 := by
                rw [← runs_skip s i hlt HL.out, List.map_append, List.append_assoc]
                exact hpre.out
              exact h9
            clear hpre hR hy hk3 hbs3 hbf3 d1 d2
            gi_wp2
            go_roundw
            case rel => exact ⟨i + 1, _, _, by go_num, hlt, .inl ⟨rfl, rfl⟩, HN, hJ3, hbl4, hbs4, hbf4, hsz4⟩
            case measure => simp [intOf]; omega
          · clear hpre hR hy
            gi_wp2
            refine bodyPost_ret (results_none rfl _ _ _) rfl ?_
            exact ⟨⟨_, rfl⟩, .inr ⟨_, trivial, hJx3⟩⟩
      · have HL : Hid (∀ t, t < K → letAt s (i + t) = true) := hls
        clear hls
        rcases hst with ⟨rfl, rfl⟩ | ⟨k, rfl, hk, rfl⟩
        · have hKI : (K : Int) ≤ (s.size : Int) := by omega
          gi_wp2_with fail
          refine ⟨trivial, ?_⟩
          refine (callsIn_wide.2 hD).mono ?_
          rintro e w1 ⟨rfl, hg⟩
          have hJ1 := hJ pre wr w1 none hJs (grown_of_below' hg) (fun r e => by cases e)
          have hbl1 : Below n₀ w w1 := hbl.trans (hg.mono (by have := hbl.size; omega))
          have hbs3 := (hg.block Bs (Array.getElem?_eq_some_iff.1 hbs2).1).trans hbs2
          have hbf3 := (hg.block Bf (Array.getElem?_eq_some_iff.1 hbf2).1).trans hbf2
          have hsz1 : W.heap.size ≤ w1.heap.size := Nat.le_trans hsz hg.size
          have d1 : w1.cell? ⟨Bs, 0, none⟩ = some (.string s) := by simp [World.cell?, hbs3]
          have d2 : w1.cell? ⟨Bf, 0, none⟩ = some apartV := by simp [World.cell?, hbf3]
          clear c1 c2 hJs hbs2 hbf2 hD
          gi_wp2_with fail
          refine ⟨trivial, ?_⟩
          refine (callsIn_wide.2 (hA _)).mono ?_
          rintro e w2 ⟨rfl, hw2⟩
          rw [hw2]
          clear hw2
          gi_wp2
          go_roundw
          case rel =>
            have h5 := HL.out 0 (by omega)
            rw [Nat.add_zero] at h5
            obtain ⟨h6, h7⟩ := runs_take s i hlt h5
            refine ⟨i + K, pre, _, by go_num, hK2, .inr ⟨i, rfl, by omega, rfl⟩, ?_, hJ1, hbl1, hbs3, hbf3, hsz1⟩
            have h8 : pre.map (·.1) ++ s.extract i (runEnd s (s.size - (i + K)) (i + K)) :: runsV s (runEnd s (s.size - (i + K)) (i + K)) = runsV s 0 := by
              rw [← run_skip s K i hK2 HL.out, ← h7]
              exact hpre.out
            exact h8
          case measure => simp [intOf]; omega
        · have hkn : ¬ (k : Int) < 0 := by omega
          have hKI : (K : Int) ≤ (s.size : Int) := by omega
          gi_wp2_with fail
          refine ⟨trivial, ?_⟩
          refine (callsIn_wide.2 hD).mono ?_
          rintro e w1 ⟨rfl, hg⟩
          have hJ1 := hJ pre wr w1 none hJs (grown_of_below' hg) (fun r e => by cases e)
          have hbl1 : Below n₀ w w1 := hbl.trans (hg.mono (by have := hbl.size; omega))
          have hbs3 := (hg.block Bs (Array.getElem?_eq_some_iff.1 hbs2).1).trans hbs2
          have hbf3 := (hg.block Bf (Array.getElem?_eq_some_iff.1 hbf2).1).trans hbf2
          have hsz1 : W.heap.size ≤ w1.heap.size := Nat.le_trans hsz hg.size
          have d1 : w1.cell? ⟨Bs, 0, none⟩ = some (.string s) := by simp [World.cell?, hbs3]
          have d2 : w1.cell? ⟨Bf, 0, none⟩ = some apartV := by simp [World.cell?, hbf3]
          clear c1 c2 hJs hbs2 hbf2 hD
          gi_wp2_with fail
          refine ⟨trivial, ?_⟩
          refine (callsIn_wide.2 (hA _)).mono ?_
          rintro e w2 ⟨rfl, hw2⟩
          rw [hw2]
          clear hw2
          gi_wp2
          go_roundw
          case rel =>
            refine ⟨i + K, pre, _, by go_num, hK2, .inr ⟨k, rfl, by omega, rfl⟩, ?_, hJ1, hbl1, hbs3, hbf3, hsz1⟩
            have h8 : pre.map (·.1) ++ s.extract k (runEnd s (s.size - (i + K)) (i + K)) :: runsV s (runEnd s (s.size - (i + K)) (i + K)) = runsV s 0 := by
              rw [← run_skip s K i hK2 HL.out]
              exact hpre.out
            exact h8
          case measure => simp [intOf]; omega
    · have hie : i = s.size := by omega
      have hge : ¬ (i : Int) < (s.size : Int) := by omega
      rcases hst with ⟨rfl, rfl⟩ | ⟨k, rfl, hk, rfl⟩
      · have HN : Hid (pre.map (·.1) = runsV s 0) := by
          have h9 : pre.map (·.1) = runsV s 0 := by
            have := hpre.out
            rw [hie, runs_end, List.append_nil] at this
            exact this
          exact h9
        clear hpre
        gi_wp2
        go_end0
        exact ⟨⟨_, rfl⟩, .inl ⟨_, HN.out, hJs⟩⟩
      · have hpl : pre.length < s.size + 1 := by
          have h1 := congrArg List.length hpre.out
          have h2 := runs_len s (s.size - 0) 0
          unfold runsV at h1
          rw [List.length_append, List.length_map, List.length_cons] at h1
          omega
        have HN : Hid ((pre ++ [(⟨s.extract k s.size, by rw [ByteArray.size_extract]; omega⟩ : SmallT)]).map (·.1) = runsV s 0) := by
          have h9 : (pre ++ [(⟨s.extract k s.size, by rw [ByteArray.size_extract]; omega⟩ : SmallT)]).map (·.1) = runsV s 0 := by
            have := hpre.out
            rw [hie, Nat.sub_self] at this
            have e0 : runEnd s 0 s.size = s.size := rfl
            rw [e0, runs_end] at this
            rw [List.map_append]
            exact this
          exact h9
        have hkI : (0 : Int) ≤ (k : Int) := by omega
        have hks : (k : Int) ≤ (s.size : Int) := by omega
        obtain ⟨fn, tmps, assign, body, hy, hR⟩ := hY pre ⟨s.extract k s.size, by rw [ByteArray.size_extract]; omega⟩ wr hJs hpl
        dsimp only at hy
        clear hpre
        gi_wp2
        refine hR.mono ?_
        rintro e W3 (⟨rfl, hJ3, hk3⟩ | ⟨rfl, hJx3⟩)
        · clear hR hy
          gi_wp2
          go_end0
          exact ⟨⟨_, rfl⟩, .inl ⟨_, HN.out, hJ3⟩⟩
        · clear hR hy
          gi_wp2
          go_end0
          exact ⟨⟨_, rfl⟩, .inr ⟨_, trivial, hJx3⟩⟩
end Go.Proofs.YtlonpaigfalbkaaDoor.Hub
