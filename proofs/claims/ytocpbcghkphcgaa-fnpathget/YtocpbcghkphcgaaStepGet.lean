/-
  The model's l12Step: the step with which a text begins.
-/
import Derived.Test.YtocpbcghkphcgaaPathGetD
import Derived.Test.YtocpbcghkphcgaaCutS
namespace Go.Proofs.Ytocpbcghkphcgaa.Hub
open Go.RowKit
set_option linter.unusedVariables false
set_option linter.unusedSimpArgs false

set_option maxRecDepth 100000 in
set_option maxHeartbeats 1000000 in
theorem l1Starts_any (s p : ByteArray) (w : World) (hs : s.size ≤ 1099511627776) (hp : p.size ≤ 1099511627776) :
    Calls Try.prog 42 #[.string s, .string p] w fun e w' => e = .returned (.bool (Lib.hasPrefix s.data.toList p.data.toList)) ∧ w' = w := by
  rw [← Lib.hasPrefix_raw]
  by_cases h : p.size ≤ s.size
  · rw [decide_eq_true h, Bool.true_and]
    go_enter Try.func42, Try.ntmps42
    go_wp2
    all_goals
      go_ret
      exact ⟨by first | rfl | simp_all, rfl⟩
  · rw [decide_eq_false h, Bool.false_and]
    go_enter Try.func42, Try.ntmps42
    go_wp2
    all_goals
      go_ret
      exact ⟨rfl, rfl⟩

/-- A run of bytes of a name from one place to another. -/
def RunS (s : ByteArray) (a k : Nat) : Prop := ∀ c ∈ sub s a k, nmB c = true
theorem run_self (s : ByteArray) (a : Nat) : RunS s a a := by
  intro c hc
  rw [sub_self] at hc
  cases hc
theorem run_succ {s : ByteArray} {a k : Nat} (h : RunS s a k) (ha : a ≤ k) (hk : k < s.size) (hb : nmB s[k] = true) : RunS s a (k + 1) := by
  intro c hc
  rw [sub_succ s a k ha hk] at hc
  rcases List.mem_append.1 hc with hc | hc
  · exact h c hc
  · rw [List.mem_singleton.1 hc]; exact hb
theorem nm_cases (b : UInt8) : (nmB b = true ∧ (insB (b.toNat : Int) = true ∨ (insB (b.toNat : Int) = false ∧ ((b.toNat : Int) == 42) = true))) ∨ (nmB b = false ∧ insB (b.toNat : Int) = false ∧ ((b.toNat : Int) == 42) = false) := by
  cases h : insB (b.toNat : Int)
  · by_cases h2 : b = 42
    · subst h2
      exact .inl ⟨by decide, .inr ⟨rfl, rfl⟩⟩
    · refine .inr ⟨by unfold nmB; rw [h, decide_eq_false h2]; rfl, rfl, ?_⟩
      refine beq_eq_false_iff_ne.2 (fun e => h2 (UInt8.toNat_inj.1 ?_))
      show b.toNat = 42
      omega
  · exact .inl ⟨by unfold nmB; rw [h]; rfl, .inl rfl⟩

theorem fore {s : ByteArray} {d : Bool} (h : Lib.hasPrefix s.data.toList (⟨#[47, 47]⟩ : ByteArray).data.toList = d) : (d = false → ∀ q, s.data.toList ≠ 47 :: 47 :: q) ∧ (d = true → 2 ≤ s.size ∧ s.data.toList = 47 :: 47 :: s.data.toList.drop 2) := by
  have hl : s.data.toList.length = s.size := rfl
  unfold Lib.hasPrefix at h
  constructor
  · rintro rfl q e
    rw [e] at h
    revert h
    simp
  · rintro rfl
    obtain ⟨q, hq⟩ := List.isPrefixOf_iff_prefix.1 h
    have e : s.data.toList = 47 :: 47 :: q := hq.symm
    rw [e] at hl
    simp only [List.length_cons] at hl
    exact ⟨by omega, by rw [e]; rfl⟩
theorem split_head {s : ByteArray} {d : Bool} {a0 k : Nat} (h : Lib.hasPrefix s.data.toList (⟨#[47, 47]⟩ : ByteArray).data.toList = d) (ha : (headL 0 d).length = a0) (hk : a0 ≤ k) (hk2 : k ≤ s.size) : s.data.toList = headL 0 d ++ ((s.extract a0 k).data.toList ++ s.data.toList.drop k) := by
  have h1 : (s.extract a0 k).data.toList = sub s a0 k := extract_list s a0 k
  rw [h1, sub_end s a0 k hk hk2]
  subst ha
  cases d
  · rfl
  · exact ((fore h).2 rfl).2
theorem cut_one (c : UInt8) (ci : Int) (hci : ci = (c.toNat : Int)) (Q : ByteArray) (hQ : Q.size ≤ 1048576) (W : World) :
    Calls Try.prog 44 #[.string Q, .int .u8 ci, .int .i64 1] W fun e w' => ∃ g cap : Nat, W.heap.size ≤ g ∧ Below W.heap.size W w' ∧ ((c ∉ Q.data.toList ∧ e = .returned (.slice (some ⟨g, 0, none⟩) 1 cap) ∧ 1 ≤ cap ∧ w'.cell? ⟨g, 0, none⟩ = some (.string Q)) ∨ ∃ a b : ByteArray, Q.data.toList = a.data.toList ++ c :: b.data.toList ∧ c ∉ a.data.toList ∧ e = .returned (.slice (some ⟨g, 0, none⟩) 2 cap) ∧ 2 ≤ cap ∧ w'.cell? ⟨g, 0, none⟩ = some (.string a) ∧ w'.cell? ⟨g, 1, none⟩ = some (.string b)) := by
  subst hci
  refine (l1Cut_any Q c 1 (by omega) W (by omega)).mono ?_
  rintro e w' ⟨g, cap, rfl, hown, bb⟩
  have hgc : W.heap.size ≤ g ∧ (cutL c 1 Q.data.toList).length ≤ cap := by
    rcases hown.2 with ⟨e, _⟩ | ⟨g2, c2, cur, e, h2, _, h3, _⟩
    · cases e
    · cases e; exact ⟨h2, h3⟩
  refine ⟨g, cap, hgc.1, bb, ?_⟩
  rcases cut1_cases c Q.data.toList with ⟨h1, h2⟩ | ⟨a, b, h1, h2, h3⟩
  · rw [h1] at hown hgc ⊢
    refine .inl ⟨h2, rfl, hgc.2, ?_⟩
    rw [hown.cellAt 0 (by simp)]
    simp only [strs, List.map_cons, List.map_nil, List.getElem?_cons_zero]
    rfl
  · rw [h3] at hown hgc ⊢
    refine .inr ⟨ofL a, ofL b, by simpa [ofL] using h1, by simpa [ofL] using h2, rfl, hgc.2, ?_, ?_⟩
    · rw [hown.cellAt 0 (by simp)]; rfl
    · rw [hown.cellAt 1 (by simp)]; rfl
theorem starts_one {b : ByteArray} {c : UInt8} {p : Bool} (h : Lib.hasPrefix b.data.toList (⟨#[c]⟩ : ByteArray).data.toList = p) : (p = false → ∀ q, b.data.toList ≠ c :: q) ∧ (p = true → 1 ≤ b.size ∧ b.data.toList = c :: (b.extract 1 b.size).data.toList) := by
  have hl : b.data.toList.length = b.size := rfl
  unfold Lib.hasPrefix at h
  constructor
  · rintro rfl q e
    rw [e] at h
    revert h
    simp
  · rintro rfl
    obtain ⟨q, hq⟩ := List.isPrefixOf_iff_prefix.1 h
    have e : b.data.toList = c :: q := hq.symm
    have e2 := hl
    rw [e] at e2
    simp only [List.length_cons] at e2
    refine ⟨by omega, ?_⟩
    rw [extract_list, List.take_of_length_le (by rw [List.length_drop]; omega), e]
    rfl
theorem bs {B : Nat} {V W : World} (h : Below B V W) (b i : Nat) (v : Value) (hb : B ≤ b) : Below B V (W.setCell ⟨b, i, none⟩ v) := h.setCell (p := ⟨b, i, none⟩) hb v
theorem cell_lt {w : World} {g i : Nat} {v : Value} (h : w.cell? ⟨g, i, none⟩ = some v) : g < w.heap.size := by
  obtain ⟨ob, hob, _⟩ := cells_of_cell h
  exact (Array.getElem?_eq_some_iff.1 hob).1
theorem four_far (U : World) (B b i : Nat) (h : B ≠ b) (v0 v1 v2 v3 : Value) : ((((U.setCell ⟨B, 0, none⟩ v0).setCell ⟨B, 1, none⟩ v1).setCell ⟨B, 2, none⟩ v2).setCell ⟨B, 3, none⟩ v3).cell? ⟨b, i, none⟩ = U.cell? ⟨b, i, none⟩ := by
  rw [setO _ _ _ _ (fun e => h (by injection e)), setO _ _ _ _ (fun e => h (by injection e)), setO _ _ _ _ (fun e => h (by injection e)), setO _ _ _ _ (fun e => h (by injection e))]
theorem two_new (w : World) (o1 o2 : Obj) : ((w.alloc o1).alloc o2).heap[w.heap.size]? = some o1 ∧ ((w.alloc o1).alloc o2).heap[w.heap.size + 1]? = some o2 := by
  have h2 := World.alloc_heap_new (w.alloc o1) o2
  have h1 := World.alloc_heap_new w o1
  have e : (w.alloc o1).heap.size = w.heap.size + 1 := by simp
  rw [e] at h2
  exact ⟨(Below.heap_alloc _ _ _ (by rw [e]; omega)).trans h1, h2⟩
theorem four_cells {W : World} {E : Nat} {T : TypeId} {c0 c1 c2 c3 : Value} (h : W.heap[E]? = some (.cells #[c0, c1, c2, c3] T (0, 0))) : W.cell? ⟨E, 0, none⟩ = some c0 ∧ W.cell? ⟨E, 1, none⟩ = some c1 ∧ W.cell? ⟨E, 2, none⟩ = some c2 ∧ W.cell? ⟨E, 3, none⟩ = some c3 := by
  simp only [World.cell?, h]
  exact ⟨rfl, rfl, rfl, rfl⟩

set_option maxRecDepth 100000 in
set_option maxHeartbeats 4000000 in
theorem l12Step_any (s : ByteArray) (hs : s.size ≤ 1048576) (w : World) :
    Calls Try.prog 32 #[.string s] w fun e w' => (∃ (d : Bool) (n a t : ByteArray) (k : Nat), e = .returned (.tuple #[.agg #[.bool d, .string n, .string a, .string t], .int .i64 k]) ∧ n.size ≤ s.size ∧ a.size ≤ s.size ∧ t.size ≤ s.size ∧ k ≤ s.size ∧ SaysS s.data.toList d n a t k) ∧ Below w.heap.size w w' := by
  have cS := fun w => l1Starts_any s ⟨#[47, 47]⟩ w (by omega) (by decide)
  obtain ⟨d, hd⟩ : ∃ d, Lib.hasPrefix s.data.toList (⟨#[47, 47]⟩ : ByteArray).data.toList = d := ⟨_, rfl⟩
  rw [hd] at cS
  have HD : Hid (Lib.hasPrefix s.data.toList (⟨#[47, 47]⟩ : ByteArray).data.toList = d) := hd
  clear hd
  cases d
  · have hf := fore HD.out
    have b0 : Below w.heap.size w ((w.alloc (.cells #[.bool false, .string ⟨#[]⟩, .string ⟨#[]⟩, .string ⟨#[]⟩] 37)).alloc (.cells #[.bool false, .string ⟨#[]⟩, .string ⟨#[]⟩, .string ⟨#[]⟩] 37)) := ((Below.refl _ w).alloc (Nat.le_refl _) _).alloc (by simp) _
    have hN : ∀ k, 0 ≤ k → k ≤ s.size → (s.extract 0 k).size = k - 0 := fun k _ _ => by rw [ByteArray.size_extract]; omega
    have HN : Hid (∀ k, 0 ≤ k → k ≤ s.size → (s.extract 0 k).size = k - 0) := hN
    have HF : Hid ((false = false → ∀ q, s.data.toList ≠ 47 :: 47 :: q) ∧ _) := hf
    clear hf hN
    go_enter Try.func32, Try.ntmps32
    go_wp2_with (go_at_call 42; refine (cS _).mono ?_; rintro e w9 ⟨rfl, rfl⟩)
    go_loopw [5] (fun i wr => ∃ k : Nat, 0 ≤ k ∧ k ≤ s.size ∧ i = .int .i64 k ∧ Hid (RunS s 0 k) ∧ wr = ((w.alloc (.cells #[.bool false, .string ⟨#[]⟩, .string ⟨#[]⟩, .string ⟨#[]⟩] 37)).alloc (.cells #[.bool false, .string ⟨#[]⟩, .string ⟨#[]⟩, .string ⟨#[]⟩] 37))) (fun i _ => s.size - (intOf i).toNat)
    case atStart => exact ⟨0, Nat.le_refl _, by omega, rfl, run_self s 0, by first | rfl | trivial⟩
    case round =>
      obtain ⟨k, hk0, hk, rfl, HA, rfl⟩ := hrel
      have haI : (0 : Int) ≤ (k : Int) := by omega
      by_cases hlt : k < s.size
      · have cI := fun W => l2In_any (s[k].toNat : Int) W
        rcases nm_cases s[k] with ⟨hb, h1 | ⟨h1, h2⟩⟩ | ⟨hb, h1, h2⟩
        · rw [h1] at cI
          have HB : Hid (RunS s 0 (k + 1)) := run_succ HA.out hk0 hlt hb
          clear HA hb h1
          go_wp2_with (go_at_call 43; refine (cI _).mono ?_; rintro e w9 ⟨rfl, rfl⟩)
          go_round
          case rel => exact ⟨k + 1, by omega, by omega, by go_num, HB, by first | rfl | trivial⟩
          case measure => simp [intOf]; omega
        · rw [h1] at cI
          have HB : Hid (RunS s 0 (k + 1)) := run_succ HA.out hk0 hlt hb
          clear HA hb h1
          go_wp2_with (go_at_call 43; refine (cI _).mono ?_; rintro e w9 ⟨rfl, rfl⟩)
          go_round
          case rel => exact ⟨k + 1, by omega, by omega, by go_num, HB, by first | rfl | trivial⟩
          case measure => simp [intOf]; omega
        · rw [h1] at cI
          have hsp := split_head (d := false) HD.out rfl (k := k) hk0 hk
          rw [drop_cons s k hlt] at hsp
          have HS : Hid (s.data.toList = headL 0 false ++ ((s.extract 0 k).data.toList ++ s[k] :: s.data.toList.drop (k + 1))) := hsp
          have HR : Hid (∀ c ∈ (s.extract 0 k).data.toList, nmB c = true) := fun c hc => HA.out c (by rw [extract_list] at hc; exact hc)
          have hne : ((k : Int) == (s.size : Int)) = false := beq_eq_false_iff_ne.2 (by omega)
          clear hsp HA
          by_cases h91 : s[k] = 91
          · have e91 : ((s[k].toNat : Int) != 91) = false := by rw [h91]; rfl
            have hQl : (s.extract (k + 1) s.size).data.toList = s.data.toList.drop (k + 1) := by rw [extract_list, List.take_of_length_le (by rw [List.length_drop]; exact Nat.le_refl _)]
            obtain ⟨Q, hQ⟩ : ∃ Q, s.extract (k + 1) s.size = Q := ⟨_, rfl⟩
            rw [hQ] at hQl
            have hQs : Q.size + k + 1 = s.size := by rw [← hQ, ByteArray.size_extract]; omega
            have HS2 : Hid (s.data.toList = headL 0 false ++ ((s.extract 0 k).data.toList ++ 91 :: Q.data.toList)) := (by rw [hQl, ← h91]; exact HS.out : _)
            have cQ := fun W => cut_one 61 61 rfl Q (by omega) W
            clear HS h91 hb h1 h2 hQl
            go_wp2_with (go_at_call 43; refine (cI _).mono ?_; rintro e w9 ⟨rfl, rfl⟩)
            clear hQ
            refine (cQ _).mono ?_
            rintro e w1 ⟨g, cap, hg, b1, hcase⟩
            have hB := b1.block (w.heap.size + 1) (by simp)
            have hB1 : w1.heap[w.heap.size + 1]? = some (.cells #[.bool false, .string (s.extract 0 k), .string ⟨#[]⟩, .string ⟨#[]⟩] 37 (0, 0)) := hB.trans (two_new w _ _).2
            have hB2 : w1.heap[w.heap.size]? = some (.cells #[.bool false, .string ⟨#[]⟩, .string ⟨#[]⟩, .string ⟨#[]⟩] 37 (0, 0)) := (b1.block w.heap.size (by have : ((w.alloc (.cells #[.bool false, .string ⟨#[]⟩, .string ⟨#[]⟩, .string ⟨#[]⟩] 37)).alloc (.cells #[.bool false, .string (s.extract 0 k), .string ⟨#[]⟩, .string ⟨#[]⟩] 37)).heap.size = w.heap.size + 2 := (by simp); omega)).trans (two_new w _ _).1
            have hg1 : w.heap.size + 2 ≤ g := by simpa using hg
            have hsz1 : w.heap.size + 2 ≤ w1.heap.size := by simpa using b1.size
            have bw1 : Below w.heap.size w w1 := (((Below.refl _ w).alloc (Nat.le_refl _) _).alloc (by simp) _).trans (b1.mono (by simp <;> omega))
            clear hB b1 hg
            obtain ⟨x0, x1, x2, x3⟩ := four_cells hB1
            obtain ⟨y0, y1, y2, y3⟩ := four_cells hB2
            have f1 : ∀ i, w1.frozen? ⟨w.heap.size + 1, i, none⟩ = false := fun i => by simp [World.frozen?, hB1]
            have f2 : ∀ i, w1.frozen? ⟨w.heap.size, i, none⟩ = false := fun i => by simp [World.frozen?, hB2]
            have hn1 : ¬ w.heap.size + 1 = g := by omega
            have hn2 : ¬ w.heap.size = g := by omega
            rcases hcase with ⟨hno, rfl, hc1, hc⟩ | ⟨a, b, hab, hno, rfl, hc1, hc, hc2⟩
            · go_wp2_with fail
              exact bodyPost_ret (v := .tuple #[.agg #[.bool false, .string (s.extract 0 k), .string Q, .string ⟨#[]⟩], .int .i64 (0 : Nat)]) (by simp [results, Try.results32, go_sem, x0, x1, x2, x3, y0, y1, y2, y3, hn1, hn2]) rfl ⟨⟨false, _, _, _, 0, rfl, by rw [HN.out k hk0 hk]; omega, by omega, Nat.zero_le _, Nat.zero_le _, leafB HS2.out (fun _ => HF.out.1 (by first | trivial | rfl)) HR.out hno _ _ _⟩, bs (bs (bs (bs (bs bw1 _ _ _ (by omega)) _ _ _ (Nat.le_refl _)) _ _ _ (Nat.le_refl _)) _ _ _ (Nat.le_refl _)) _ _ _ (Nat.le_refl _)⟩
            · have hz1 : Q.data.toList.length = Q.size := rfl
              have hz2 : a.data.toList.length = a.size := rfl
              have hz3 : b.data.toList.length = b.size := rfl
              have hzq := congrArg List.length hab
              simp only [List.length_append, List.length_cons] at hzq
              have cB := fun W => l1Starts_any b ⟨#[39]⟩ W (by omega) (by decide)
              obtain ⟨pb, hpb⟩ : ∃ pb, Lib.hasPrefix b.data.toList (⟨#[39]⟩ : ByteArray).data.toList = pb := ⟨_, rfl⟩
              rw [hpb] at cB
              have hsb := starts_one hpb
              have HAB : Hid (Q.data.toList = a.data.toList ++ 61 :: b.data.toList) := hab
              clear hpb cQ cS hab
              cases pb
              · have hsb1 := hsb.1 rfl
                clear hsb
                go_wp2_with (go_at_call 42; refine (cB _).mono ?_; rintro e w9 ⟨rfl, rfl⟩)
                exact bodyPost_ret (v := .tuple #[.agg #[.bool false, .string (s.extract 0 k), .string a, .string ⟨#[]⟩], .int .i64 (0 : Nat)]) (by simp [results, Try.results32, go_sem, x0, x1, x2, x3, y0, y1, y2, y3, hn1, hn2]) rfl ⟨⟨false, _, _, _, 0, rfl, by rw [HN.out k hk0 hk]; omega, by omega, Nat.zero_le _, Nat.zero_le _, leafC HS2.out (fun _ => HF.out.1 (by first | trivial | rfl)) HR.out HAB.out hno hsb1 _ _ _⟩, bs (bs (bs (bs (bs bw1 _ _ _ (by omega)) _ _ _ (Nat.le_refl _)) _ _ _ (Nat.le_refl _)) _ _ _ (Nat.le_refl _)) _ _ _ (Nat.le_refl _)⟩
              · have hb1 := (hsb.2 rfl).1
                have hb1i : (1 : Int) ≤ (b.size : Int) := by omega
                have hbl := (hsb.2 rfl).2
                obtain ⟨Q2, hQ2⟩ : ∃ Q2, b.extract 1 b.size = Q2 := ⟨_, rfl⟩
                rw [hQ2] at hbl
                have hz4 : Q2.size + 1 = b.size := by rw [← hQ2, ByteArray.size_extract]; omega
                have HBL : Hid (b.data.toList = 39 :: Q2.data.toList) := hbl
                have HQ2 : Hid (b.extract 1 b.size = Q2) := hQ2
                have cR := fun W => cut_one 39 39 rfl Q2 (by omega) W
                obtain ⟨V, hV⟩ : ∃ V, w1.setCell ⟨w.heap.size + 1, 2, none⟩ (.string a) = V := ⟨_, rfl⟩
                have HV : Hid (w1.setCell ⟨w.heap.size + 1, 2, none⟩ (.string a) = V) := hV
                have KV : Hid (V.heap[w.heap.size + 1]? = some (.cells #[.bool false, .string (s.extract 0 k), .string a, .string ⟨#[]⟩] 37 (0, 0))) := (by show V.heap[w.heap.size + 1]? = some (.cells #[.bool false, .string (s.extract 0 k), .string a, .string ⟨#[]⟩] 37 (0, 0)); have := set_heap w1 (w.heap.size + 1) 2 _ _ _ (.string a) hB1; rw [hV] at this; simpa using this)
                have KV0 : Hid (V.heap[w.heap.size]? = some (.cells #[.bool false, .string ⟨#[]⟩, .string ⟨#[]⟩, .string ⟨#[]⟩] 37 (0, 0))) := (by rw [← hV]; exact (Below.heap_setCell _ _ _ _ (by show w.heap.size ≠ w.heap.size + 1; omega)).trans hB2 : _)
                have KVa : Hid (V.cell? ⟨g, 0, none⟩ = some (.string a)) := (by rw [← hV, setO _ _ _ _ (by intro e; injection e with e1 _; omega)]; exact hc : _)
                have KVl : Hid (g < V.heap.size ∧ w.heap.size + 2 ≤ V.heap.size) := ⟨cell_lt KVa.out, by rw [← hV]; simpa using hsz1⟩
                have BV : Hid (Below w.heap.size w V) := (by rw [← hV]; exact bs bw1 _ _ _ (by omega) : _)
                clear hV hsb hbl hQ2
                go_wp2_with (go_at_call 42; refine (cB _).mono ?_; rintro e w9 ⟨rfl, rfl⟩)
                rw [HV.out, HQ2.out]
                refine (cR V).mono ?_
                rintro e w2 ⟨g2, cap2, hg2, b2, hcase2⟩
                clear x0 x1 x2 x3 y0 y1 y2 y3 f1 f2 hc hc2 hB1 hB2
                have hB1 := (b2.block (w.heap.size + 1) (by have := KVl.out; omega)).trans KV.out
                have hB2 := (b2.block w.heap.size (by have := KVl.out; omega)).trans KV0.out
                have hc := (b2.cell (p := ⟨g, 0, none⟩) KVl.out.1).trans KVa.out
                have bw2 : Below w.heap.size w w2 := BV.out.trans (b2.mono (by have := KVl.out; omega))
                have hg3 : w.heap.size + 2 ≤ g2 := by have := KVl.out; omega
                clear b2 hg2
                obtain ⟨z0, z1, z2, z3⟩ := four_cells hB1
                obtain ⟨q0, q1, q2, q3⟩ := four_cells hB2
                have f1 : ∀ i, w2.frozen? ⟨w.heap.size + 1, i, none⟩ = false := fun i => by simp [World.frozen?, hB1]
                have f2 : ∀ i, w2.frozen? ⟨w.heap.size, i, none⟩ = false := fun i => by simp [World.frozen?, hB2]
                have hn3 : ¬ w.heap.size + 1 = g2 := by omega
                have hn4 : ¬ w.heap.size = g2 := by omega
                rcases hcase2 with ⟨hno2, rfl, hd1, hd⟩ | ⟨t, c, htc, hno2, rfl, hd1, hd, hd2⟩
                · go_wp2_with fail
                  exact bodyPost_ret (v := .tuple #[.agg #[.bool false, .string (s.extract 0 k), .string a, .string Q2], .int .i64 (0 : Nat)]) (by simp [results, Try.results32, go_sem, z0, z1, z2, z3, q0, q1, q2, q3, hn1, hn2, hn3, hn4]) rfl ⟨⟨false, _, _, _, 0, rfl, by rw [HN.out k hk0 hk]; omega, by omega, by omega, Nat.zero_le _, leafD HS2.out (fun _ => HF.out.1 (by first | trivial | rfl)) HR.out (by rw [HAB.out, HBL.out]) hno hno2 _ _ _⟩, bs (bs (bs (bs (bs bw2 _ _ _ (by omega)) _ _ _ (Nat.le_refl _)) _ _ _ (Nat.le_refl _)) _ _ _ (Nat.le_refl _)) _ _ _ (Nat.le_refl _)⟩
                · have hz5 : t.data.toList.length = t.size := rfl
                  have hz6 : c.data.toList.length = c.size := rfl
                  have hz7 : Q2.data.toList.length = Q2.size := rfl
                  have hzt := congrArg List.length htc
                  simp only [List.length_append, List.length_cons] at hzt
                  have cC := fun W => l1Starts_any c ⟨#[93]⟩ W (by omega) (by decide)
                  obtain ⟨pc, hpc⟩ : ∃ pc, Lib.hasPrefix c.data.toList (⟨#[93]⟩ : ByteArray).data.toList = pc := ⟨_, rfl⟩
                  rw [hpc] at cC
                  have hsc := starts_one hpc
                  have HTC : Hid (Q2.data.toList = t.data.toList ++ 39 :: c.data.toList) := htc
                  clear hpc cB htc
                  cases pc
                  · have hsc1 := hsc.1 rfl
                    clear hsc
                    go_wp2_with (go_at_call 42; refine (cC _).mono ?_; rintro e w9 ⟨rfl, rfl⟩)
                    exact bodyPost_ret (v := .tuple #[.agg #[.bool false, .string (s.extract 0 k), .string a, .string t], .int .i64 (0 : Nat)]) (by simp [results, Try.results32, go_sem, z0, z1, z2, z3, q0, q1, q2, q3, hn1, hn2, hn3, hn4]) rfl ⟨⟨false, _, _, _, 0, rfl, by rw [HN.out k hk0 hk]; omega, by omega, by omega, Nat.zero_le _, leafE HS2.out (fun _ => HF.out.1 (by first | trivial | rfl)) HR.out (by rw [HAB.out, HBL.out, HTC.out]) hno hno2 hsc1 _ _ _⟩, bs (bs (bs (bs (bs bw2 _ _ _ (by omega)) _ _ _ (Nat.le_refl _)) _ _ _ (Nat.le_refl _)) _ _ _ (Nat.le_refl _)) _ _ _ (Nat.le_refl _)⟩
                  · have hcl := (hsc.2 rfl).2
                    have hc9 := (hsc.2 rfl).1
                    have HCL : Hid (c.data.toList = 93 :: (c.extract 1 c.size).data.toList) := hcl
                    have HK5 : Hid ((headL 0 false).length + (s.extract 0 k).size + a.size + t.size + 5 = k + a.size + t.size + 5) := (by rw [HN.out k hk0 hk]; show 0 + (k - 0) + a.size + t.size + 5 = _; omega : _)
                    have w1e : IntKind.i64.wrap ((k : Int) + (a.size : Int)) = (k : Int) + (a.size : Int) := by rw [IntKind.wrap_i64]; omega
                    have w2e : IntKind.i64.wrap ((k : Int) + (a.size : Int) + (t.size : Int)) = (k : Int) + (a.size : Int) + (t.size : Int) := by rw [IntKind.wrap_i64]; omega
                    have w3e : IntKind.i64.wrap ((k : Int) + (a.size : Int) + (t.size : Int) + 5) = ((k + a.size + t.size + 5 : Nat) : Int) := by rw [IntKind.wrap_i64]; omega
                    clear hsc hcl
                    go_wp2_with (go_at_call 42; refine (cC _).mono ?_; rintro e w9 ⟨rfl, rfl⟩)
                    obtain ⟨V3, hV3⟩ : ∃ V3, w2.setCell ⟨w.heap.size + 1, 3, none⟩ (.string t) = V3 := ⟨_, rfl⟩
                    have K3 : V3.heap[w.heap.size + 1]? = some (.cells #[.bool false, .string (s.extract 0 k), .string a, .string t] 37 (0, 0)) := by have := set_heap w2 (w.heap.size + 1) 3 _ _ _ (.string t) hB1; rw [hV3] at this; simpa using this
                    have K30 : V3.heap[w.heap.size]? = some (.cells #[.bool false, .string ⟨#[]⟩, .string ⟨#[]⟩, .string ⟨#[]⟩] 37 (0, 0)) := by rw [← hV3]; exact (Below.heap_setCell _ _ _ _ (by show w.heap.size ≠ w.heap.size + 1; omega)).trans hB2
                    have K3a : V3.cell? ⟨g, 0, none⟩ = some (.string a) := by rw [← hV3, setO _ _ _ _ (by intro e; injection e with e1 _; omega)]; exact hc
                    have K3t : V3.cell? ⟨g2, 0, none⟩ = some (.string t) := by rw [← hV3, setO _ _ _ _ (by intro e; injection e with e1 _; omega)]; exact hd
                    have bV3 : Below w.heap.size w V3 := by rw [← hV3]; exact bs bw2 _ _ _ (by omega)
                    rw [hV3]
                    clear hV3 z0 z1 z2 z3 q0 q1 q2 q3 f1 f2 hB1 hB2 hd hd2 hc KVa KV KV0 HV
                    obtain ⟨z0, z1, z2, z3⟩ := four_cells K3
                    refine wp_region_held_drew (S := fun W => (W.cell? ⟨w.heap.size + 1, 0, none⟩ = some (.bool false) ∧ W.cell? ⟨w.heap.size + 1, 1, none⟩ = some (.string (s.extract 0 k)) ∧ W.cell? ⟨w.heap.size + 1, 2, none⟩ = some (.string a) ∧ W.cell? ⟨w.heap.size + 1, 3, none⟩ = some (.string t)) ∧ W.cell? ⟨g, 0, none⟩ = some (.string a) ∧ W.cell? ⟨g2, 0, none⟩ = some (.string t)) (by kernel_rfl) ?_ (fun hHeld => ?_)
                    · exact ⟨⟨z0, z1, z2, z3⟩, K3a, K3t⟩
                    obtain ⟨U, hU⟩ : ∃ U, V3.drew = U := ⟨_, rfl⟩
                    have U0 : U.heap[w.heap.size]? = some (.cells #[.bool false, .string ⟨#[]⟩, .string ⟨#[]⟩, .string ⟨#[]⟩] 37 (0, 0)) := by rw [← hU]; exact K30
                    have bU : Below w.heap.size w U := by rw [← hU]; exact bV3.drew
                    rw [hU] at hHeld ⊢
                    clear hU K3 K30 K3a K3t z0 z1 z2 z3 bV3
                    obtain ⟨q0, q1, q2, q3⟩ := four_cells U0
                    have f2 : ∀ i, U.frozen? ⟨w.heap.size, i, none⟩ = false := fun i => by simp [World.frozen?, U0]
                    refine wpAnyH_take (i := 0) (v := ?_) rfl (by kernel_rfl) (by kernel_rfl) (by kernel_rfl) (fun _ _ _ h => h) (Or.inl ⟨by rfl, ?takeYga00⟩) (by assumption) ?takeRga00
                    case takeYga00 => (intro w hSw; (try dsimp only at hSw); go_simp; try (with_reducible rfl))
                    simp only [Act.put, List.setIfInBounds_toArray, List.set_cons_zero, List.set_cons_succ, List.getElem_toArray, List.getElem_cons_zero]
                    refine wpAnyH_take (i := 1) (v := ?_) rfl (by kernel_rfl) (by kernel_rfl) (by kernel_rfl) (fun _ _ _ h => h) (Or.inl ⟨by rfl, ?takeYga01⟩) (by assumption) ?takeRga01
                    case takeYga01 => (intro w hSw; (try dsimp only at hSw); go_simp; try (with_reducible rfl))
                    simp only [Act.put, List.setIfInBounds_toArray, List.set_cons_zero, List.set_cons_succ, List.getElem_toArray, List.getElem_cons_zero, List.getElem_cons_succ]
                    refine wpAnyH_take (i := 2) (v := ?_) rfl (by kernel_rfl) (by kernel_rfl) (by kernel_rfl) (fun _ _ _ h => h) (Or.inl ⟨by rfl, ?takeYga02⟩) (by assumption) ?takeRga02
                    case takeYga02 => (intro w hSw; (try dsimp only at hSw); go_simp; try (with_reducible rfl))
                    simp only [Act.put, List.setIfInBounds_toArray, List.set_cons_zero, List.set_cons_succ, List.getElem_toArray, List.getElem_cons_zero, List.getElem_cons_succ]
                    refine wpAnyH_take (i := 3) (v := ?_) rfl (by kernel_rfl) (by kernel_rfl) (by kernel_rfl) (fun _ _ _ h => h) (Or.inl ⟨by rfl, ?takeYga03⟩) (by assumption) ?takeRga03
                    case takeYga03 => (intro w hSw; (try dsimp only at hSw); go_simp; try (with_reducible rfl))
                    simp only [Act.put, List.setIfInBounds_toArray, List.set_cons_zero, List.set_cons_succ, List.getElem_toArray, List.getElem_cons_zero, List.getElem_cons_succ]
                    refine wpAnyH_take (i := 4) (v := ?_) rfl (by kernel_rfl) (by kernel_rfl) (by kernel_rfl) (fun _ _ _ h => h) (Or.inl ⟨by rfl, ?takeYga04⟩) (by assumption) ?takeRga04
                    case takeYga04 => (intro w hSw; (try dsimp only at hSw); go_simp; try (with_reducible rfl))
                    simp only [Act.put, List.setIfInBounds_toArray, List.set_cons_zero, List.set_cons_succ, List.getElem_toArray, List.getElem_cons_zero, List.getElem_cons_succ]
                    refine wpAnyH_take (i := 5) (v := ?_) rfl (by kernel_rfl) (by kernel_rfl) (by kernel_rfl) (fun _ _ _ h => h) (Or.inl ⟨by rfl, ?takeYga05⟩) (by assumption) ?takeRga05
                    case takeYga05 => (intro w hSw; (try dsimp only at hSw); go_simp; try (with_reducible rfl))
                    simp only [Act.put, List.setIfInBounds_toArray, List.set_cons_zero, List.set_cons_succ, List.getElem_toArray, List.getElem_cons_zero, List.getElem_cons_succ]
                    refine wpAnyH_take (i := 6) (v := ?_) rfl (by kernel_rfl) (by kernel_rfl) (by kernel_rfl) (fun _ _ _ h => h) (Or.inl ⟨by rfl, ?takeYga06⟩) (by assumption) ?takeRga06
                    case takeYga06 => (intro w hSw; (try dsimp only at hSw); go_simp; try (with_reducible rfl))
                    simp only [Act.put, List.setIfInBounds_toArray, List.set_cons_zero, List.set_cons_succ, List.getElem_toArray, List.getElem_cons_zero, List.getElem_cons_succ]
                    refine wpAnyH_take (i := 7) (v := ?_) rfl (by kernel_rfl) (by kernel_rfl) (by kernel_rfl) (fun _ _ _ h => h) (Or.inl ⟨by rfl, ?takeYga07⟩) (by assumption) ?takeRga07
                    case takeYga07 => (intro w hSw; (try dsimp only at hSw); go_simp; try (with_reducible rfl))
                    simp only [Act.put, List.setIfInBounds_toArray, List.set_cons_zero, List.set_cons_succ, List.getElem_toArray, List.getElem_cons_zero, List.getElem_cons_succ]
                    refine wpAnyH_take (i := 8) (v := ?_) rfl (by kernel_rfl) (by kernel_rfl) (by kernel_rfl) (fun _ _ _ h => h) (Or.inl ⟨by rfl, ?takeYga08⟩) (by assumption) ?takeRga08
                    case takeYga08 => (intro w hSw; (try dsimp only at hSw); go_simp; try (with_reducible rfl))
                    simp only [Act.put, List.setIfInBounds_toArray, List.set_cons_zero, List.set_cons_succ, List.getElem_toArray, List.getElem_cons_zero, List.getElem_cons_succ]
                    refine wpAnyH_take (i := 9) (v := ?_) rfl (by kernel_rfl) (by kernel_rfl) (by kernel_rfl) (fun _ _ _ h => h) (Or.inl ⟨by rfl, ?takeYga09⟩) (by assumption) ?takeRga09
                    case takeYga09 => (intro w hSw; (try dsimp only at hSw); go_simp; try (with_reducible rfl))
                    simp only [Act.put, List.setIfInBounds_toArray, List.set_cons_zero, List.set_cons_succ, List.getElem_toArray, List.getElem_cons_zero, List.getElem_cons_succ]
                    refine wpAnyH_take (i := 10) (v := ?_) rfl (by kernel_rfl) (by kernel_rfl) (by kernel_rfl) (fun _ _ _ h => h) (Or.inl ⟨by rfl, ?takeYga010⟩) (by assumption) ?takeRga010
                    case takeYga010 => (intro w hSw; (try dsimp only at hSw); go_simp; try (with_reducible rfl))
                    simp only [Act.put, List.setIfInBounds_toArray, List.set_cons_zero, List.set_cons_succ, List.getElem_toArray, List.getElem_cons_zero, List.getElem_cons_succ]
                    refine wpAnyH_take (i := 11) (v := ?_) rfl (by kernel_rfl) (by kernel_rfl) (by kernel_rfl) (fun _ _ _ h => h) (Or.inl ⟨by rfl, ?takeYga011⟩) (by assumption) ?takeRga011
                    case takeYga011 => (intro w hSw; (try dsimp only at hSw); go_simp; try (with_reducible rfl))
                    simp only [Act.put, List.setIfInBounds_toArray, List.set_cons_zero, List.set_cons_succ, List.getElem_toArray, List.getElem_cons_zero, List.getElem_cons_succ]
                    refine wpAnyH_take (i := 12) (v := ?_) rfl (by kernel_rfl) (by kernel_rfl) (by kernel_rfl) (fun _ _ _ h => h) (Or.inl ⟨by rfl, ?takeYga012⟩) (by assumption) ?takeRga012
                    case takeYga012 => (intro w hSw; (try dsimp only at hSw); go_simp; try (with_reducible rfl))
                    simp only [Act.put, List.setIfInBounds_toArray, List.set_cons_zero, List.set_cons_succ, List.getElem_toArray, List.getElem_cons_zero, List.getElem_cons_succ]
                    have HH : Hid ((U.cell? ⟨w.heap.size + 1, 0, none⟩ = some (.bool false) ∧ U.cell? ⟨w.heap.size + 1, 1, none⟩ = some (.string (s.extract 0 k)) ∧ U.cell? ⟨w.heap.size + 1, 2, none⟩ = some (.string a) ∧ U.cell? ⟨w.heap.size + 1, 3, none⟩ = some (.string t)) ∧ U.cell? ⟨g, 0, none⟩ = some (.string a) ∧ U.cell? ⟨g2, 0, none⟩ = some (.string t)) := hHeld
                    clear hHeld
                    refine wpAnyH_ready (rs := [13]) (by kernel_rfl) (by simp) ?_
                    refine AllReadyH.cons rfl (fun K hK => ?_) AllReadyH.nil
                    go_simp
                    refine hK.out _ _ ⟨⟨by rw [four_far _ _ _ _ (by omega)]; exact HH.out.1.1, by rw [four_far _ _ _ _ (by omega)]; exact HH.out.1.2.1, by rw [four_far _ _ _ _ (by omega)]; exact HH.out.1.2.2.1, by rw [four_far _ _ _ _ (by omega)]; exact HH.out.1.2.2.2⟩, by rw [four_far _ _ _ _ (by omega)]; exact HH.out.2.1, by rw [four_far _ _ _ _ (by omega)]; exact HH.out.2.2⟩ (fun hHeld => ?_)
                    clear hK K
                    try simp only [Act.put, List.setIfInBounds_toArray, List.set_cons_zero, List.set_cons_succ, List.getElem_toArray, List.getElem_cons_zero, List.getElem_cons_succ]
                    refine wpAnyH_take (i := 14) (v := ?_) rfl (by kernel_rfl) (by kernel_rfl) (by kernel_rfl) (fun _ _ _ h => h) (Or.inl ⟨by rfl, ?takeYga0z14⟩) (by assumption) ?takeRga0z14
                    case takeYga0z14 => (intro w hSw; (try dsimp only at hSw); go_simp; try (with_reducible rfl))
                    simp only [Act.put, List.setIfInBounds_toArray, List.set_cons_zero, List.set_cons_succ, List.getElem_toArray, List.getElem_cons_zero, List.getElem_cons_succ]
                    refine wpAnyH_done (by kernel_rfl) ?_ _
                    clear hHeld HH
                    go_wp2_with fail
                    exact bodyPost_ret (v := .tuple #[.agg #[.bool false, .string (s.extract 0 k), .string a, .string t], .int .i64 ((k + a.size + t.size + 5 : Nat) : Int)]) (by simp [results, Try.results32, go_sem, q0, q1, q2, q3]) rfl ⟨⟨false, _, _, _, k + a.size + t.size + 5, rfl, by rw [HN.out k hk0 hk]; omega, by omega, by omega, by omega, by rw [← HK5.out]; exact leafF HS2.out (fun _ => HF.out.1 (by first | trivial | rfl)) HR.out (by rw [HAB.out, HBL.out, HTC.out, HCL.out]) hno hno2⟩, bs (bs (bs (bs (bU) _ _ _ (Nat.le_refl _)) _ _ _ (Nat.le_refl _)) _ _ _ (Nat.le_refl _)) _ _ _ (Nat.le_refl _)⟩
          · have e91 : ((s[k].toNat : Int) != 91) = true := by
              refine bne_iff_ne.2 (fun e => h91 (UInt8.toNat_inj.1 ?_))
              show s[k].toNat = 91
              omega
            have hk9 : (headL 0 false).length + (s.extract 0 k).size = k := by rw [HN.out k hk0 hk]; show 0 + (k - 0) = k; omega
            have hA := leafA HS.out (fun _ => HF.out.1 (by first | trivial | rfl)) HR.out (fun c q e => by injection e with e1 _; rw [← e1]; exact hb) (fun q e => by injection e with e1 _; exact h91 e1)
            rw [hk9] at hA
            have HA9 : Hid (SaysS s.data.toList false (s.extract 0 k) ⟨#[]⟩ ⟨#[]⟩ k) := hA
            clear hA hk9 HS HR
            go_wp2_with (go_at_call 43; refine (cI _).mono ?_; rintro e w9 ⟨rfl, rfl⟩)
            exact bodyPost_ret (v := .tuple #[.agg #[.bool false, .string (s.extract 0 k), .string ⟨#[]⟩, .string ⟨#[]⟩], .int .i64 k]) (by simp [results, Try.results32, go_sem]) rfl ⟨⟨false, _, _, _, k, rfl, by rw [HN.out k hk0 hk]; omega, Nat.zero_le _, Nat.zero_le _, hk, HA9.out⟩, ((Below.refl _ w).alloc (Nat.le_refl _) _).alloc (by simp) _⟩
      · obtain rfl : k = s.size := by omega
        have hsp := split_head (d := false) (a0 := 0) HD.out rfl (k := s.size) hk0 (Nat.le_refl _)
        rw [List.drop_of_length_le (by have : s.data.toList.length = s.size := rfl; omega)] at hsp
        have hk9 : (headL 0 false).length + (s.extract 0 s.size).size = s.size := by rw [HN.out s.size hk0 hk]; show 0 + (s.size - 0) = s.size; omega
        have hA := leafA hsp (fun _ => HF.out.1 (by first | trivial | rfl)) (fun c hc => HA.out c (by rw [extract_list] at hc; exact hc)) (fun c q e => by cases e) (fun q e => by cases e)
        rw [hk9] at hA
        have HA9 : Hid (SaysS s.data.toList false (s.extract 0 s.size) ⟨#[]⟩ ⟨#[]⟩ s.size) := hA
        clear hA hk9 hsp HA
        go_wp2_with fail
        exact bodyPost_ret (v := .tuple #[.agg #[.bool false, .string (s.extract 0 s.size), .string ⟨#[]⟩, .string ⟨#[]⟩], .int .i64 s.size]) (by simp [results, Try.results32, go_sem]) rfl ⟨⟨false, _, _, _, s.size, rfl, by rw [HN.out s.size hk0 hk]; omega, Nat.zero_le _, Nat.zero_le _, hk, HA9.out⟩, ((Below.refl _ w).alloc (Nat.le_refl _) _).alloc (by simp) _⟩
  · have hf := fore HD.out
    have h2s := (hf.2 rfl).1
    have b0 : Below w.heap.size w ((w.alloc (.cells #[.bool false, .string ⟨#[]⟩, .string ⟨#[]⟩, .string ⟨#[]⟩] 37)).alloc (.cells #[.bool true, .string ⟨#[]⟩, .string ⟨#[]⟩, .string ⟨#[]⟩] 37)) := ((Below.refl _ w).alloc (Nat.le_refl _) _).alloc (by simp) _
    have hN : ∀ k, 2 ≤ k → k ≤ s.size → (s.extract 2 k).size = k - 2 := fun k _ _ => by rw [ByteArray.size_extract]; omega
    have HN : Hid (∀ k, 2 ≤ k → k ≤ s.size → (s.extract 2 k).size = k - 2) := hN
    have HF : Hid ((true = false → ∀ q, s.data.toList ≠ 47 :: 47 :: q) ∧ _) := hf
    clear hf hN
    go_enter Try.func32, Try.ntmps32
    go_wp2_with (go_at_call 42; refine (cS _).mono ?_; rintro e w9 ⟨rfl, rfl⟩)
    go_loopw [5] (fun i wr => ∃ k : Nat, 2 ≤ k ∧ k ≤ s.size ∧ i = .int .i64 k ∧ Hid (RunS s 2 k) ∧ wr = ((w.alloc (.cells #[.bool false, .string ⟨#[]⟩, .string ⟨#[]⟩, .string ⟨#[]⟩] 37)).alloc (.cells #[.bool true, .string ⟨#[]⟩, .string ⟨#[]⟩, .string ⟨#[]⟩] 37))) (fun i _ => s.size - (intOf i).toNat)
    case atStart => exact ⟨2, Nat.le_refl _, by omega, rfl, run_self s 2, by first | rfl | trivial⟩
    case round =>
      obtain ⟨k, hk0, hk, rfl, HA, rfl⟩ := hrel
      have haI : (2 : Int) ≤ (k : Int) := by omega
      by_cases hlt : k < s.size
      · have cI := fun W => l2In_any (s[k].toNat : Int) W
        rcases nm_cases s[k] with ⟨hb, h1 | ⟨h1, h2⟩⟩ | ⟨hb, h1, h2⟩
        · rw [h1] at cI
          have HB : Hid (RunS s 2 (k + 1)) := run_succ HA.out hk0 hlt hb
          clear HA hb h1
          go_wp2_with (go_at_call 43; refine (cI _).mono ?_; rintro e w9 ⟨rfl, rfl⟩)
          go_round
          case rel => exact ⟨k + 1, by omega, by omega, by go_num, HB, by first | rfl | trivial⟩
          case measure => simp [intOf]; omega
        · rw [h1] at cI
          have HB : Hid (RunS s 2 (k + 1)) := run_succ HA.out hk0 hlt hb
          clear HA hb h1
          go_wp2_with (go_at_call 43; refine (cI _).mono ?_; rintro e w9 ⟨rfl, rfl⟩)
          go_round
          case rel => exact ⟨k + 1, by omega, by omega, by go_num, HB, by first | rfl | trivial⟩
          case measure => simp [intOf]; omega
        · rw [h1] at cI
          have hsp := split_head (d := true) HD.out rfl (k := k) hk0 hk
          rw [drop_cons s k hlt] at hsp
          have HS : Hid (s.data.toList = headL 0 true ++ ((s.extract 2 k).data.toList ++ s[k] :: s.data.toList.drop (k + 1))) := hsp
          have HR : Hid (∀ c ∈ (s.extract 2 k).data.toList, nmB c = true) := fun c hc => HA.out c (by rw [extract_list] at hc; exact hc)
          have hne : ((k : Int) == (s.size : Int)) = false := beq_eq_false_iff_ne.2 (by omega)
          clear hsp HA
          by_cases h91 : s[k] = 91
          · have e91 : ((s[k].toNat : Int) != 91) = false := by rw [h91]; rfl
            have hQl : (s.extract (k + 1) s.size).data.toList = s.data.toList.drop (k + 1) := by rw [extract_list, List.take_of_length_le (by rw [List.length_drop]; exact Nat.le_refl _)]
            obtain ⟨Q, hQ⟩ : ∃ Q, s.extract (k + 1) s.size = Q := ⟨_, rfl⟩
            rw [hQ] at hQl
            have hQs : Q.size + k + 1 = s.size := by rw [← hQ, ByteArray.size_extract]; omega
            have HS2 : Hid (s.data.toList = headL 0 true ++ ((s.extract 2 k).data.toList ++ 91 :: Q.data.toList)) := (by rw [hQl, ← h91]; exact HS.out : _)
            have cQ := fun W => cut_one 61 61 rfl Q (by omega) W
            clear HS h91 hb h1 h2 hQl
            go_wp2_with (go_at_call 43; refine (cI _).mono ?_; rintro e w9 ⟨rfl, rfl⟩)
            clear hQ
            refine (cQ _).mono ?_
            rintro e w1 ⟨g, cap, hg, b1, hcase⟩
            have hB := b1.block (w.heap.size + 1) (by simp)
            have hB1 : w1.heap[w.heap.size + 1]? = some (.cells #[.bool true, .string (s.extract 2 k), .string ⟨#[]⟩, .string ⟨#[]⟩] 37 (0, 0)) := hB.trans (two_new w _ _).2
            have hB2 : w1.heap[w.heap.size]? = some (.cells #[.bool false, .string ⟨#[]⟩, .string ⟨#[]⟩, .string ⟨#[]⟩] 37 (0, 0)) := (b1.block w.heap.size (by have : ((w.alloc (.cells #[.bool false, .string ⟨#[]⟩, .string ⟨#[]⟩, .string ⟨#[]⟩] 37)).alloc (.cells #[.bool true, .string (s.extract 2 k), .string ⟨#[]⟩, .string ⟨#[]⟩] 37)).heap.size = w.heap.size + 2 := (by simp); omega)).trans (two_new w _ _).1
            have hg1 : w.heap.size + 2 ≤ g := by simpa using hg
            have hsz1 : w.heap.size + 2 ≤ w1.heap.size := by simpa using b1.size
            have bw1 : Below w.heap.size w w1 := (((Below.refl _ w).alloc (Nat.le_refl _) _).alloc (by simp) _).trans (b1.mono (by simp <;> omega))
            clear hB b1 hg
            obtain ⟨x0, x1, x2, x3⟩ := four_cells hB1
            obtain ⟨y0, y1, y2, y3⟩ := four_cells hB2
            have f1 : ∀ i, w1.frozen? ⟨w.heap.size + 1, i, none⟩ = false := fun i => by simp [World.frozen?, hB1]
            have f2 : ∀ i, w1.frozen? ⟨w.heap.size, i, none⟩ = false := fun i => by simp [World.frozen?, hB2]
            have hn1 : ¬ w.heap.size + 1 = g := by omega
            have hn2 : ¬ w.heap.size = g := by omega
            rcases hcase with ⟨hno, rfl, hc1, hc⟩ | ⟨a, b, hab, hno, rfl, hc1, hc, hc2⟩
            · go_wp2_with fail
              exact bodyPost_ret (v := .tuple #[.agg #[.bool true, .string (s.extract 2 k), .string Q, .string ⟨#[]⟩], .int .i64 (0 : Nat)]) (by simp [results, Try.results32, go_sem, x0, x1, x2, x3, y0, y1, y2, y3, hn1, hn2]) rfl ⟨⟨true, _, _, _, 0, rfl, by rw [HN.out k hk0 hk]; omega, by omega, Nat.zero_le _, Nat.zero_le _, leafB HS2.out (fun h => by cases h) HR.out hno _ _ _⟩, bs (bs (bs (bs (bs bw1 _ _ _ (by omega)) _ _ _ (Nat.le_refl _)) _ _ _ (Nat.le_refl _)) _ _ _ (Nat.le_refl _)) _ _ _ (Nat.le_refl _)⟩
            · have hz1 : Q.data.toList.length = Q.size := rfl
              have hz2 : a.data.toList.length = a.size := rfl
              have hz3 : b.data.toList.length = b.size := rfl
              have hzq := congrArg List.length hab
              simp only [List.length_append, List.length_cons] at hzq
              have cB := fun W => l1Starts_any b ⟨#[39]⟩ W (by omega) (by decide)
              obtain ⟨pb, hpb⟩ : ∃ pb, Lib.hasPrefix b.data.toList (⟨#[39]⟩ : ByteArray).data.toList = pb := ⟨_, rfl⟩
              rw [hpb] at cB
              have hsb := starts_one hpb
              have HAB : Hid (Q.data.toList = a.data.toList ++ 61 :: b.data.toList) := hab
              clear hpb cQ cS hab
              cases pb
              · have hsb1 := hsb.1 rfl
                clear hsb
                go_wp2_with (go_at_call 42; refine (cB _).mono ?_; rintro e w9 ⟨rfl, rfl⟩)
                exact bodyPost_ret (v := .tuple #[.agg #[.bool true, .string (s.extract 2 k), .string a, .string ⟨#[]⟩], .int .i64 (0 : Nat)]) (by simp [results, Try.results32, go_sem, x0, x1, x2, x3, y0, y1, y2, y3, hn1, hn2]) rfl ⟨⟨true, _, _, _, 0, rfl, by rw [HN.out k hk0 hk]; omega, by omega, Nat.zero_le _, Nat.zero_le _, leafC HS2.out (fun h => by cases h) HR.out HAB.out hno hsb1 _ _ _⟩, bs (bs (bs (bs (bs bw1 _ _ _ (by omega)) _ _ _ (Nat.le_refl _)) _ _ _ (Nat.le_refl _)) _ _ _ (Nat.le_refl _)) _ _ _ (Nat.le_refl _)⟩
              · have hb1 := (hsb.2 rfl).1
                have hb1i : (1 : Int) ≤ (b.size : Int) := by omega
                have hbl := (hsb.2 rfl).2
                obtain ⟨Q2, hQ2⟩ : ∃ Q2, b.extract 1 b.size = Q2 := ⟨_, rfl⟩
                rw [hQ2] at hbl
                have hz4 : Q2.size + 1 = b.size := by rw [← hQ2, ByteArray.size_extract]; omega
                have HBL : Hid (b.data.toList = 39 :: Q2.data.toList) := hbl
                have HQ2 : Hid (b.extract 1 b.size = Q2) := hQ2
                have cR := fun W => cut_one 39 39 rfl Q2 (by omega) W
                obtain ⟨V, hV⟩ : ∃ V, w1.setCell ⟨w.heap.size + 1, 2, none⟩ (.string a) = V := ⟨_, rfl⟩
                have HV : Hid (w1.setCell ⟨w.heap.size + 1, 2, none⟩ (.string a) = V) := hV
                have KV : Hid (V.heap[w.heap.size + 1]? = some (.cells #[.bool true, .string (s.extract 2 k), .string a, .string ⟨#[]⟩] 37 (0, 0))) := (by show V.heap[w.heap.size + 1]? = some (.cells #[.bool true, .string (s.extract 2 k), .string a, .string ⟨#[]⟩] 37 (0, 0)); have := set_heap w1 (w.heap.size + 1) 2 _ _ _ (.string a) hB1; rw [hV] at this; simpa using this)
                have KV0 : Hid (V.heap[w.heap.size]? = some (.cells #[.bool false, .string ⟨#[]⟩, .string ⟨#[]⟩, .string ⟨#[]⟩] 37 (0, 0))) := (by rw [← hV]; exact (Below.heap_setCell _ _ _ _ (by show w.heap.size ≠ w.heap.size + 1; omega)).trans hB2 : _)
                have KVa : Hid (V.cell? ⟨g, 0, none⟩ = some (.string a)) := (by rw [← hV, setO _ _ _ _ (by intro e; injection e with e1 _; omega)]; exact hc : _)
                have KVl : Hid (g < V.heap.size ∧ w.heap.size + 2 ≤ V.heap.size) := ⟨cell_lt KVa.out, by rw [← hV]; simpa using hsz1⟩
                have BV : Hid (Below w.heap.size w V) := (by rw [← hV]; exact bs bw1 _ _ _ (by omega) : _)
                clear hV hsb hbl hQ2
                go_wp2_with (go_at_call 42; refine (cB _).mono ?_; rintro e w9 ⟨rfl, rfl⟩)
                rw [HV.out, HQ2.out]
                refine (cR V).mono ?_
                rintro e w2 ⟨g2, cap2, hg2, b2, hcase2⟩
                clear x0 x1 x2 x3 y0 y1 y2 y3 f1 f2 hc hc2 hB1 hB2
                have hB1 := (b2.block (w.heap.size + 1) (by have := KVl.out; omega)).trans KV.out
                have hB2 := (b2.block w.heap.size (by have := KVl.out; omega)).trans KV0.out
                have hc := (b2.cell (p := ⟨g, 0, none⟩) KVl.out.1).trans KVa.out
                have bw2 : Below w.heap.size w w2 := BV.out.trans (b2.mono (by have := KVl.out; omega))
                have hg3 : w.heap.size + 2 ≤ g2 := by have := KVl.out; omega
                clear b2 hg2
                obtain ⟨z0, z1, z2, z3⟩ := four_cells hB1
                obtain ⟨q0, q1, q2, q3⟩ := four_cells hB2
                have f1 : ∀ i, w2.frozen? ⟨w.heap.size + 1, i, none⟩ = false := fun i => by simp [World.frozen?, hB1]
                have f2 : ∀ i, w2.frozen? ⟨w.heap.size, i, none⟩ = false := fun i => by simp [World.frozen?, hB2]
                have hn3 : ¬ w.heap.size + 1 = g2 := by omega
                have hn4 : ¬ w.heap.size = g2 := by omega
                rcases hcase2 with ⟨hno2, rfl, hd1, hd⟩ | ⟨t, c, htc, hno2, rfl, hd1, hd, hd2⟩
                · go_wp2_with fail
                  exact bodyPost_ret (v := .tuple #[.agg #[.bool true, .string (s.extract 2 k), .string a, .string Q2], .int .i64 (0 : Nat)]) (by simp [results, Try.results32, go_sem, z0, z1, z2, z3, q0, q1, q2, q3, hn1, hn2, hn3, hn4]) rfl ⟨⟨true, _, _, _, 0, rfl, by rw [HN.out k hk0 hk]; omega, by omega, by omega, Nat.zero_le _, leafD HS2.out (fun h => by cases h) HR.out (by rw [HAB.out, HBL.out]) hno hno2 _ _ _⟩, bs (bs (bs (bs (bs bw2 _ _ _ (by omega)) _ _ _ (Nat.le_refl _)) _ _ _ (Nat.le_refl _)) _ _ _ (Nat.le_refl _)) _ _ _ (Nat.le_refl _)⟩
                · have hz5 : t.data.toList.length = t.size := rfl
                  have hz6 : c.data.toList.length = c.size := rfl
                  have hz7 : Q2.data.toList.length = Q2.size := rfl
                  have hzt := congrArg List.length htc
                  simp only [List.length_append, List.length_cons] at hzt
                  have cC := fun W => l1Starts_any c ⟨#[93]⟩ W (by omega) (by decide)
                  obtain ⟨pc, hpc⟩ : ∃ pc, Lib.hasPrefix c.data.toList (⟨#[93]⟩ : ByteArray).data.toList = pc := ⟨_, rfl⟩
                  rw [hpc] at cC
                  have hsc := starts_one hpc
                  have HTC : Hid (Q2.data.toList = t.data.toList ++ 39 :: c.data.toList) := htc
                  clear hpc cB htc
                  cases pc
                  · have hsc1 := hsc.1 rfl
                    clear hsc
                    go_wp2_with (go_at_call 42; refine (cC _).mono ?_; rintro e w9 ⟨rfl, rfl⟩)
                    exact bodyPost_ret (v := .tuple #[.agg #[.bool true, .string (s.extract 2 k), .string a, .string t], .int .i64 (0 : Nat)]) (by simp [results, Try.results32, go_sem, z0, z1, z2, z3, q0, q1, q2, q3, hn1, hn2, hn3, hn4]) rfl ⟨⟨true, _, _, _, 0, rfl, by rw [HN.out k hk0 hk]; omega, by omega, by omega, Nat.zero_le _, leafE HS2.out (fun h => by cases h) HR.out (by rw [HAB.out, HBL.out, HTC.out]) hno hno2 hsc1 _ _ _⟩, bs (bs (bs (bs (bs bw2 _ _ _ (by omega)) _ _ _ (Nat.le_refl _)) _ _ _ (Nat.le_refl _)) _ _ _ (Nat.le_refl _)) _ _ _ (Nat.le_refl _)⟩
                  · have hcl := (hsc.2 rfl).2
                    have hc9 := (hsc.2 rfl).1
                    have HCL : Hid (c.data.toList = 93 :: (c.extract 1 c.size).data.toList) := hcl
                    have HK5 : Hid ((headL 0 true).length + (s.extract 2 k).size + a.size + t.size + 5 = k + a.size + t.size + 5) := (by rw [HN.out k hk0 hk]; show 2 + (k - 2) + a.size + t.size + 5 = _; omega : _)
                    have w1e : IntKind.i64.wrap ((k : Int) + (a.size : Int)) = (k : Int) + (a.size : Int) := by rw [IntKind.wrap_i64]; omega
                    have w2e : IntKind.i64.wrap ((k : Int) + (a.size : Int) + (t.size : Int)) = (k : Int) + (a.size : Int) + (t.size : Int) := by rw [IntKind.wrap_i64]; omega
                    have w3e : IntKind.i64.wrap ((k : Int) + (a.size : Int) + (t.size : Int) + 5) = ((k + a.size + t.size + 5 : Nat) : Int) := by rw [IntKind.wrap_i64]; omega
                    clear hsc hcl
                    go_wp2_with (go_at_call 42; refine (cC _).mono ?_; rintro e w9 ⟨rfl, rfl⟩)
                    obtain ⟨V3, hV3⟩ : ∃ V3, w2.setCell ⟨w.heap.size + 1, 3, none⟩ (.string t) = V3 := ⟨_, rfl⟩
                    have K3 : V3.heap[w.heap.size + 1]? = some (.cells #[.bool true, .string (s.extract 2 k), .string a, .string t] 37 (0, 0)) := by have := set_heap w2 (w.heap.size + 1) 3 _ _ _ (.string t) hB1; rw [hV3] at this; simpa using this
                    have K30 : V3.heap[w.heap.size]? = some (.cells #[.bool false, .string ⟨#[]⟩, .string ⟨#[]⟩, .string ⟨#[]⟩] 37 (0, 0)) := by rw [← hV3]; exact (Below.heap_setCell _ _ _ _ (by show w.heap.size ≠ w.heap.size + 1; omega)).trans hB2
                    have K3a : V3.cell? ⟨g, 0, none⟩ = some (.string a) := by rw [← hV3, setO _ _ _ _ (by intro e; injection e with e1 _; omega)]; exact hc
                    have K3t : V3.cell? ⟨g2, 0, none⟩ = some (.string t) := by rw [← hV3, setO _ _ _ _ (by intro e; injection e with e1 _; omega)]; exact hd
                    have bV3 : Below w.heap.size w V3 := by rw [← hV3]; exact bs bw2 _ _ _ (by omega)
                    rw [hV3]
                    clear hV3 z0 z1 z2 z3 q0 q1 q2 q3 f1 f2 hB1 hB2 hd hd2 hc KVa KV KV0 HV
                    obtain ⟨z0, z1, z2, z3⟩ := four_cells K3
                    refine wp_region_held_drew (S := fun W => (W.cell? ⟨w.heap.size + 1, 0, none⟩ = some (.bool true) ∧ W.cell? ⟨w.heap.size + 1, 1, none⟩ = some (.string (s.extract 2 k)) ∧ W.cell? ⟨w.heap.size + 1, 2, none⟩ = some (.string a) ∧ W.cell? ⟨w.heap.size + 1, 3, none⟩ = some (.string t)) ∧ W.cell? ⟨g, 0, none⟩ = some (.string a) ∧ W.cell? ⟨g2, 0, none⟩ = some (.string t)) (by kernel_rfl) ?_ (fun hHeld => ?_)
                    · exact ⟨⟨z0, z1, z2, z3⟩, K3a, K3t⟩
                    obtain ⟨U, hU⟩ : ∃ U, V3.drew = U := ⟨_, rfl⟩
                    have U0 : U.heap[w.heap.size]? = some (.cells #[.bool false, .string ⟨#[]⟩, .string ⟨#[]⟩, .string ⟨#[]⟩] 37 (0, 0)) := by rw [← hU]; exact K30
                    have bU : Below w.heap.size w U := by rw [← hU]; exact bV3.drew
                    rw [hU] at hHeld ⊢
                    clear hU K3 K30 K3a K3t z0 z1 z2 z3 bV3
                    obtain ⟨q0, q1, q2, q3⟩ := four_cells U0
                    have f2 : ∀ i, U.frozen? ⟨w.heap.size, i, none⟩ = false := fun i => by simp [World.frozen?, U0]
                    refine wpAnyH_take (i := 0) (v := ?_) rfl (by kernel_rfl) (by kernel_rfl) (by kernel_rfl) (fun _ _ _ h => h) (Or.inl ⟨by rfl, ?takeYga20⟩) (by assumption) ?takeRga20
                    case takeYga20 => (intro w hSw; (try dsimp only at hSw); go_simp; try (with_reducible rfl))
                    simp only [Act.put, List.setIfInBounds_toArray, List.set_cons_zero, List.set_cons_succ, List.getElem_toArray, List.getElem_cons_zero]
                    refine wpAnyH_take (i := 1) (v := ?_) rfl (by kernel_rfl) (by kernel_rfl) (by kernel_rfl) (fun _ _ _ h => h) (Or.inl ⟨by rfl, ?takeYga21⟩) (by assumption) ?takeRga21
                    case takeYga21 => (intro w hSw; (try dsimp only at hSw); go_simp; try (with_reducible rfl))
                    simp only [Act.put, List.setIfInBounds_toArray, List.set_cons_zero, List.set_cons_succ, List.getElem_toArray, List.getElem_cons_zero, List.getElem_cons_succ]
                    refine wpAnyH_take (i := 2) (v := ?_) rfl (by kernel_rfl) (by kernel_rfl) (by kernel_rfl) (fun _ _ _ h => h) (Or.inl ⟨by rfl, ?takeYga22⟩) (by assumption) ?takeRga22
                    case takeYga22 => (intro w hSw; (try dsimp only at hSw); go_simp; try (with_reducible rfl))
                    simp only [Act.put, List.setIfInBounds_toArray, List.set_cons_zero, List.set_cons_succ, List.getElem_toArray, List.getElem_cons_zero, List.getElem_cons_succ]
                    refine wpAnyH_take (i := 3) (v := ?_) rfl (by kernel_rfl) (by kernel_rfl) (by kernel_rfl) (fun _ _ _ h => h) (Or.inl ⟨by rfl, ?takeYga23⟩) (by assumption) ?takeRga23
                    case takeYga23 => (intro w hSw; (try dsimp only at hSw); go_simp; try (with_reducible rfl))
                    simp only [Act.put, List.setIfInBounds_toArray, List.set_cons_zero, List.set_cons_succ, List.getElem_toArray, List.getElem_cons_zero, List.getElem_cons_succ]
                    refine wpAnyH_take (i := 4) (v := ?_) rfl (by kernel_rfl) (by kernel_rfl) (by kernel_rfl) (fun _ _ _ h => h) (Or.inl ⟨by rfl, ?takeYga24⟩) (by assumption) ?takeRga24
                    case takeYga24 => (intro w hSw; (try dsimp only at hSw); go_simp; try (with_reducible rfl))
                    simp only [Act.put, List.setIfInBounds_toArray, List.set_cons_zero, List.set_cons_succ, List.getElem_toArray, List.getElem_cons_zero, List.getElem_cons_succ]
                    refine wpAnyH_take (i := 5) (v := ?_) rfl (by kernel_rfl) (by kernel_rfl) (by kernel_rfl) (fun _ _ _ h => h) (Or.inl ⟨by rfl, ?takeYga25⟩) (by assumption) ?takeRga25
                    case takeYga25 => (intro w hSw; (try dsimp only at hSw); go_simp; try (with_reducible rfl))
                    simp only [Act.put, List.setIfInBounds_toArray, List.set_cons_zero, List.set_cons_succ, List.getElem_toArray, List.getElem_cons_zero, List.getElem_cons_succ]
                    refine wpAnyH_take (i := 6) (v := ?_) rfl (by kernel_rfl) (by kernel_rfl) (by kernel_rfl) (fun _ _ _ h => h) (Or.inl ⟨by rfl, ?takeYga26⟩) (by assumption) ?takeRga26
                    case takeYga26 => (intro w hSw; (try dsimp only at hSw); go_simp; try (with_reducible rfl))
                    simp only [Act.put, List.setIfInBounds_toArray, List.set_cons_zero, List.set_cons_succ, List.getElem_toArray, List.getElem_cons_zero, List.getElem_cons_succ]
                    refine wpAnyH_take (i := 7) (v := ?_) rfl (by kernel_rfl) (by kernel_rfl) (by kernel_rfl) (fun _ _ _ h => h) (Or.inl ⟨by rfl, ?takeYga27⟩) (by assumption) ?takeRga27
                    case takeYga27 => (intro w hSw; (try dsimp only at hSw); go_simp; try (with_reducible rfl))
                    simp only [Act.put, List.setIfInBounds_toArray, List.set_cons_zero, List.set_cons_succ, List.getElem_toArray, List.getElem_cons_zero, List.getElem_cons_succ]
                    refine wpAnyH_take (i := 8) (v := ?_) rfl (by kernel_rfl) (by kernel_rfl) (by kernel_rfl) (fun _ _ _ h => h) (Or.inl ⟨by rfl, ?takeYga28⟩) (by assumption) ?takeRga28
                    case takeYga28 => (intro w hSw; (try dsimp only at hSw); go_simp; try (with_reducible rfl))
                    simp only [Act.put, List.setIfInBounds_toArray, List.set_cons_zero, List.set_cons_succ, List.getElem_toArray, List.getElem_cons_zero, List.getElem_cons_succ]
                    refine wpAnyH_take (i := 9) (v := ?_) rfl (by kernel_rfl) (by kernel_rfl) (by kernel_rfl) (fun _ _ _ h => h) (Or.inl ⟨by rfl, ?takeYga29⟩) (by assumption) ?takeRga29
                    case takeYga29 => (intro w hSw; (try dsimp only at hSw); go_simp; try (with_reducible rfl))
                    simp only [Act.put, List.setIfInBounds_toArray, List.set_cons_zero, List.set_cons_succ, List.getElem_toArray, List.getElem_cons_zero, List.getElem_cons_succ]
                    refine wpAnyH_take (i := 10) (v := ?_) rfl (by kernel_rfl) (by kernel_rfl) (by kernel_rfl) (fun _ _ _ h => h) (Or.inl ⟨by rfl, ?takeYga210⟩) (by assumption) ?takeRga210
                    case takeYga210 => (intro w hSw; (try dsimp only at hSw); go_simp; try (with_reducible rfl))
                    simp only [Act.put, List.setIfInBounds_toArray, List.set_cons_zero, List.set_cons_succ, List.getElem_toArray, List.getElem_cons_zero, List.getElem_cons_succ]
                    refine wpAnyH_take (i := 11) (v := ?_) rfl (by kernel_rfl) (by kernel_rfl) (by kernel_rfl) (fun _ _ _ h => h) (Or.inl ⟨by rfl, ?takeYga211⟩) (by assumption) ?takeRga211
                    case takeYga211 => (intro w hSw; (try dsimp only at hSw); go_simp; try (with_reducible rfl))
                    simp only [Act.put, List.setIfInBounds_toArray, List.set_cons_zero, List.set_cons_succ, List.getElem_toArray, List.getElem_cons_zero, List.getElem_cons_succ]
                    refine wpAnyH_take (i := 12) (v := ?_) rfl (by kernel_rfl) (by kernel_rfl) (by kernel_rfl) (fun _ _ _ h => h) (Or.inl ⟨by rfl, ?takeYga212⟩) (by assumption) ?takeRga212
                    case takeYga212 => (intro w hSw; (try dsimp only at hSw); go_simp; try (with_reducible rfl))
                    simp only [Act.put, List.setIfInBounds_toArray, List.set_cons_zero, List.set_cons_succ, List.getElem_toArray, List.getElem_cons_zero, List.getElem_cons_succ]
                    have HH : Hid ((U.cell? ⟨w.heap.size + 1, 0, none⟩ = some (.bool true) ∧ U.cell? ⟨w.heap.size + 1, 1, none⟩ = some (.string (s.extract 2 k)) ∧ U.cell? ⟨w.heap.size + 1, 2, none⟩ = some (.string a) ∧ U.cell? ⟨w.heap.size + 1, 3, none⟩ = some (.string t)) ∧ U.cell? ⟨g, 0, none⟩ = some (.string a) ∧ U.cell? ⟨g2, 0, none⟩ = some (.string t)) := hHeld
                    clear hHeld
                    refine wpAnyH_ready (rs := [13]) (by kernel_rfl) (by simp) ?_
                    refine AllReadyH.cons rfl (fun K hK => ?_) AllReadyH.nil
                    go_simp
                    refine hK.out _ _ ⟨⟨by rw [four_far _ _ _ _ (by omega)]; exact HH.out.1.1, by rw [four_far _ _ _ _ (by omega)]; exact HH.out.1.2.1, by rw [four_far _ _ _ _ (by omega)]; exact HH.out.1.2.2.1, by rw [four_far _ _ _ _ (by omega)]; exact HH.out.1.2.2.2⟩, by rw [four_far _ _ _ _ (by omega)]; exact HH.out.2.1, by rw [four_far _ _ _ _ (by omega)]; exact HH.out.2.2⟩ (fun hHeld => ?_)
                    clear hK K
                    try simp only [Act.put, List.setIfInBounds_toArray, List.set_cons_zero, List.set_cons_succ, List.getElem_toArray, List.getElem_cons_zero, List.getElem_cons_succ]
                    refine wpAnyH_take (i := 14) (v := ?_) rfl (by kernel_rfl) (by kernel_rfl) (by kernel_rfl) (fun _ _ _ h => h) (Or.inl ⟨by rfl, ?takeYga2z14⟩) (by assumption) ?takeRga2z14
                    case takeYga2z14 => (intro w hSw; (try dsimp only at hSw); go_simp; try (with_reducible rfl))
                    simp only [Act.put, List.setIfInBounds_toArray, List.set_cons_zero, List.set_cons_succ, List.getElem_toArray, List.getElem_cons_zero, List.getElem_cons_succ]
                    refine wpAnyH_done (by kernel_rfl) ?_ _
                    clear hHeld HH
                    go_wp2_with fail
                    exact bodyPost_ret (v := .tuple #[.agg #[.bool true, .string (s.extract 2 k), .string a, .string t], .int .i64 ((k + a.size + t.size + 5 : Nat) : Int)]) (by simp [results, Try.results32, go_sem, q0, q1, q2, q3]) rfl ⟨⟨true, _, _, _, k + a.size + t.size + 5, rfl, by rw [HN.out k hk0 hk]; omega, by omega, by omega, by omega, by rw [← HK5.out]; exact leafF HS2.out (fun h => by cases h) HR.out (by rw [HAB.out, HBL.out, HTC.out, HCL.out]) hno hno2⟩, bs (bs (bs (bs (bU) _ _ _ (Nat.le_refl _)) _ _ _ (Nat.le_refl _)) _ _ _ (Nat.le_refl _)) _ _ _ (Nat.le_refl _)⟩
          · have e91 : ((s[k].toNat : Int) != 91) = true := by
              refine bne_iff_ne.2 (fun e => h91 (UInt8.toNat_inj.1 ?_))
              show s[k].toNat = 91
              omega
            have hk9 : (headL 0 true).length + (s.extract 2 k).size = k := by rw [HN.out k hk0 hk]; show 2 + (k - 2) = k; omega
            have hA := leafA HS.out (fun h => by cases h) HR.out (fun c q e => by injection e with e1 _; rw [← e1]; exact hb) (fun q e => by injection e with e1 _; exact h91 e1)
            rw [hk9] at hA
            have HA9 : Hid (SaysS s.data.toList true (s.extract 2 k) ⟨#[]⟩ ⟨#[]⟩ k) := hA
            clear hA hk9 HS HR
            go_wp2_with (go_at_call 43; refine (cI _).mono ?_; rintro e w9 ⟨rfl, rfl⟩)
            exact bodyPost_ret (v := .tuple #[.agg #[.bool true, .string (s.extract 2 k), .string ⟨#[]⟩, .string ⟨#[]⟩], .int .i64 k]) (by simp [results, Try.results32, go_sem]) rfl ⟨⟨true, _, _, _, k, rfl, by rw [HN.out k hk0 hk]; omega, Nat.zero_le _, Nat.zero_le _, hk, HA9.out⟩, ((Below.refl _ w).alloc (Nat.le_refl _) _).alloc (by simp) _⟩
      · obtain rfl : k = s.size := by omega
        have hsp := split_head (d := true) (a0 := 2) HD.out rfl (k := s.size) hk0 (Nat.le_refl _)
        rw [List.drop_of_length_le (by have : s.data.toList.length = s.size := rfl; omega)] at hsp
        have hk9 : (headL 0 true).length + (s.extract 2 s.size).size = s.size := by rw [HN.out s.size hk0 hk]; show 2 + (s.size - 2) = s.size; omega
        have hA := leafA hsp (fun h => by cases h) (fun c hc => HA.out c (by rw [extract_list] at hc; exact hc)) (fun c q e => by cases e) (fun q e => by cases e)
        rw [hk9] at hA
        have HA9 : Hid (SaysS s.data.toList true (s.extract 2 s.size) ⟨#[]⟩ ⟨#[]⟩ s.size) := hA
        clear hA hk9 hsp HA
        go_wp2_with fail
        exact bodyPost_ret (v := .tuple #[.agg #[.bool true, .string (s.extract 2 s.size), .string ⟨#[]⟩, .string ⟨#[]⟩], .int .i64 s.size]) (by simp [results, Try.results32, go_sem]) rfl ⟨⟨true, _, _, _, s.size, rfl, by rw [HN.out s.size hk0 hk]; omega, Nat.zero_le _, Nat.zero_le _, hk, HA9.out⟩, ((Below.refl _ w).alloc (Nat.le_refl _) _).alloc (by simp) _⟩
end Go.Proofs.Ytocpbcghkphcgaa.Hub
