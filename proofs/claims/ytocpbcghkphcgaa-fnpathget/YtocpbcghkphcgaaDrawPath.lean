/-
  What spec.l16Path draws: some steps, in memory of their own. Nothing more is said of which.
-/
import Derived.Test.YtocpbcghkphcgaaDrawB
import Derived.Test.YtocpbcghkphcgaaStepRow
import Derived.Test.YtocpbcghkphcgaaMarkS
import Derived.Test.YtocpbcghkphcgaaStepGet
namespace Go.Proofs.Ytocpbcghkphcgaa.Hub
open Go.RowKit
set_option linter.unusedVariables false
set_option linter.unusedSimpArgs false

set_option maxHeartbeats 1000000 in
theorem one_any' (n₀ B p L m : Nat) (ls : List Int) (hls : ls.length = m) (hp : p ≤ 100000) (hm : 1 ≤ m) (hm2 : m ≤ 100000) (w : World) (h : Rd n₀ w B p) (hLB : L ≠ B) (hL : w.heap[L]? = some (.cells (ls.map (Value.int .i64)).toArray 3 (0, 0))) :
    Calls Try.prog 36 #[.pointer (some ⟨B, 0, none⟩), .slice (some ⟨L, 0, none⟩) m m] w fun e w' => (∃ s, s ∈ ls ∧ e = .returned (.int .i64 s)) ∧ Rd n₀ w' B (p + 1) ∧ Stepped B w w' := by
  go_enter Try.func36, Try.ntmps36
  go_wp2_with (go_at_call 30; refine (pick_any n₀ B p m hp hm hm2 _ h).mono ?_)
  rintro e w1 ⟨⟨k, hk, rfl⟩, hw⟩
  obtain ⟨hrd, hst⟩ := stepped_of h hw
  have hL1 := (hst.2.2 L hLB).trans hL
  have hk2 : k < ls.length := by omega
  have ck : w1.cell? ⟨L, k, none⟩ = some (.int .i64 ls[k]) := by simp [World.cell?, hL1, hk2]
  have hki : (k : Int) < (m : Int) := by omega
  clear hL hL1 hw
  generalize hsk : ls[k] = s at ck
  have hmem : s ∈ ls := by rw [← hsk]; exact List.getElem_mem _
  clear hsk
  go_wp2_with fail
  go_ret
  exact ⟨⟨s, hmem, rfl⟩, hrd, hst⟩

def pcounts : List Int := [1, 1, 2, 2, 3, 6, 0]
def pnames : List ByteArray := [⟨#[97]⟩, ⟨#[98]⟩, ⟨#[42]⟩, ⟨#[120]⟩, ⟨#[109, 101, 115, 115, 97, 103, 101]⟩, ⟨#[42]⟩, ⟨#[49]⟩]
def pattrs : List ByteArray := [⟨#[105, 100]⟩, ⟨#[107]⟩, ⟨#[49]⟩, ⟨#[116, 111]⟩]
def ptexts : List ByteArray := [⟨#[49]⟩, ⟨#[]⟩, ⟨#[97, 60]⟩, ⟨#[97, 39, 98]⟩]
theorem pcounts_in : ∀ b ∈ pcounts, 0 ≤ b ∧ b ≤ 6 := by decide
theorem few_small (ls : List ByteArray) (h : (ls.all fun s => decide (s.size ≤ 100)) = true) : ∀ s ∈ ls, s.size ≤ 100 := fun s hs => of_decide_eq_true (List.all_eq_true.1 h s hs)
theorem pnames_in : ∀ s ∈ pnames, s.size ≤ 100 := few_small pnames (by kernel_rfl)
theorem pattrs_in : ∀ s ∈ pattrs, s.size ≤ 100 := few_small pattrs (by kernel_rfl)
theorem ptexts_in : ∀ s ∈ ptexts, s.size ≤ 100 := few_small ptexts (by kernel_rfl)
theorem stepped_grown {B : Nat} {W W' : World} (h : Stepped B W W') : W.grownBy W' (some B) := ⟨h.2.1.os, h.2.1.tape, h.2.1.output, Nat.le_of_eq h.1.symm, fun k _ hne => h.2.2 k (fun e => hne (by rw [e]))⟩
theorem own_stepped {B : Nat} {W W' : World} {base : Nat} {T : TypeId} {s : Nat} {v : Value} {n : Nat} {g : Nat → List Value} (h : OwnL W base T s v n g) (hB : B < base) (hs : Stepped B W W') : OwnL W' base T s v n g :=
  OwnL.kept h (stepped_grown hs) (by
    cases hv : v.ownBlock with
    | none => exact .inl rfl
    | some q => exact .inr (fun e => by have := (OwnL.lt h q hv).1; have := Option.some.inj e; omega))
theorem own_other {W : World} {base : Nat} {T : TypeId} {s : Nat} {v : Value} {n : Nat} {g : Nat → List Value} (h : OwnL W base T s v n g) (R i : Nat) (x : Value) (hR : ∀ q, v.ownBlock = some q → q ≠ R) : OwnL (W.setCell ⟨R, i, none⟩ x) base T s v n g :=
  OwnL.kept h (grown_set (World.grownBy.refl W (some R)) (Below.refl _ _) i x) (by
    cases hv : v.ownBlock with
    | none => exact .inl rfl
    | some q => exact .inr (fun e => hR q hv (Option.some.inj e)))
theorem rd_set {n₀ B p : Nat} {W : World} (h : Rd n₀ W B p) (R i : Nat) (x : Value) (hR : n₀ ≤ R) (hne : R ≠ B) : Rd n₀ (W.setCell ⟨R, i, none⟩ x) B p := by
  obtain ⟨hB2, v, m, hv, hmm, hh⟩ := h
  exact ⟨hB2, v, m, hv.below ((Below.refl n₀ W).setCell (p := ⟨R, i, none⟩) hR x), hmm, (Below.heap_setCell _ _ _ _ (fun e => hne e.symm)).trans hh⟩
theorem rd_on {n₀ B p : Nat} {W W' : World} {row : Option Nat} (h : Rd n₀ W B p) (hg : W.grownBy W' row) (hn : n₀ ≤ W.heap.size) (hr : ∀ q, row = some q → n₀ ≤ q ∧ q ≠ B) : Rd n₀ W' B p := by
  obtain ⟨hB2, v, m, hv, hmm, hh⟩ := h
  have bb : Below n₀ W W' := (Below.refl n₀ W).grown hg hn (fun q hq => (hr q hq).1)
  exact ⟨hB2, v, m, hv.below bb, hmm, (hg.block B (Array.getElem?_eq_some_iff.1 hh).1 (fun e => (hr B e.symm).2 rfl)).trans hh⟩
theorem new_at (W : World) (o : Obj) (n : Nat) (h : n = W.heap.size) : (W.alloc o).heap[n]? = some o := by subst h; exact World.alloc_heap_new W o

set_option maxRecDepth 100000 in
set_option maxHeartbeats 4000000 in
theorem path_any (n₀ B p : Nat) (hp : p ≤ 80000) (w : World) (hn : n₀ ≤ w.heap.size) (h : Rd n₀ w B p) :
    Calls Try.prog 23 #[.pointer (some ⟨B, 0, none⟩)] w fun e w' => (∃ (o : Option Addr) (cap n : Nat) (D : Nat → Bool) (N A T : Nat → ByteArray), e = .returned (.slice o n cap) ∧ OwnS w' w.heap.size (.slice o n cap) n D N A T ∧ n ≤ 6 ∧ ∀ j, j < n → (N j).size ≤ 100 ∧ (A j).size ≤ 100 ∧ (T j).size ≤ 100) ∧ (∃ q, q ≤ p + 100 ∧ Rd n₀ w' B q) ∧ Below n₀ w w' ∧ n₀ ≤ w'.heap.size := by
  obtain ⟨i0, hi0, hy0, hy1, hy2⟩ := info_parts info_step
  have hB := h.1
  have hlt := rd_lt h
  have hRa := h.alloc hn (.cells #[] 37)
  have O0 : OwnS (w.alloc (.cells #[] 37)) w.heap.size (.slice (some ⟨w.heap.size, 0, none⟩) 0 0) 0 (fun _ => false) (fun _ => ⟨#[]⟩) (fun _ => ⟨#[]⟩) (fun _ => ⟨#[]⟩) := World.ownsRow_made w #[] 0 (Nat.le_refl _) (Nat.zero_le _) rfl
  have b0 : Below n₀ w (w.alloc (.cells #[] 37)) := (Below.refl n₀ w).alloc hn _
  go_enter Try.func23, Try.ntmps23
  go_wp2_with fail
  obtain ⟨W0, hW0⟩ : ∃ W0, w.alloc (.cells #[] 37) = W0 := ⟨_, rfl⟩
  have hs0 : W0.heap.size = w.heap.size + 1 := by rw [← hW0]; simp
  rw [hW0] at hRa O0 b0 ⊢
  have hA1 : Rd n₀ (W0.alloc (.cells #[.int .i64 1, .int .i64 1, .int .i64 2, .int .i64 2, .int .i64 3, .int .i64 6, .int .i64 0] 3)) B p := hRa.alloc (by omega) _
  have hL1 : (W0.alloc (.cells #[.int .i64 1, .int .i64 1, .int .i64 2, .int .i64 2, .int .i64 3, .int .i64 6, .int .i64 0] 3)).heap[w.heap.size + 1]? = some (.cells (pcounts.map (Value.int .i64)).toArray 3 (0, 0)) := by rw [← hs0]; exact World.alloc_heap_new _ _
  refine (one_any' n₀ B p (w.heap.size + 1) 7 pcounts rfl (by omega) (by omega) (by omega) _ hA1 (by omega) hL1).mono ?_
  rintro e w1 ⟨⟨c, hc, rfl⟩, hr1, hst1⟩
  obtain ⟨hc0, hc6⟩ := pcounts_in c hc
  have O1 : OwnS w1 w.heap.size (.slice (some ⟨w.heap.size, 0, none⟩) 0 0) 0 (fun _ => false) (fun _ => ⟨#[]⟩) (fun _ => ⟨#[]⟩) (fun _ => ⟨#[]⟩) := own_stepped (OwnL.alloc O0 _) (by omega) hst1
  have hs1 : w1.heap.size = w.heap.size + 2 := by rw [hst1.1]; simp [hs0]
  have b1 : Below n₀ w w1 := (b0.alloc (by omega) _).trans (hst1.2.1.mono hB)
  clear hA1 hRa O0 b0 hW0 hc hst1
  go_wp2_with fail
  go_loopw [3, 4] (fun o c9 wr => ∃ (k : Nat) (c : Int) (ad : Option Addr) (cap pq : Nat) (D : Nat → Bool) (N A T : Nat → ByteArray), o = .slice ad k cap ∧ c9 = .int .i64 c ∧ 0 ≤ c ∧ (k : Int) + c ≤ 6 ∧ Hid (OwnS wr w.heap.size (.slice ad k cap) k D N A T) ∧ Hid (∀ j, j < k → (N j).size ≤ 100 ∧ (A j).size ≤ 100 ∧ (T j).size ≤ 100) ∧ pq ≤ p + 1 + 10 * k ∧ Hid (Rd n₀ wr B pq) ∧ Below n₀ w wr ∧ w.heap.size ≤ wr.heap.size) (fun _ c9 _ => (intOf c9).toNat)
  case atStart => exact ⟨0, c, _, _, p + 1, _, _, _, _, rfl, rfl, hc0, by omega, O1, fun j hj => absurd hj (by omega), by omega, hr1, b1, by omega⟩
  case round =>
    obtain ⟨k, c, ad, cap, pq, D, N, A, T, rfl, rfl, hc0, hk6, HO, HZ, hpq, HR, bw, lw⟩ := hrel
    by_cases hc1 : 0 < c
    · have hRr := HR.out
      go_wp2_with fail
      refine (pick_any n₀ B pq 2 (by omega) (by omega) (by omega) _ hRr).mono ?_
      rintro e u1 ⟨⟨k1, hk1, rfl⟩, hw1⟩
      obtain ⟨hr1, hst1⟩ := stepped_of hRr hw1
      obtain ⟨d, hd⟩ : ∃ d, (((k1 : Nat) : Int) == 0) = d := ⟨_, rfl⟩
      have P1 := own_stepped HO.out (by omega) hst1
      have z1 := Nat.le_of_eq hst1.1
      have y1 := Nat.le_of_eq hst1.1.symm
      have bu1 : Below n₀ w u1 := bw.trans (hst1.2.1.mono hB)
      clear hw1 hRr hst1
      go_wp2_with fail
      refine (of_any n₀ B (pq + 1) u1.heap.size 7 pnames rfl (by omega) (by omega) (by omega) _ (hr1.alloc (by omega) _) (by omega) (World.alloc_heap_new _ _)).mono ?_
      rintro e u2 ⟨⟨s, hs, rfl⟩, hr2, hst2⟩
      have P2 := own_stepped (OwnL.alloc P1 _) (by omega) hst2
      have z2 := Nat.le_of_eq hst2.1
      have y2 := Nat.le_of_eq hst2.1.symm
      have bu2 : Below n₀ w u2 := (bu1.alloc (by omega) _).trans (hst2.2.1.mono hB)
      have hs100 := pnames_in s hs
      simp at z2 y2
      clear P1 hr1 hst2 bu1 hs
      obtain ⟨V, hV⟩ : ∃ V, u2.alloc (.cells #[.bool d, .string s, .string ⟨#[]⟩, .string ⟨#[]⟩] 37) = V := ⟨_, rfl⟩
      obtain ⟨R, hR⟩ : ∃ R, u2.heap.size = R := ⟨_, rfl⟩
      have KV : V.heap[R]? = some (.cells #[.bool d, .string s, .string ⟨#[]⟩, .string ⟨#[]⟩] 37 (0, 0)) := by rw [← hV, ← hR]; exact World.alloc_heap_new _ _
      have PV : OwnS V w.heap.size (.slice ad k cap) k D N A T := by rw [← hV]; exact OwnL.alloc P2 _
      have rV : Rd n₀ V B (pq + 2) := by rw [← hV]; exact hr2.alloc (by omega) _
      have bV : Below n₀ w V := by rw [← hV]; exact bu2.alloc (by omega) _
      have zV : V.heap.size ≤ R + 1 ∧ R + 1 ≤ V.heap.size := by rw [← hV, ← hR]; simp
      have hPR : ∀ q, (Value.slice ad k cap).ownBlock = some q → q ≠ R := fun q hq => by have := (OwnL.lt P2 q hq).2; omega
      have hRB : R ≠ B := by omega
      have HV : Hid (u2.alloc (.cells #[.bool d, .string s, .string ⟨#[]⟩, .string ⟨#[]⟩] 37) = V) := hV
      clear hV P2 hr2 bu2
      go_wp2_with fail
      try rw [HV.out]
      try rw [hR]
      refine (pick_any n₀ B (pq + 2) 3 (by omega) (by omega) (by omega) _ rV).mono ?_
      rintro e u3 ⟨⟨k3, hk3, rfl⟩, hw3⟩
      obtain ⟨hr3, hst3⟩ := stepped_of rV hw3
      have K3 := (hst3.2.2 R hRB).trans KV
      have P3 := own_stepped PV (by omega) hst3
      have z3 := Nat.le_of_eq hst3.1
      have y3 := Nat.le_of_eq hst3.1.symm
      have b3 : Below n₀ w u3 := bV.trans (hst3.2.1.mono hB)
      clear hw3 hst3 KV PV rV bV HV
      by_cases hk30 : k3 = 0
      · subst hk30
        go_wp2_with fail
        refine (of_any n₀ B (pq + 3) u3.heap.size 4 pattrs rfl (by omega) (by omega) (by omega) _ (hr3.alloc (by omega) _) (by omega) (World.alloc_heap_new _ _)).mono ?_
        rintro e u4 ⟨⟨a, ha, rfl⟩, hr4, hst4⟩
        have K4 := (hst4.2.2 R hRB).trans ((Below.heap_alloc _ _ _ (by omega)).trans K3)
        have P4 := own_stepped (OwnL.alloc P3 _) (by omega) hst4
        have z4 := Nat.le_of_eq hst4.1
        have y4 := Nat.le_of_eq hst4.1.symm
        have b4 : Below n₀ w u4 := (b3.alloc (by omega) _).trans (hst4.2.1.mono hB)
        have ha100 := pattrs_in a ha
        simp at z4 y4
        obtain ⟨V5, hV5⟩ : ∃ V5, u4.setCell ⟨R, 2, none⟩ (.string a) = V5 := ⟨_, rfl⟩
        have K5 : V5.heap[R]? = some (.cells #[.bool d, .string s, .string a, .string ⟨#[]⟩] 37 (0, 0)) := by have := set_heap u4 R 2 _ _ _ (.string a) K4; rw [hV5] at this; simpa using this
        have P5 : OwnS V5 w.heap.size (.slice ad k cap) k D N A T := by rw [← hV5]; exact own_other P4 R 2 _ hPR
        have r5 : Rd n₀ V5 B (pq + 4) := by rw [← hV5]; exact rd_set hr4 R 2 _ (by omega) hRB
        have b5 : Below n₀ w V5 := by rw [← hV5]; exact bs b4 _ _ _ (by omega)
        have z5 : Hid (V5.heap.size = u4.heap.size) := (by rw [← hV5]; simp : V5.heap.size = u4.heap.size)
        have y5 := Nat.le_of_eq z5.out
        have x5 := Nat.le_of_eq z5.out.symm
        have HV5 : Hid (u4.setCell ⟨R, 2, none⟩ (.string a) = V5) := hV5
        obtain ⟨x0, x1, x2, x3⟩ := four_cells K4
        have f4 : ∀ i, u4.frozen? ⟨R, i, none⟩ = false := fun i => by simp [World.frozen?, K4]
        clear hV5 K3 P3 hr3 b3 hst4 P4 b4 hr4 ha K4
        go_wp2_with fail
        rw [HV5.out]
        refine (of_any n₀ B (pq + 4) u4.heap.size 4 ptexts rfl (by omega) (by omega) (by omega) _ (r5.alloc (by omega) _) (by omega) (by rw [← z5.out]; exact World.alloc_heap_new _ _)).mono ?_
        rintro e u6 ⟨⟨t, ht, rfl⟩, hr6, hst6⟩
        have K6 := (hst6.2.2 R hRB).trans ((Below.heap_alloc _ _ _ (by omega)).trans K5)
        have P6 := own_stepped (OwnL.alloc P5 _) (by omega) hst6
        have z6 := Nat.le_of_eq hst6.1
        have y6 := Nat.le_of_eq hst6.1.symm
        have b6 : Below n₀ w u6 := (b5.alloc (by omega) _).trans (hst6.2.1.mono hB)
        have ht100 := ptexts_in t ht
        simp at z6 y6
        obtain ⟨X, hX⟩ : ∃ X, u6.setCell ⟨R, 3, none⟩ (.string t) = X := ⟨_, rfl⟩
        have KX : X.heap[R]? = some (.cells #[.bool d, .string s, .string a, .string t] 37 (0, 0)) := by have := set_heap u6 R 3 _ _ _ (.string t) K6; rw [hX] at this; simpa using this
        have PX : OwnS X w.heap.size (.slice ad k cap) k D N A T := by rw [← hX]; exact own_other P6 R 3 _ hPR
        have rX : Rd n₀ X B (pq + 5) := by rw [← hX]; exact rd_set hr6 R 3 _ (by omega) hRB
        have bX : Below n₀ w X := by rw [← hX]; exact bs b6 _ _ _ (by omega)
        have zX : Hid (X.heap.size = u6.heap.size) := (by rw [← hX]; simp : X.heap.size = u6.heap.size)
        have yX := Nat.le_of_eq zX.out
        have xX := Nat.le_of_eq zX.out.symm
        have HX : Hid (u6.setCell ⟨R, 3, none⟩ (.string t) = X) := hX
        clear x0 x1 x2 x3 f4
        obtain ⟨x0, x1, x2, x3⟩ := four_cells K6
        have f6 : ∀ i, u6.frozen? ⟨R, i, none⟩ = false := fun i => by simp [World.frozen?, K6]
        clear hX K5 P5 r5 b5 hst6 P6 b6 hr6 ht K6 HV5
        have HPX : Hid (OwnS X w.heap.size (.slice ad k cap) k D N A T) := PX
        have HRX : Hid (Rd n₀ X B (pq + 5)) := rX
        have HBX : Hid (Below n₀ w X) := bX
        have lX : R + 1 ≤ X.heap.size := by omega
        have lW : w.heap.size ≤ R := by omega
        have SRC : Hid (ListAt (X.alloc (.cells #[.bool d, .string s, .string a, .string t] 37)) 4 (.slice (some ⟨u6.heap.size, 0, none⟩) 1 1) 1 (fun _ => [.bool d, .string s, .string a, .string t])) := (by have h := new_step X d s a t; rw [zX.out] at h; exact h)
        clear PX rX bX
        go_wp2_with (at_builtin; rw [HX.out]; refine wpList_append_list rfl _ _ _ rfl w.heap.size 37 i0 _ 4 56 Try.underlying22 hi0 hy0 hy1 hy2 rfl (by omega) (.slice ad k cap) k (rowVs (stepC D N A T) k) rfl (OwnL.alloc HPX.out _) (.slice (some ⟨u6.heap.size, 0, none⟩) 1 1) 1 (fun _ => [.bool d, .string s, .string a, .string t]) rfl SRC.out (fun _ => rfl) (one_step d s a t) (by unfold maxLen; omega) (by omega) (by simp; omega) (X.heap.size + 1) (by simp) ?_; intro oo cc w2 hown hgrow hat; have HOW : Hid _ := hown; have HGR : Hid _ := hgrow; clear hown hgrow hat)
        have lg := HGR.out.size
        have O2 : OwnS w2 w.heap.size (.slice oo (k + 1) cc) (k + 1) (atN k d D) (atN k s N) (atN k a A) (atN k t T) := own_snoc HOW.out
        have PL := OwnL.lt HPX.out
        have bw2 : Below n₀ w w2 := (HBX.out.alloc (by omega) _).grown HGR.out (by simp; omega) (fun q hq => Nat.le_trans hn (PL q hq).1)
        have rw2 : Rd n₀ w2 B (pq + 5) := rd_on (HRX.out.alloc (by omega) _) HGR.out (by simp; omega) (fun q hq => ⟨Nat.le_trans hn (PL q hq).1, by have := (PL q hq).1; omega⟩)
        have HZ9 : Hid (∀ j, j < k + 1 → (atN k s N j).size ≤ 100 ∧ (atN k a A j).size ≤ 100 ∧ (atN k t T j).size ≤ 100) := (fun j hj => by
          by_cases hjk : j = k
          · subst hjk; rw [atN_same, atN_same, atN_same]; exact ⟨hs100, ha100, ht100⟩
          · rw [atN_ne _ _ (show j < k by omega), atN_ne _ _ (show j < k by omega), atN_ne _ _ (show j < k by omega)]; exact HZ.out j (by omega))
        simp at lg
        go_roundw
        case rel => exact ⟨k + 1, c - 1, oo, cc, pq + 5, _, _, _, _, rfl, by go_num, by omega, by omega, O2, HZ9, by omega, rw2, bw2, by omega⟩
        case measure => simp [intOf]; omega
      · have hk3i : (((k3 : Nat) : Int) == 0) = false := beq_eq_false_iff_ne.2 (by omega)
        obtain ⟨x0, x1, x2, x3⟩ := four_cells K3
        have HPX : Hid (OwnS u3 w.heap.size (.slice ad k cap) k D N A T) := P3
        have HRX : Hid (Rd n₀ u3 B (pq + 3)) := hr3
        have HBX : Hid (Below n₀ w u3) := b3
        have lX : R + 1 ≤ u3.heap.size := by omega
        have lW : w.heap.size ≤ R := by omega
        have SRC : Hid (ListAt (u3.alloc (.cells #[.bool d, .string s, .string ⟨#[]⟩, .string ⟨#[]⟩] 37)) 4 (.slice (some ⟨u3.heap.size, 0, none⟩) 1 1) 1 (fun _ => [.bool d, .string s, .string ⟨#[]⟩, .string ⟨#[]⟩])) := (by have h := new_step u3 d s ⟨#[]⟩ ⟨#[]⟩; exact h)
        clear P3 hr3 b3
        go_wp2_with (at_builtin; refine wpList_append_list rfl _ _ _ rfl w.heap.size 37 i0 _ 4 56 Try.underlying22 hi0 hy0 hy1 hy2 rfl (by omega) (.slice ad k cap) k (rowVs (stepC D N A T) k) rfl (OwnL.alloc HPX.out _) (.slice (some ⟨u3.heap.size, 0, none⟩) 1 1) 1 (fun _ => [.bool d, .string s, .string ⟨#[]⟩, .string ⟨#[]⟩]) rfl SRC.out (fun _ => rfl) (one_step d s ⟨#[]⟩ ⟨#[]⟩) (by unfold maxLen; omega) (by omega) (by simp; omega) (u3.heap.size + 1) (by simp) ?_; intro oo cc w2 hown hgrow hat; have HOW : Hid _ := hown; have HGR : Hid _ := hgrow; clear hown hgrow hat)
        have lg := HGR.out.size
        have O2 : OwnS w2 w.heap.size (.slice oo (k + 1) cc) (k + 1) (atN k d D) (atN k s N) (atN k ⟨#[]⟩ A) (atN k ⟨#[]⟩ T) := own_snoc HOW.out
        have PL := OwnL.lt HPX.out
        have bw2 : Below n₀ w w2 := (HBX.out.alloc (by omega) _).grown HGR.out (by simp; omega) (fun q hq => Nat.le_trans hn (PL q hq).1)
        have rw2 : Rd n₀ w2 B (pq + 3) := rd_on (HRX.out.alloc (by omega) _) HGR.out (by simp; omega) (fun q hq => ⟨Nat.le_trans hn (PL q hq).1, by have := (PL q hq).1; omega⟩)
        have HZ9 : Hid (∀ j, j < k + 1 → (atN k s N j).size ≤ 100 ∧ (atN k ⟨#[]⟩ A j).size ≤ 100 ∧ (atN k ⟨#[]⟩ T j).size ≤ 100) := (fun j hj => by
          by_cases hjk : j = k
          · subst hjk; rw [atN_same, atN_same, atN_same]; exact ⟨hs100, Nat.zero_le _, Nat.zero_le _⟩
          · rw [atN_ne _ _ (show j < k by omega), atN_ne _ _ (show j < k by omega), atN_ne _ _ (show j < k by omega)]; exact HZ.out j (by omega))
        simp at lg
        go_roundw
        case rel => exact ⟨k + 1, c - 1, oo, cc, pq + 3, _, _, _, _, rfl, by go_num, by omega, by omega, O2, HZ9, by omega, rw2, bw2, by omega⟩
        case measure => simp [intOf]; omega
    · have h00 : c = 0 := by omega
      subst h00
      go_wp2_with fail
      go_ret
      first
        | exact ⟨⟨ad, cap, k, D, N, A, T, rfl, HO.out, by omega, HZ.out⟩, ⟨pq, by omega, HR.out⟩, bw, by omega⟩
        | exact ⟨⟨ad, cap, k, rfl, D, N, A, T, HO.out, by omega, HZ.out⟩, ⟨pq, by omega, HR.out⟩, bw, by omega⟩
end Go.Proofs.Ytocpbcghkphcgaa.Hub
