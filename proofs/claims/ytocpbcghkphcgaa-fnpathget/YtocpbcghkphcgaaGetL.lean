/-
  The model's PathGet.
-/
import Derived.Test.YtocpbcghkphcgaaStepGet
import Derived.Test.YtocpbcghkphcgaaGetLD
import Derived.Test.YtocpbcghkphcgaaPathPutS
namespace Go.Proofs.Ytocpbcghkphcgaa.Hub
open Go.RowKit
set_option linter.unusedVariables false
set_option linter.unusedSimpArgs false

/-- What a reader of steps answers: a list of its own, which is the path that the text is, if it is one; or nothing, and the text is none. -/
def GetsP (s : ByteArray) (w : World) (e : Ending) (w' : World) : Prop :=
  (∃ (o : Option Addr) (cap n : Nat) (D : Nat → Bool) (N A T : Nat → ByteArray), e = .returned (.tuple #[.slice o n cap, .bool true]) ∧ OwnS w' w.heap.size (.slice o n cap) n D N A T ∧ n ≤ s.size ∧ (∀ j, j < n → (N j).size ≤ s.size ∧ (A j).size ≤ s.size ∧ (T j).size ≤ s.size) ∧ Sole s.data.toList n D N A T) ∨
  (e = .returned (.tuple #[.slice none 0 0, .bool false]) ∧ ∀ (n9 : Nat) (D9 : Nat → Bool) (N9 A9 T9 : Nat → ByteArray), pathT N9 A9 T9 n9 = true → putL D9 N9 A9 T9 n9 ≠ s.data.toList)
theorem strip_short {R : ByteArray} (h : R.size ≤ 1) : stripL R.data.toList = R.data.toList := by
  have hl : R.data.toList.length = R.size := rfl
  match hc : R.data.toList with
  | [] => rfl
  | [x] => simp [stripL]
  | x :: y :: q => rw [hc] at hl; simp at hl; omega
theorem two_head {R : ByteArray} (h : 1 < R.size) : R.data.toList = R[0] :: R[1] :: R.data.toList.drop 2 := by
  have h0 := drop_cons R 0 (by omega)
  have h1 := drop_cons R 1 h
  rw [List.drop_zero] at h0
  have h2 : R.data.toList = R[0] :: List.drop 1 R.data.toList := h0
  rw [h1] at h2
  exact h2
theorem strip_no0 {R : ByteArray} (h : 1 < R.size) (h0 : R[0] ≠ 47) : stripL R.data.toList = R.data.toList := by
  rw [two_head h]
  unfold stripL
  split
  · rename_i e; injection e with e1 _; exact absurd e1 h0
  · rfl
theorem strip_no1 {R : ByteArray} (h : 1 < R.size) (h0 : R[0] = 47) (h1 : R[1] = 47) : stripL R.data.toList = R.data.toList := by
  rw [two_head h, h0, h1]
  exact strip_two _
theorem strip_yes {R : ByteArray} (h : 1 < R.size) (h0 : R[0] = 47) (h1 : R[1] ≠ 47) : stripL R.data.toList = (R.extract 1 R.size).data.toList := by
  rw [extract_list, List.take_of_length_le (by rw [List.length_drop]; exact Nat.le_refl _), drop_cons R 1 h, two_head h, h0]
  exact strip_one _ _ h1
theorem list_nil {r : ByteArray} (h : r.size = 0) : r.data.toList = [] := List.eq_nil_of_length_eq_zero h
theorem list_ne {r : ByteArray} (h : 0 < r.size) : r.data.toList ≠ [] := fun e => by
  have hl : r.data.toList.length = r.size := rfl
  rw [e] at hl; simp at hl; omega

set_option maxRecDepth 100000 in
set_option maxHeartbeats 4000000 in
theorem l12Get_any (s : ByteArray) (hs : s.size ≤ 160) (w : World) :
    Calls Try.prog 17 #[.string s] w fun e w' => GetsP s w e w' ∧ Below w.heap.size w w' := by
  obtain ⟨i0, hi0, hy0, hy1, hy2⟩ := info_parts info_step
  obtain ⟨S, hS⟩ : ∃ S, s.data.toList = S := ⟨_, rfl⟩
  have HS : Hid (s.data.toList = S) := hS
  clear hS
  have b0 : Below w.heap.size w (w.alloc (.cells #[] 37)) := (Below.refl _ w).alloc (Nat.le_refl _) _
  go_enter Try.func17, Try.ntmps17
  go_wp2_with fail
  go_loopw [0, 4] (fun r0 o wr => ∃ (k : Nat) (r : ByteArray) (ad : Option Addr) (cap : Nat) (D : Nat → Bool) (N A T : Nat → ByteArray), r0 = .string r ∧ o = .slice ad k cap ∧ r.size + k ≤ s.size ∧ Hid (OwnS wr w.heap.size (.slice ad k cap) k D N A T) ∧ Hid (∀ j, j < k → (N j).size ≤ s.size ∧ (A j).size ≤ s.size ∧ (T j).size ≤ s.size) ∧ Hid (InvS S r.data.toList k D N A T) ∧ Below w.heap.size w wr) (fun r0 _ _ => match r0 with | .string r => r.size | _ => 0)
  case atStart =>
    refine ⟨0, s, some ⟨w.heap.size, 0, none⟩, 0, fun _ => false, fun _ => ⟨#[]⟩, fun _ => ⟨#[]⟩, fun _ => ⟨#[]⟩, rfl, rfl, by omega, ?_, fun j hj => absurd hj (by omega), ?_, b0⟩
    · exact World.ownsRow_made w #[] 0 (Nat.le_refl _) (Nat.zero_le _) rfl
    · show InvS S s.data.toList 0 _ _ _ _
      rw [HS.out]
      exact invS_start S _ _ _ _
  case round =>
    obtain ⟨k, r, ad, cap, D, N, A, T, rfl, rfl, hrk, HO, HZ, HI, bw⟩ := hrel
    by_cases h0 : 0 < r.size
    · have hr1 : (0 : Int) < (r.size : Int) := by omega
      have cS := l12Step_any r (by omega) wr
      go_wp2_with fail
      go_fit cS
      rintro e w1 ⟨⟨d, n, a, t, m, rfl, zn, za, zt, hm, hsay⟩, b1⟩
      have HSAY : Hid (SaysS r.data.toList d n a t m) := hsay
      have bw1 := bw.trans (b1.mono bw.size)
      have O1 := OwnL.below HO.out b1
      clear hsay cS
      by_cases hm0 : m = 0
      · subst hm0
        have HN := invS_some HI.out (list_ne h0) HSAY.out rfl
        go_wp2_with fail
        go_ret2
        refine ⟨.inr ⟨rfl, ?_⟩, (bw1.alloc bw1.size _)⟩
        intro n9 D9 N9 A9 T9 hp
        rw [HS.out]
        exact HN n9 D9 N9 A9 T9 hp
      · have hm1 : ((m : Int) == 0) = false := beq_eq_false_iff_ne.2 (by omega)
        have hmi : (m : Int) ≤ (r.size : Int) := by omega
        have HO1 : Hid (OwnS w1 w.heap.size (.slice ad k cap) k D N A T) := O1
        have SRC : Hid (ListAt ((w1.alloc (.cells #[.bool d, .string n, .string a, .string t] 37)).alloc (.cells #[.bool d, .string n, .string a, .string t] 37)) 4 (.slice (some ⟨w1.heap.size + 1, 0, none⟩) 1 1) 1 (fun _ => [.bool d, .string n, .string a, .string t])) := (by
          have h := new_step (w1.alloc (.cells #[.bool d, .string n, .string a, .string t] 37)) d n a t
          have e : (w1.alloc (.cells #[.bool d, .string n, .string a, .string t] 37)).heap.size = w1.heap.size + 1 := by simp
          rw [e] at h
          exact h)
        have lw1 := b1.size
        have lw0 := bw.size
        clear O1 b1
        obtain ⟨R, hR⟩ : ∃ R, r.extract m r.size = R := ⟨_, rfl⟩
        have hRs : R.size + m = r.size := by rw [← hR, ByteArray.size_extract]; omega
        have hRl : R.data.toList = r.data.toList.drop m := by rw [← hR, extract_list, List.take_of_length_le (by rw [List.length_drop]; exact Nat.le_refl _)]
        have HR : Hid (R.data.toList = r.data.toList.drop m) := hRl
        clear hRl
        by_cases hz1 : 1 < R.size
        · have hz1i : (1 : Int) < (R.size : Int) := by omega
          have hz0 : 0 < R.size := by omega
          by_cases hb0 : R[0] = 47
          · have e0 : ((R[0].toNat : Int) == 47) = true := by rw [hb0]; rfl
            by_cases hb1 : R[1] = 47
            · skip
              have e1 : ((R[1].toNat : Int) != 47) = false := by rw [hb1]; rfl
              go_wp2_with (at_builtin; refine wpList_append_list rfl _ _ _ rfl w.heap.size 37 i0 _ 4 56 Try.underlying22 hi0 hy0 hy1 hy2 rfl (by omega) (.slice ad k cap) k (rowVs (stepC D N A T) k) rfl (OwnL.alloc (OwnL.alloc HO1.out _) _) (.slice (some ⟨w1.heap.size + 1, 0, none⟩) 1 1) 1 (fun _ => [.bool d, .string n, .string a, .string t]) rfl SRC.out (fun _ => rfl) (one_step d n a t) (by unfold maxLen; omega) (by omega) (by simp; omega) (w1.heap.size + 1 + 1) (by simp) ?_; intro oo cc w2 hown hgrow hat; have HOW : Hid _ := hown; have HGR : Hid _ := hgrow; clear hown hgrow hat)
              have O2 : OwnS w2 w.heap.size (.slice oo (k + 1) cc) (k + 1) (atN k d D) (atN k n N) (atN k a A) (atN k t T) := own_snoc HOW.out
              have bw2 : Below w.heap.size w w2 := ((bw1.alloc bw1.size _).alloc (by simp; omega) _).grown HGR.out (by simp; omega) (fun q hq => (OwnL.lt HO1.out q hq).1)
              have HI9 : Hid (InvS S R.data.toList (k + 1) (atN k d D) (atN k n N) (atN k a A) (atN k t T)) := invS_next HI.out (list_ne h0) HSAY.out (by rw [← HR.out]; exact (strip_no1 hz1 hb0 hb1).symm)
              have HZ9 : Hid (∀ j, j < k + 1 → (atN k n N j).size ≤ s.size ∧ (atN k a A j).size ≤ s.size ∧ (atN k t T j).size ≤ s.size) := (fun j hj => by
                by_cases hjk : j = k
                · subst hjk; rw [atN_same, atN_same, atN_same]; exact ⟨by omega, by omega, by omega⟩
                · rw [atN_ne _ _ (show j < k by omega), atN_ne _ _ (show j < k by omega), atN_ne _ _ (show j < k by omega)]; exact HZ.out j (by omega))
              exact ⟨⟨k + 1, R, oo, cc, atN k d D, atN k n N, atN k a A, atN k t T, rfl, rfl, by omega, O2, HZ9, HI9, bw2⟩, by show (R).size < r.size; omega⟩
            · skip
              have e1 : ((R[1].toNat : Int) != 47) = true := bne_iff_ne.2 (fun e => hb1 (UInt8.toNat_inj.1 (by show R[1].toNat = 47; omega)))
              go_wp2_with (at_builtin; refine wpList_append_list rfl _ _ _ rfl w.heap.size 37 i0 _ 4 56 Try.underlying22 hi0 hy0 hy1 hy2 rfl (by omega) (.slice ad k cap) k (rowVs (stepC D N A T) k) rfl (OwnL.alloc (OwnL.alloc HO1.out _) _) (.slice (some ⟨w1.heap.size + 1, 0, none⟩) 1 1) 1 (fun _ => [.bool d, .string n, .string a, .string t]) rfl SRC.out (fun _ => rfl) (one_step d n a t) (by unfold maxLen; omega) (by omega) (by simp; omega) (w1.heap.size + 1 + 1) (by simp) ?_; intro oo cc w2 hown hgrow hat; have HOW : Hid _ := hown; have HGR : Hid _ := hgrow; clear hown hgrow hat)
              have O2 : OwnS w2 w.heap.size (.slice oo (k + 1) cc) (k + 1) (atN k d D) (atN k n N) (atN k a A) (atN k t T) := own_snoc HOW.out
              have bw2 : Below w.heap.size w w2 := ((bw1.alloc bw1.size _).alloc (by simp; omega) _).grown HGR.out (by simp; omega) (fun q hq => (OwnL.lt HO1.out q hq).1)
              have HI9 : Hid (InvS S (R.extract 1 R.size).data.toList (k + 1) (atN k d D) (atN k n N) (atN k a A) (atN k t T)) := invS_next HI.out (list_ne h0) HSAY.out (by rw [← HR.out]; exact (strip_yes hz1 hb0 hb1).symm)
              have HZ9 : Hid (∀ j, j < k + 1 → (atN k n N j).size ≤ s.size ∧ (atN k a A j).size ≤ s.size ∧ (atN k t T j).size ≤ s.size) := (fun j hj => by
                by_cases hjk : j = k
                · subst hjk; rw [atN_same, atN_same, atN_same]; exact ⟨by omega, by omega, by omega⟩
                · rw [atN_ne _ _ (show j < k by omega), atN_ne _ _ (show j < k by omega), atN_ne _ _ (show j < k by omega)]; exact HZ.out j (by omega))
              exact ⟨⟨k + 1, (R.extract 1 R.size), oo, cc, atN k d D, atN k n N, atN k a A, atN k t T, rfl, rfl, by have := (show (R.extract 1 R.size).size = R.size - 1 by rw [ByteArray.size_extract]; omega); omega, O2, HZ9, HI9, bw2⟩, by show ((R.extract 1 R.size)).size < r.size; have := (show (R.extract 1 R.size).size = R.size - 1 by rw [ByteArray.size_extract]; omega); omega⟩
          · skip
            have e0 : ((R[0].toNat : Int) == 47) = false := beq_eq_false_iff_ne.2 (fun e => hb0 (UInt8.toNat_inj.1 (by show R[0].toNat = 47; omega)))
            go_wp2_with (at_builtin; refine wpList_append_list rfl _ _ _ rfl w.heap.size 37 i0 _ 4 56 Try.underlying22 hi0 hy0 hy1 hy2 rfl (by omega) (.slice ad k cap) k (rowVs (stepC D N A T) k) rfl (OwnL.alloc (OwnL.alloc HO1.out _) _) (.slice (some ⟨w1.heap.size + 1, 0, none⟩) 1 1) 1 (fun _ => [.bool d, .string n, .string a, .string t]) rfl SRC.out (fun _ => rfl) (one_step d n a t) (by unfold maxLen; omega) (by omega) (by simp; omega) (w1.heap.size + 1 + 1) (by simp) ?_; intro oo cc w2 hown hgrow hat; have HOW : Hid _ := hown; have HGR : Hid _ := hgrow; clear hown hgrow hat)
            have O2 : OwnS w2 w.heap.size (.slice oo (k + 1) cc) (k + 1) (atN k d D) (atN k n N) (atN k a A) (atN k t T) := own_snoc HOW.out
            have bw2 : Below w.heap.size w w2 := ((bw1.alloc bw1.size _).alloc (by simp; omega) _).grown HGR.out (by simp; omega) (fun q hq => (OwnL.lt HO1.out q hq).1)
            have HI9 : Hid (InvS S R.data.toList (k + 1) (atN k d D) (atN k n N) (atN k a A) (atN k t T)) := invS_next HI.out (list_ne h0) HSAY.out (by rw [← HR.out]; exact (strip_no0 hz1 hb0).symm)
            have HZ9 : Hid (∀ j, j < k + 1 → (atN k n N j).size ≤ s.size ∧ (atN k a A j).size ≤ s.size ∧ (atN k t T j).size ≤ s.size) := (fun j hj => by
              by_cases hjk : j = k
              · subst hjk; rw [atN_same, atN_same, atN_same]; exact ⟨by omega, by omega, by omega⟩
              · rw [atN_ne _ _ (show j < k by omega), atN_ne _ _ (show j < k by omega), atN_ne _ _ (show j < k by omega)]; exact HZ.out j (by omega))
            exact ⟨⟨k + 1, R, oo, cc, atN k d D, atN k n N, atN k a A, atN k t T, rfl, rfl, by omega, O2, HZ9, HI9, bw2⟩, by show (R).size < r.size; omega⟩
        · skip
          have hz1i : ¬ (1 : Int) < (R.size : Int) := by omega
          go_wp2_with (at_builtin; refine wpList_append_list rfl _ _ _ rfl w.heap.size 37 i0 _ 4 56 Try.underlying22 hi0 hy0 hy1 hy2 rfl (by omega) (.slice ad k cap) k (rowVs (stepC D N A T) k) rfl (OwnL.alloc (OwnL.alloc HO1.out _) _) (.slice (some ⟨w1.heap.size + 1, 0, none⟩) 1 1) 1 (fun _ => [.bool d, .string n, .string a, .string t]) rfl SRC.out (fun _ => rfl) (one_step d n a t) (by unfold maxLen; omega) (by omega) (by simp; omega) (w1.heap.size + 1 + 1) (by simp) ?_; intro oo cc w2 hown hgrow hat; have HOW : Hid _ := hown; have HGR : Hid _ := hgrow; clear hown hgrow hat)
          have O2 : OwnS w2 w.heap.size (.slice oo (k + 1) cc) (k + 1) (atN k d D) (atN k n N) (atN k a A) (atN k t T) := own_snoc HOW.out
          have bw2 : Below w.heap.size w w2 := ((bw1.alloc bw1.size _).alloc (by simp; omega) _).grown HGR.out (by simp; omega) (fun q hq => (OwnL.lt HO1.out q hq).1)
          have HI9 : Hid (InvS S R.data.toList (k + 1) (atN k d D) (atN k n N) (atN k a A) (atN k t T)) := invS_next HI.out (list_ne h0) HSAY.out (by rw [← HR.out]; exact (strip_short (by omega)).symm)
          have HZ9 : Hid (∀ j, j < k + 1 → (atN k n N j).size ≤ s.size ∧ (atN k a A j).size ≤ s.size ∧ (atN k t T j).size ≤ s.size) := (fun j hj => by
            by_cases hjk : j = k
            · subst hjk; rw [atN_same, atN_same, atN_same]; exact ⟨by omega, by omega, by omega⟩
            · rw [atN_ne _ _ (show j < k by omega), atN_ne _ _ (show j < k by omega), atN_ne _ _ (show j < k by omega)]; exact HZ.out j (by omega))
          exact ⟨⟨k + 1, R, oo, cc, atN k d D, atN k n N, atN k a A, atN k t T, rfl, rfl, by omega, O2, HZ9, HI9, bw2⟩, by show (R).size < r.size; omega⟩
    · obtain h00 : r.size = 0 := by omega
      have hr1 : ¬ (0 : Int) < (r.size : Int) := by omega
      have HI2 := HI.out
      rw [list_nil h00] at HI2
      have HE := invS_end HI2
      clear HI2
      go_wp2_with fail
      go_ret2
      refine ⟨.inl ⟨ad, cap, k, D, N, A, T, rfl, HO.out, by omega, HZ.out, ?_⟩, bw⟩
      rw [HS.out]
      exact HE

theorem path_five {N A T : Nat → ByteArray} {n : Nat} (h : pathT N A T n = true) : n ≤ 5 := by
  unfold pathT at h
  rw [Bool.and_eq_true] at h
  exact (of_decide_eq_true h.1).2
theorem put_congr {D D9 : Nat → Bool} {N A T N9 A9 T9 : Nat → ByteArray} : ∀ n, Agree D D9 N A T N9 A9 T9 n → putL D N A T n = putL D9 N9 A9 T9 n
  | 0, _ => rfl
  | n + 1, h => by
    obtain ⟨e1, e2, e3, e4⟩ := h n (Nat.lt_succ_self n)
    rw [putL, putL, put_congr n (fun j hj => h j (by omega)), e1, e2, e3, e4]
/-- What the text is, if it is a path of no more than so many bytes. -/
def IsPath (s : ByteArray) (n : Nat) (D : Nat → Bool) (N A T : Nat → ByteArray) : Prop := s.size ≤ 160 ∧ pathT N A T n = true ∧ putL D N A T n = s.data.toList ∧ (∀ j, j < n → (N j).size ≤ 160 ∧ (A j).size ≤ 160 ∧ (T j).size ≤ 160) ∧ Sole s.data.toList n D N A T
/-- What PathGet answers: the path that the text is, in a list of its own; or nothing, and the text is none. -/
def PathP (s : ByteArray) (w : World) (e : Ending) (w' : World) : Prop :=
  (∃ (o : Option Addr) (cap n : Nat) (D : Nat → Bool) (N A T : Nat → ByteArray), e = .returned (.tuple #[.slice o n cap, .bool true]) ∧ OwnS w' w.heap.size (.slice o n cap) n D N A T ∧ IsPath s n D N A T) ∨
  (e = .returned (.tuple #[.slice none 0 0, .bool false]) ∧ ∀ (n9 : Nat) (D9 : Nat → Bool) (N9 A9 T9 : Nat → ByteArray), ¬ IsPath s n9 D9 N9 A9 T9)
theorem put_bytes {D : Nat → Bool} {N A T : Nat → ByteArray} {n : Nat} {s : ByteArray} : putS D N A T n = s ↔ putL D N A T n = s.data.toList := by
  constructor
  · rintro rfl; simp [putS]
  · intro h; exact (list_str s _ h.symm).symm

set_option maxRecDepth 100000 in
set_option maxHeartbeats 4000000 in
theorem specPathGet_any (s : ByteArray) (hs : s.size ≤ 1048576) (w : World) :
    Calls Try.prog 6 #[.string s] w fun e w' => PathP s w e w' ∧ Below w.heap.size w w' := by
  by_cases h160 : s.size ≤ 160
  · have h1 : ¬ (160 : Int) < (s.size : Int) := by omega
    have cG := l12Get_any s h160 w
    go_enter Try.func6, Try.ntmps6
    go_wp2_with fail
    go_fit cG
    rintro e w1 ⟨hg, b1⟩
    rcases hg with ⟨o, cap, n, D, N, A, T, rfl, hO, hn, hz, hsole⟩ | ⟨rfl, hno⟩
    · have HO : Hid (OwnS w1 w.heap.size (.slice o n cap) n D N A T) := hO
      have HS : Hid (Sole s.data.toList n D N A T) := hsole
      have HZ : Hid (∀ j, j < n → (N j).size ≤ s.size ∧ (A j).size ≤ s.size ∧ (T j).size ≤ s.size) := hz
      have cK := l12Ok_any (.slice o n cap) n D N A T w1 (OwnS.step hO) (fun j hj => by have := hz j hj; omega)
      clear hO hsole hz
      cases hp : pathT N A T n
      · rw [hp] at cK
        go_wp2_with (go_at_call 18; go_fit cK; rintro e w2 ⟨rfl, b2⟩)
        go_ret2
        refine ⟨.inr ⟨rfl, ?_⟩, b1.trans (b2.mono b1.size)⟩
        rintro n9 D9 N9 A9 T9 ⟨-, g2, g3, -, -⟩
        obtain ⟨rfl, hag⟩ := HS.out n9 D9 N9 A9 T9 g2 g3
        have e : pathT N A T n = pathT N9 A9 T9 n := by
          unfold pathT stepsT
          congr 1
          rw [Bool.eq_iff_iff, List.all_eq_true, List.all_eq_true]
          constructor <;> (intro h j hj; have h5 := h j hj; have h6 := hag j (List.mem_range.1 hj); first | (rw [← h6.2.1, ← h6.2.2.1, ← h6.2.2.2]; exact h5) | (rw [h6.2.1, h6.2.2.1, h6.2.2.2]; exact h5))
        rw [hp, g2] at e
        cases e
      · rw [hp] at cK
        have cP := fun W (b : Below w1.heap.size w1 W) => l12Put_any (.slice o n cap) n D N A T W (OwnS.step (OwnL.below HO.out b)) (path_five hp) (path_steps hp)
        by_cases he : putS D N A T n = s
        · have heb : (!((putS D N A T n).toList == s.toList)) = false := by rw [he]; simp
          have HE : Hid (putS D N A T n = s) := he
          clear he
          go_wp2_with first
            | (go_at_call 18; go_fit cK; rintro e w2 ⟨rfl, b2⟩)
            | (go_at_call 19; refine (cP _ b2).mono ?_; rintro e w3 ⟨rfl, b3⟩)
          go_ret2
          have b9 := b1.trans (b2.mono b1.size)
          exact ⟨.inl ⟨o, cap, n, D, N, A, T, rfl, OwnL.below (OwnL.below HO.out b2) b3, h160, hp, put_bytes.1 HE.out, fun j hj => by have := HZ.out j hj; omega, HS.out⟩, b9.trans (b3.mono b9.size)⟩
        · have heb : (!((putS D N A T n).toList == s.toList)) = true := by rw [ne_bytes he]; rfl
          have HE : Hid (¬ putS D N A T n = s) := he
          clear he
          go_wp2_with first
            | (go_at_call 18; go_fit cK; rintro e w2 ⟨rfl, b2⟩)
            | (go_at_call 19; refine (cP _ b2).mono ?_; rintro e w3 ⟨rfl, b3⟩)
          go_ret2
          have b9 := b1.trans (b2.mono b1.size)
          refine ⟨.inr ⟨rfl, ?_⟩, b9.trans (b3.mono b9.size)⟩
          rintro n9 D9 N9 A9 T9 ⟨-, g2, g3, -, -⟩
          obtain ⟨rfl, hag⟩ := HS.out n9 D9 N9 A9 T9 g2 g3
          refine HE.out (put_bytes.2 ?_)
          rw [← g3]
          exact put_congr n hag
    · have HN : Hid (∀ (n9 : Nat) (D9 : Nat → Bool) (N9 A9 T9 : Nat → ByteArray), pathT N9 A9 T9 n9 = true → putL D9 N9 A9 T9 n9 ≠ s.data.toList) := hno
      clear hno
      go_wp2_with fail
      go_ret2
      exact ⟨.inr ⟨rfl, fun n9 D9 N9 A9 T9 h => HN.out n9 D9 N9 A9 T9 h.2.1 h.2.2.1⟩, b1⟩
  · have h1 : (160 : Int) < (s.size : Int) := by omega
    go_enter Try.func6, Try.ntmps6
    go_wp2_with fail
    go_ret2
    exact ⟨.inr ⟨rfl, fun n9 D9 N9 A9 T9 h => h160 h.1⟩, Below.refl _ _⟩
end Go.Proofs.Ytocpbcghkphcgaa.Hub
