/-
  The program's PathGet.
-/
import Derived.Test.YtocpbcghkphcgaaLooseS
import Derived.Test.YtocpbcghkphcgaaGetL
import Derived.Test.YtocpbcghkphcgaaPathPutI
namespace Go.Proofs.Ytocpbcghkphcgaa.Hub
open Go.RowKit
set_option linter.unusedVariables false
set_option linter.unusedSimpArgs false

/-- What the program's reader of steps answers: a list of its own, which is the path that the text is, if it is one. -/
def LooseP (s : ByteArray) (w : World) (e : Ending) (w' : World) : Prop :=
  ∃ (o : Option Addr) (cap n : Nat) (D : Nat → Bool) (N A T : Nat → ByteArray), e = .returned (.slice o n cap) ∧ OwnS w' w.heap.size (.slice o n cap) n D N A T ∧ n ≤ s.size ∧ (∀ j, j < n → (N j).size ≤ s.size ∧ (A j).size ≤ s.size ∧ (T j).size ≤ s.size) ∧ Sole s.data.toList n D N A T

theorem put_eq (D : Nat → Bool) (N A T : Nat → ByteArray) (n : Nat) (s : ByteArray) : ((putS D N A T n).toList == s.toList) = true ↔ putS D N A T n = s := by
  constructor
  · intro h
    by_cases he : putS D N A T n = s
    · exact he
    · rw [ne_bytes he] at h; cases h
  · intro h; rw [h]; simp

set_option maxRecDepth 100000 in
set_option maxHeartbeats 4000000 in
theorem looseSteps_any (s : ByteArray) (hs : s.size ≤ 160) (m : Int) (w : World) (hm : w.cell? ⟨0, 0, none⟩ = some (.int .i64 m)) :
    Calls Try.prog 20 #[.string s] w fun e w' => LooseP s w e w' ∧ Below w.heap.size w w' := by
  have HM : Hid (∀ W, Below w.heap.size w W → W.cell? ⟨0, 0, none⟩ = some (.int .i64 m)) := fun W bb => (bb.cell (p := ⟨0, 0, none⟩) (cell_lt hm)).trans hm
  clear hm
  obtain ⟨i0, hi0, hy0, hy1, hy2⟩ := info_parts info_step
  obtain ⟨S, hS⟩ : ∃ S, s.data.toList = S := ⟨_, rfl⟩
  have HS : Hid (s.data.toList = S) := hS
  clear hS
  go_enter Try.func20, Try.ntmps20
  go_wp2_with fail
  go_loopw [0, 3] (fun r0 o wr => ∃ (k : Nat) (r : ByteArray) (ad : Option Addr) (cap : Nat) (D : Nat → Bool) (N A T : Nat → ByteArray), r0 = .string r ∧ o = .slice ad k cap ∧ r.size + k ≤ s.size ∧ Hid (OwnS wr w.heap.size (.slice ad k cap) k D N A T) ∧ Hid (∀ j, j < k → (N j).size ≤ s.size ∧ (A j).size ≤ s.size ∧ (T j).size ≤ s.size) ∧ Hid (InvI S r.data.toList k D N A T) ∧ Below w.heap.size w wr) (fun r0 _ _ => match r0 with | .string r => r.size | _ => 0)
  case atStart =>
    refine ⟨0, s, none, 0, fun _ => false, fun _ => ⟨#[]⟩, fun _ => ⟨#[]⟩, fun _ => ⟨#[]⟩, rfl, rfl, by omega, OwnL.nil _ _ _ _ _, fun j hj => absurd hj (by omega), ?_, Below.refl _ _⟩
    show InvI S s.data.toList 0 _ _ _ _
    rw [HS.out]
    exact invI_start S _ _ _ _
  case round =>
    obtain ⟨k, r, ad, cap, D, N, A, T, rfl, rfl, hrk, HO, HZ, HI, bw⟩ := hrel
    by_cases h0 : 0 < r.size
    · have hr1 : r.toList.isEmpty = false := not_empty r h0
      have bA := (Below.refl wr.heap.size wr).alloc (Nat.le_refl _) (.cells #[.bool false, .string ⟨#[]⟩, .string ⟨#[]⟩, .string ⟨#[]⟩] 37)
      have cS := fun W hW => looseStep_any r (by omega) h0 m W (HM.out W hW)
      have bw0 := bw.trans (bA.mono bw.size)
      go_wp2_with fail
      refine (cS _ bw0).mono ?_
      rintro e w1 ⟨⟨d, n, a, t, b, rfl, zn, za, zt, hb, hsay⟩, b1⟩
      have HSAY : Hid (SaysI r.data.toList d n a t b.data.toList) := hsay
      have K1 : w1.heap[wr.heap.size]? = some (.cells #[.bool false, .string ⟨#[]⟩, .string ⟨#[]⟩, .string ⟨#[]⟩] 37 (0, 0)) := (b1.block wr.heap.size (by simp)).trans (World.alloc_heap_new wr _)
      have bX : Below wr.heap.size wr w1 := bA.trans (b1.mono (by simp))
      have f1 : ∀ i, w1.frozen? ⟨wr.heap.size, i, none⟩ = false := fun i => by simp [World.frozen?, K1]
      obtain ⟨z0, z1, z2, z3⟩ := four_cells K1
      have hl1 : wr.heap.size < w1.heap.size := (Array.getElem?_eq_some_iff.1 K1).1
      obtain ⟨W4, hW4⟩ : ∃ W4, (((w1.setCell ⟨wr.heap.size, 0, none⟩ (.bool d)).setCell ⟨wr.heap.size, 1, none⟩ (.string n)).setCell ⟨wr.heap.size, 2, none⟩ (.string a)).setCell ⟨wr.heap.size, 3, none⟩ (.string t) = W4 := ⟨_, rfl⟩
      have HW4 : Hid ((((w1.setCell ⟨wr.heap.size, 0, none⟩ (.bool d)).setCell ⟨wr.heap.size, 1, none⟩ (.string n)).setCell ⟨wr.heap.size, 2, none⟩ (.string a)).setCell ⟨wr.heap.size, 3, none⟩ (.string t) = W4) := hW4
      have b4 : Below wr.heap.size wr W4 := by rw [← hW4]; exact bs (bs (bs (bs bX _ _ _ (Nat.le_refl _)) _ _ _ (Nat.le_refl _)) _ _ _ (Nat.le_refl _)) _ _ _ (Nat.le_refl _)
      have HO4 : Hid (OwnS W4 w.heap.size (.slice ad k cap) k D N A T) := OwnL.below HO.out b4
      have SRC : Hid (ListAt (W4.alloc (.cells #[.bool d, .string n, .string a, .string t] 37)) 4 (.slice (some ⟨W4.heap.size, 0, none⟩) 1 1) 1 (fun _ => [.bool d, .string n, .string a, .string t])) := new_step W4 d n a t
      have hs4 : W4.heap.size = w1.heap.size := by rw [← hW4]; simp
      have bw4 := bw.trans (b4.mono bw.size)
      have lw4 := bw4.size
      have B4 : Hid _ := bw4
      clear hsay b1 bX hW4 K1 bA cS b4 bw4 bw0
      go_wp2_with (at_builtin; rw [HW4.out]; refine wpList_append_list rfl _ _ _ rfl w.heap.size 37 i0 _ 4 56 Try.underlying22 hi0 hy0 hy1 hy2 rfl (by omega) (.slice ad k cap) k (rowVs (stepC D N A T) k) rfl (OwnL.alloc HO4.out _) (.slice (some ⟨W4.heap.size, 0, none⟩) 1 1) 1 (fun _ => [.bool d, .string n, .string a, .string t]) (by first | rfl | (rw [hs4]; rfl) | (simp [hs4]; done)) SRC.out (fun _ => rfl) (one_step d n a t) (by unfold maxLen; omega) (by omega) (by simp; omega) (W4.heap.size + 1) (by simp) ?_; intro oo cc w2 hown hgrow hat; have HOW : Hid _ := hown; have HGR : Hid _ := hgrow; clear hown hgrow hat)
      have O2 : OwnS w2 w.heap.size (.slice oo (k + 1) cc) (k + 1) (atN k d D) (atN k n N) (atN k a A) (atN k t T) := own_snoc HOW.out
      have bw2 : Below w.heap.size w w2 := (B4.out.alloc B4.out.size _).grown HGR.out (by simp; omega) (fun q hq => (OwnL.lt HO4.out q hq).1)
      have HI9 : Hid (InvI S b.data.toList (k + 1) (atN k d D) (atN k n N) (atN k a A) (atN k t T)) := invI_next HI.out (list_ne h0) HSAY.out
      have HZ9 : Hid (∀ j, j < k + 1 → (atN k n N j).size ≤ s.size ∧ (atN k a A j).size ≤ s.size ∧ (atN k t T j).size ≤ s.size) := (fun j hj => by
        by_cases hjk : j = k
        · subst hjk; rw [atN_same, atN_same, atN_same]; exact ⟨by omega, by omega, by omega⟩
        · rw [atN_ne _ _ (show j < k by omega), atN_ne _ _ (show j < k by omega), atN_ne _ _ (show j < k by omega)]; exact HZ.out j (by omega))
      exact ⟨⟨k + 1, b, oo, cc, atN k d D, atN k n N, atN k a A, atN k t T, rfl, rfl, by omega, O2, HZ9, HI9, bw2⟩, by show b.size < r.size; omega⟩
    · obtain h00 : r.size = 0 := by omega
      obtain rfl : r = ⟨#[]⟩ := size_empty r h00
      have HI2 := HI.out
      have HE := invI_end HI2
      clear HI2
      go_wp2_with fail
      go_ret
      refine ⟨⟨ad, cap, k, D, N, A, T, rfl, HO.out, by omega, HZ.out, ?_⟩, bw⟩
      rw [HS.out]
      exact HE

set_option maxRecDepth 100000 in
set_option maxHeartbeats 4000000 in
theorem implPathGet_any (s : ByteArray) (hs : s.size ≤ 1048576) (m : Int) (w : World) (hm : w.cell? ⟨0, 0, none⟩ = some (.int .i64 m)) :
    Calls Try.prog 7 #[.string s] w fun e w' => PathP s w e w' ∧ Below w.heap.size w w' := by
  by_cases h160 : s.size ≤ 160
  · have h1 : ¬ (160 : Int) < (s.size : Int) := by omega
    have cG := looseSteps_any s h160 m w hm
    clear hm
    go_enter Try.func7, Try.ntmps7
    go_wp2_with fail
    go_fit cG
    rintro e w1 ⟨⟨o, cap, n, D, N, A, T, rfl, hO, hn, hz, hsole⟩, b1⟩
    have HO : Hid (OwnS w1 w.heap.size (.slice o n cap) n D N A T) := hO
    have HS : Hid (Sole s.data.toList n D N A T) := hsole
    have HZ : Hid (∀ j, j < n → (N j).size ≤ s.size ∧ (A j).size ≤ s.size ∧ (T j).size ≤ s.size) := hz
    have cK := implPathOk_any (.slice o n cap) n D N A T w1 (OwnS.step hO) (fun j hj => by have := hz j hj; omega)
    have cP := fun W (b : Below w1.heap.size w1 W) => implPathPut_any (.slice o n cap) n D N A T W (OwnS.step (OwnL.below HO.out b)) (fun j hj => by have := HZ.out j hj; omega)
    clear hO hsole hz
    cases hp : pathT N A T n
    · rw [hp] at cK
      go_wp2_with (go_at_call 14; go_fit cK; rintro e w2 ⟨rfl, b2⟩)
      go_ret2
      refine ⟨.inr ⟨rfl, ?_⟩, b1.trans (b2.mono b1.size)⟩
      rintro n9 D9 N9 A9 T9 ⟨-, g2, g3, -, -⟩
      obtain ⟨rfl, hag⟩ := HS.out n9 D9 N9 A9 T9 g2 g3
      have e : pathT N A T n = pathT N9 A9 T9 n := by
        unfold pathT stepsT
        congr 1
        rw [Bool.eq_iff_iff, List.all_eq_true, List.all_eq_true]
        constructor <;> (intro h j hj; have h5 := h j hj; have h6 := hag j (List.mem_range.1 hj); first | (rw [← h6.2.1, ← h6.2.2.1, ← h6.2.2.2]; exact h5) | (rw [h6.2.1, h6.2.2.1, h6.2.2.2]; exact h5))
      rw [hp, g2] at e
      cases e
    · rw [hp] at cK
      have epp : pputT D N A T n = putS D N A T n := by unfold pputT; rw [if_pos hp]
      rw [epp] at cP
      have heb := put_eq D N A T n s
      cases hcmp : ((putS D N A T n).toList == s.toList)
      · rw [hcmp] at heb
        have HE : Hid (¬ putS D N A T n = s) := fun e => by have := heb.2 e; cases this
        have hnb : (!((putS D N A T n).toList == s.toList)) = true := by rw [hcmp]; rfl
        clear heb
        go_wp2_with first
          | (go_at_call 14; go_fit cK; rintro e w2 ⟨rfl, b2⟩)
          | (go_at_call 12; refine (cP _ b2).mono ?_; rintro e w3 ⟨rfl, b3⟩)
        go_ret2
        have b9 := b1.trans (b2.mono b1.size)
        refine ⟨.inr ⟨rfl, ?_⟩, b9.trans (b3.mono b9.size)⟩
        rintro n9 D9 N9 A9 T9 ⟨-, g2, g3, -, -⟩
        obtain ⟨rfl, hag⟩ := HS.out n9 D9 N9 A9 T9 g2 g3
        refine HE.out (put_bytes.2 ?_)
        rw [← g3]
        exact put_congr n hag
      · rw [hcmp] at heb
        have HE : Hid (putS D N A T n = s) := heb.1 rfl
        have hnb : (!((putS D N A T n).toList == s.toList)) = false := by rw [hcmp]; rfl
        clear heb
        go_wp2_with first
          | (go_at_call 14; go_fit cK; rintro e w2 ⟨rfl, b2⟩)
          | (go_at_call 12; refine (cP _ b2).mono ?_; rintro e w3 ⟨rfl, b3⟩)
        go_ret2
        have b9 := b1.trans (b2.mono b1.size)
        exact ⟨.inl ⟨o, cap, n, D, N, A, T, rfl, OwnL.below (OwnL.below HO.out b2) b3, h160, hp, put_bytes.1 HE.out, fun j hj => by have := HZ.out j hj; omega, HS.out⟩, b9.trans (b3.mono b9.size)⟩
  · have h1 : (160 : Int) < (s.size : Int) := by omega
    clear hm
    go_enter Try.func7, Try.ntmps7
    go_wp2_with fail
    go_ret2
    exact ⟨.inr ⟨rfl, fun n9 D9 N9 A9 T9 h => h160 h.1⟩, Below.refl _ _⟩
end Go.Proofs.Ytocpbcghkphcgaa.Hub
