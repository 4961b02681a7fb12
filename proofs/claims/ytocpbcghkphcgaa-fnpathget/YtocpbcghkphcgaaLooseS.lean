/-
  The program's looseStep.
-/
import Derived.Test.YtocpbcghkphcgaaLooseD
import Derived.Test.YtocpbcghkphcgaaShelfP
import Derived.Test.YtocpbcghkphcgaaStepGet
namespace Go.Proofs.Ytocpbcghkphcgaa.Hub
open Go.RowKit
set_option linter.unusedVariables false
set_option linter.unusedSimpArgs false

theorem clone_str (s : ByteArray) (w : World) (hs : s.size ≤ 281474976710656) :
    Calls Try.prog 50 #[.string s] w fun e w' => e = .returned (.string s) ∧ Below w.heap.size w w' := by
  have c := Try.stringslite_Clone s w hs
  go_enter Try.func50, Try.ntmps50
  go_wp2_with (go_at_call 63; go_fit c; rintro e w1 ⟨rfl, b1⟩)
  go_ret
  exact ⟨rfl, b1⟩
theorem below_drewN (w : World) (n : Nat) : Below w.heap.size w (w.drewN n) := ⟨rfl, rfl, rfl, Nat.le_refl _, fun _ _ => rfl⟩

theorem bytes_list (l : List UInt8) : (⟨l.toArray⟩ : ByteArray).data.toList = l := by simp
theorem rest_true {s R : ByteArray} (h : Lib.hasPrefix s.data.toList (⟨#[47, 47]⟩ : ByteArray).data.toList = true) (hR : ⟨(Lib.trimPrefix s.data.toList (⟨#[47, 47]⟩ : ByteArray).data.toList).toArray⟩ = R) : R.data.toList = restI s.data.toList ∧ R.size + 1 ≤ s.size := by
  have hl : s.data.toList.length = s.size := rfl
  have h2 : 2 ≤ s.size := ((fore h).2 rfl).1
  have e : R.data.toList = s.data.toList.drop 2 := by
    rw [← hR, bytes_list]
    unfold Lib.trimPrefix
    rw [if_pos h]
    rfl
  refine ⟨?_, ?_⟩
  · unfold restI
    rw [if_pos h]
    exact e
  · have hr : R.data.toList.length = R.size := rfl
    rw [e, List.length_drop] at hr
    omega
theorem rest_false {s R : ByteArray} (h : Lib.hasPrefix s.data.toList (⟨#[47, 47]⟩ : ByteArray).data.toList = false) (hR : ⟨(Lib.trimPrefix s.data.toList (⟨#[47]⟩ : ByteArray).data.toList).toArray⟩ = R) : R.data.toList = restI s.data.toList ∧ (R.size + 1 ≤ s.size ∨ (R = s ∧ ∀ q, s.data.toList ≠ 47 :: q)) := by
  have hl : s.data.toList.length = s.size := rfl
  have e : R.data.toList = Lib.trimPrefix s.data.toList [47] := by rw [← hR, bytes_list]
  have hr : R.data.toList.length = R.size := rfl
  refine ⟨?_, ?_⟩
  · unfold restI
    have h' : Lib.hasPrefix s.data.toList [47, 47] = false := h
    rw [h', if_neg (by decide)]
    exact e
  · unfold Lib.trimPrefix at e
    cases hp : Lib.hasPrefix s.data.toList [47]
    · rw [hp, if_neg (by decide)] at e
      exact .inr ⟨bytes_same e, fun q eq => by rw [eq] at hp; revert hp; simp [Lib.hasPrefix, List.isPrefixOf]⟩
    · rw [hp, if_pos rfl] at e
      have h1 : 1 ≤ s.size := by
        cases hs : s.data.toList with
        | nil => rw [hs] at hp; exact absurd hp (by decide)
        | cons a q => rw [hs] at hl; simp at hl; omega
      rw [e, List.length_drop] at hr
      left
      simp at hr
      omega
theorem end_le {R : ByteArray} {z : Int} (hz : AnyAt R z) : endI R z ≤ R.size := by
  unfold endI
  rcases hz.1 with rfl | ⟨i, rfl, h, _⟩
  · rw [if_pos (by omega)]; exact Nat.le_refl _
  · rw [if_neg (by omega)]; omega
theorem goes_on {s R : ByteArray} {z : Int} (h0 : 0 < s.size) (hR : R.size + 1 ≤ s.size ∨ (R = s ∧ ∀ q, s.data.toList ≠ 47 :: q)) (hz : AnyAt R z) (hb : Lib.hasPrefix (R.extract (endI R z) R.size).data.toList (⟨#[91]⟩ : ByteArray).data.toList = false) : (R.extract (endI R z) R.size).size < s.size := by
  have he := end_le hz
  have hx : (R.extract (endI R z) R.size).size = R.size - endI R z := by rw [ByteArray.size_extract]; omega
  rw [hx]
  rcases hR with hR | ⟨rfl, hno⟩
  · omega
  · rcases hz.1 with rfl | ⟨i, rfl, hi, hv⟩
    · have : endI R (-1) = R.size := by unfold endI; rw [if_pos (by omega)]
      omega
    · have hei : endI R (i : Int) = i := by unfold endI; rw [if_neg (by omega)]; omega
      rw [hei] at hb ⊢
      by_cases h9 : i = 0
      · subst h9
        have hd := drop_cons R 0 hi
        rw [List.drop_zero] at hd
        rcases hv with hv | hv
        · rw [hv] at hd; exact absurd hd (hno _)
        · exfalso
          rw [extract_list, List.take_of_length_le (by rw [List.length_drop]; exact Nat.le_refl _), List.drop_zero, hd, hv] at hb
          revert hb
          simp [Lib.hasPrefix, List.isPrefixOf]
      · omega
theorem drop_ext (R : ByteArray) (e : Nat) : (R.extract e R.size).data.toList = R.data.toList.drop e := by
  rw [extract_list, List.take_of_length_le (by rw [List.length_drop]; exact Nat.le_refl _)]
theorem take_ext (R : ByteArray) (e : Nat) : (R.extract 0 e).data.toList = R.data.toList.take e := by
  rw [extract_list, List.drop_zero, Nat.sub_zero]

set_option maxRecDepth 100000 in
set_option maxHeartbeats 4000000 in
theorem looseStep_any (s : ByteArray) (hs : s.size ≤ 1048576) (h0 : 0 < s.size) (m : Int) (w : World) (hm : w.cell? ⟨0, 0, none⟩ = some (.int .i64 m)) :
    Calls Try.prog 35 #[.string s] w fun e w' => (∃ (d : Bool) (n a t b : ByteArray), e = .returned (.tuple #[.agg #[.bool d, .string n, .string a, .string t], .string b]) ∧ n.size ≤ s.size ∧ a.size ≤ s.size ∧ t.size ≤ s.size ∧ b.size < s.size ∧ SaysI s.data.toList d n a t b.data.toList) ∧ Below w.heap.size w w' := by
  have HM : Hid (∀ W, Below w.heap.size w W → W.cell? ⟨0, 0, none⟩ = some (.int .i64 m)) := fun W bb => (bb.cell (p := ⟨0, 0, none⟩) (cell_lt hm)).trans hm
  clear hm
  have cP := fun W => Try.strings_CutPrefix s ⟨#[47, 47]⟩ W
  have cT := fun W => Try.strings_TrimPrefix s ⟨#[47]⟩ W
  obtain ⟨d, hd⟩ : ∃ d, Lib.hasPrefix s.data.toList (⟨#[47, 47]⟩ : ByteArray).data.toList = d := ⟨_, rfl⟩
  obtain ⟨R1, hR1⟩ : ∃ R1 : ByteArray, ⟨(Lib.trimPrefix s.data.toList (⟨#[47, 47]⟩ : ByteArray).data.toList).toArray⟩ = R1 := ⟨_, rfl⟩
  obtain ⟨R2, hR2⟩ : ∃ R2 : ByteArray, ⟨(Lib.trimPrefix s.data.toList (⟨#[47]⟩ : ByteArray).data.toList).toArray⟩ = R2 := ⟨_, rfl⟩
  rw [hd, hR1] at cP
  rw [hR2] at cT
  have HD : Hid (Lib.hasPrefix s.data.toList (⟨#[47, 47]⟩ : ByteArray).data.toList = d) := hd
  have HR1 : Hid (_ = R1) := hR1
  have HR2 : Hid (_ = R2) := hR2
  clear hd hR1 hR2
  cases d
  · have hrr := rest_false HD.out HR2.out
    have HRR : Hid (R2.data.toList = restI s.data.toList) := hrr.1
    have HPR : Hid (R2.size + 1 ≤ s.size ∨ (R2 = s ∧ ∀ q, s.data.toList ≠ 47 :: q)) := hrr.2
    have hRs : R2.size ≤ s.size := by rcases HPR.out with h | ⟨h, _⟩ <;> first | omega | (rw [h]; exact Nat.le_refl _)
    have cI := fun W => indexAny_any R2 (by omega) W
    clear hrr
    go_enter Try.func35, Try.ntmps35
    go_wp2_with first
      | (go_at_call 47; refine (cP _).mono ?_; rintro e w1 ⟨rfl, rfl⟩)
      | (go_at_call 48; refine (cT _).mono ?_; rintro e w1 ⟨rfl, rfl⟩)
    refine (cI _).mono ?_
    rintro e w1 ⟨⟨z, rfl, hz⟩, b1⟩
    have b0 : Below w.heap.size w (w.alloc (.cells #[.bool false, .string ⟨#[]⟩, .string ⟨#[]⟩, .string ⟨#[]⟩] 37)) := (Below.refl _ w).alloc (Nat.le_refl _) _
    have bw1 := b0.trans (b1.mono b0.size)
    have HB1 : Hid (w1.heap[w.heap.size]? = some (.cells #[.bool false, .string ⟨#[]⟩, .string ⟨#[]⟩, .string ⟨#[]⟩] 37 (0, 0))) := (b1.block w.heap.size (by simp)).trans (World.alloc_heap_new w _)
    have hl1 : w.heap.size < w1.heap.size := (Array.getElem?_eq_some_iff.1 HB1.out).1
    have HZ : Hid (AnyAt R2 z) := hz
    have hel := end_le hz
    obtain ⟨en, hen⟩ : ∃ en, endI R2 z = en := ⟨_, rfl⟩
    have HEN : Hid (endI R2 z = en) := hen
    rw [hen] at hel
    have hzc : (z < 0 ∧ en = R2.size) ∨ (¬ z < 0 ∧ z = (en : Int)) := by
      rw [← hen]; unfold endI
      by_cases h : z < 0
      · exact .inl ⟨h, by rw [if_pos h]⟩
      · exact .inr ⟨h, by rw [if_neg h]; omega⟩
    obtain ⟨nm, hnm⟩ : ∃ nm, R2.extract 0 en = nm := ⟨_, rfl⟩
    obtain ⟨tl, htl⟩ : ∃ tl, R2.extract en R2.size = tl := ⟨_, rfl⟩
    have hnz : nm.size ≤ s.size := by rw [← hnm, ByteArray.size_extract]; omega
    have htz : tl.size ≤ s.size := by rw [← htl, ByteArray.size_extract]; omega
    have HNM : Hid (nm.data.toList = R2.data.toList.take (endI R2 z)) := (by rw [hen, ← hnm]; exact take_ext _ _ : nm.data.toList = R2.data.toList.take (endI R2 z))
    have HTL : Hid (tl.data.toList = R2.data.toList.drop (endI R2 z)) := (by rw [hen, ← htl]; exact drop_ext _ _ : tl.data.toList = R2.data.toList.drop (endI R2 z))
    have HNX : Hid (R2.extract 0 en = nm) := hnm
    have HTX : Hid (R2.extract en R2.size = tl) := htl
    have cN := fun W => clone_str nm W (by omega)
    have cQ := fun W => Try.strings_CutPrefix tl ⟨#[91]⟩ W
    obtain ⟨hb, hhb⟩ : ∃ hb, Lib.hasPrefix tl.data.toList (⟨#[91]⟩ : ByteArray).data.toList = hb := ⟨_, rfl⟩
    obtain ⟨q, hq⟩ : ∃ q : ByteArray, ⟨(Lib.trimPrefix tl.data.toList (⟨#[91]⟩ : ByteArray).data.toList).toArray⟩ = q := ⟨_, rfl⟩
    rw [hhb, hq] at cQ
    have HHB : Hid (Lib.hasPrefix tl.data.toList (⟨#[91]⟩ : ByteArray).data.toList = hb) := hhb
    have HQ : Hid (⟨(Lib.trimPrefix tl.data.toList (⟨#[91]⟩ : ByteArray).data.toList).toArray⟩ = q) := hq
    clear hz hen hnm htl b1 hhb hq cP cT cI
    have heI : (en : Int) ≤ (R2.size : Int) := by omega
    rcases hzc with ⟨hz0, hze⟩ | ⟨hz0, rfl⟩
    · subst hze
      have hnR : nm = R2 := by rw [← HNX.out]; exact ByteArray.extract_zero_size
      have htR : tl = ByteArray.empty := by
        have h9 : tl.size = 0 := by rw [← HTX.out, ByteArray.size_extract]; omega
        exact size_empty tl h9
      subst hnR
      have hd0 : ¬ (nm.size : Int) < 0 := by omega
      cases hb
      · skip
        go_wp2_with fail
        refine (cN _).mono ?_
        rintro e w2 ⟨rfl, b2⟩
        have bw2 := bw1.trans (b2.mono bw1.size)
        have HB2 := (b2.block _ hl1).trans HB1.out
        have hl2 : w.heap.size < w2.heap.size := (Array.getElem?_eq_some_iff.1 HB2).1
        obtain ⟨V, hV⟩ : ∃ V, w2.alloc (.cells #[.bool false, .string nm, .string ⟨#[]⟩, .string ⟨#[]⟩] 37) = V := ⟨_, rfl⟩
        have HV : Hid (w2.alloc (.cells #[.bool false, .string nm, .string ⟨#[]⟩, .string ⟨#[]⟩] 37) = V) := hV
        have KV : V.heap[w2.heap.size]? = some (.cells #[.bool false, .string nm, .string ⟨#[]⟩, .string ⟨#[]⟩] 37 (0, 0)) := by rw [← hV]; exact World.alloc_heap_new _ _
        have KV0 : V.heap[w.heap.size]? = some (.cells #[.bool false, .string ⟨#[]⟩, .string ⟨#[]⟩, .string ⟨#[]⟩] 37 (0, 0)) := by rw [← hV]; exact (Below.heap_alloc _ _ _ (by omega)).trans HB2
        have bV : Below w.heap.size w V := by rw [← hV]; exact bw2.alloc bw2.size _
        have hl2v : w2.heap.size < V.heap.size := (Array.getElem?_eq_some_iff.1 KV).1
        have hlV : w.heap.size < V.heap.size := by omega
        clear hV b2
        have HKV : Hid (V.heap[w2.heap.size]? = _) := KV
        have HKV0 : Hid (V.heap[w.heap.size]? = _) := KV0
        clear KV KV0 HB2
        have hgo := goes_on h0 HPR.out HZ.out (by rw [HEN.out, HTX.out]; exact HHB.out)
        rw [HEN.out, HTX.out] at hgo
        have HLF : Hid (SaysI s.data.toList false nm ⟨#[]⟩ ⟨#[]⟩ tl.data.toList) := leafI HRR.out HZ.out HD.out HNM.out HTL.out HHB.out
        go_wp2_with (go_at_call 47; try rw [← htR]; rw [HV.out]; refine (cQ _).mono ?_; rintro e w9 ⟨rfl, hw9⟩; have hw8 := hw9.symm; clear hw9; subst hw8)
        try rw [HV.out]
        refine wp_region_held_drew (S := fun W => W.cell? ⟨w2.heap.size, 0, none⟩ = some (.bool false) ∧ W.cell? ⟨w2.heap.size, 1, none⟩ = some (.string nm) ∧ W.cell? ⟨w2.heap.size, 2, none⟩ = some (.string ⟨#[]⟩) ∧ W.cell? ⟨w2.heap.size, 3, none⟩ = some (.string ⟨#[]⟩)) (by kernel_rfl) ?_ (fun hHeld => ?_)
        · exact four_cells HKV.out
        obtain ⟨U, hU⟩ : ∃ U, V.drew = U := ⟨_, rfl⟩
        have U0 : U.heap[w.heap.size]? = some (.cells #[.bool false, .string ⟨#[]⟩, .string ⟨#[]⟩, .string ⟨#[]⟩] 37 (0, 0)) := by rw [← hU]; exact HKV0.out
        have bU : Below w.heap.size w U := by rw [← hU]; exact bV.drew
        rw [hU] at hHeld ⊢
        clear hU bV
        obtain ⟨q0, q1, q2, q3⟩ := four_cells U0
        have f2 : ∀ i, U.frozen? ⟨w.heap.size, i, none⟩ = false := fun i => by simp [World.frozen?, U0]
        refine wpAnyH_take (i := 0) (v := ?_) rfl (by kernel_rfl) (by kernel_rfl) (by kernel_rfl) (fun _ _ _ h => h) (Or.inl ⟨by rfl, ?takeYlo0000⟩) (by assumption) ?takeRlo0000
        case takeYlo0000 => (intro w hSw; (try dsimp only at hSw); go_simp; try (with_reducible rfl))
        simp only [Act.put, List.setIfInBounds_toArray, List.set_cons_zero, List.set_cons_succ, List.getElem_toArray, List.getElem_cons_zero]
        refine wpAnyH_take (i := 1) (v := ?_) rfl (by kernel_rfl) (by kernel_rfl) (by kernel_rfl) (fun _ _ _ h => h) (Or.inl ⟨by rfl, ?takeYlo0001⟩) (by assumption) ?takeRlo0001
        case takeYlo0001 => (intro w hSw; (try dsimp only at hSw); go_simp; try (with_reducible rfl))
        simp only [Act.put, List.setIfInBounds_toArray, List.set_cons_zero, List.set_cons_succ, List.getElem_toArray, List.getElem_cons_zero, List.getElem_cons_succ]
        refine wpAnyH_take (i := 2) (v := ?_) rfl (by kernel_rfl) (by kernel_rfl) (by kernel_rfl) (fun _ _ _ h => h) (Or.inl ⟨by rfl, ?takeYlo0002⟩) (by assumption) ?takeRlo0002
        case takeYlo0002 => (intro w hSw; (try dsimp only at hSw); go_simp; try (with_reducible rfl))
        simp only [Act.put, List.setIfInBounds_toArray, List.set_cons_zero, List.set_cons_succ, List.getElem_toArray, List.getElem_cons_zero, List.getElem_cons_succ]
        refine wpAnyH_take (i := 3) (v := ?_) rfl (by kernel_rfl) (by kernel_rfl) (by kernel_rfl) (fun _ _ _ h => h) (Or.inl ⟨by rfl, ?takeYlo0003⟩) (by assumption) ?takeRlo0003
        case takeYlo0003 => (intro w hSw; (try dsimp only at hSw); go_simp; try (with_reducible rfl))
        simp only [Act.put, List.setIfInBounds_toArray, List.set_cons_zero, List.set_cons_succ, List.getElem_toArray, List.getElem_cons_zero, List.getElem_cons_succ]
        have HH : Hid (U.cell? ⟨w2.heap.size, 0, none⟩ = some (.bool false) ∧ U.cell? ⟨w2.heap.size, 1, none⟩ = some (.string nm) ∧ U.cell? ⟨w2.heap.size, 2, none⟩ = some (.string ⟨#[]⟩) ∧ U.cell? ⟨w2.heap.size, 3, none⟩ = some (.string ⟨#[]⟩)) := hHeld
        clear hHeld
        refine wpAnyH_ready (rs := [4]) (by kernel_rfl) (by simp) ?_
        refine AllReadyH.cons rfl (fun K hK => ?_) AllReadyH.nil
        go_simp
        refine hK.out _ _ ⟨by rw [four_far _ _ _ _ (by omega)]; exact HH.out.1, by rw [four_far _ _ _ _ (by omega)]; exact HH.out.2.1, by rw [four_far _ _ _ _ (by omega)]; exact HH.out.2.2.1, by rw [four_far _ _ _ _ (by omega)]; exact HH.out.2.2.2⟩ (fun hHeld => ?_)
        clear hK K
        try simp only [Act.put, List.setIfInBounds_toArray, List.set_cons_zero, List.set_cons_succ, List.getElem_toArray, List.getElem_cons_zero, List.getElem_cons_succ]
        refine wpAnyH_take (i := 5) (v := ?_) rfl (by kernel_rfl) (by kernel_rfl) (by kernel_rfl) (fun _ _ _ h => h) (Or.inl ⟨by rfl, ?takeYlo000z5⟩) (by assumption) ?takeRlo000z5
        case takeYlo000z5 => (intro w hSw; (try dsimp only at hSw); go_simp; try (with_reducible rfl))
        simp only [Act.put, List.setIfInBounds_toArray, List.set_cons_zero, List.set_cons_succ, List.getElem_toArray, List.getElem_cons_zero, List.getElem_cons_succ]
        refine wpAnyH_done (by kernel_rfl) ?_ _
        clear hHeld HH
        go_wp2_with fail
        exact bodyPost_ret (v := .tuple #[.agg #[.bool false, .string nm, .string ⟨#[]⟩, .string ⟨#[]⟩], .string ByteArray.empty]) (by simp [results, Try.results35, go_sem, q0, q1, q2, q3]) rfl ⟨⟨false, nm, ⟨#[]⟩, ⟨#[]⟩, ByteArray.empty, rfl, hnz, Nat.zero_le _, Nat.zero_le _, by rw [← htR]; exact hgo, by rw [← htR]; exact HLF.out⟩, bs (bs (bs (bs bU _ _ _ (Nat.le_refl _)) _ _ _ (Nat.le_refl _)) _ _ _ (Nat.le_refl _)) _ _ _ (Nat.le_refl _)⟩
      · skip
        go_wp2_with fail
        refine (cN _).mono ?_
        rintro e w2 ⟨rfl, b2⟩
        have bw2 := bw1.trans (b2.mono bw1.size)
        have HB2 := (b2.block _ hl1).trans HB1.out
        have hl2 : w.heap.size < w2.heap.size := (Array.getElem?_eq_some_iff.1 HB2).1
        obtain ⟨V, hV⟩ : ∃ V, w2.alloc (.cells #[.bool false, .string nm, .string ⟨#[]⟩, .string ⟨#[]⟩] 37) = V := ⟨_, rfl⟩
        have HV : Hid (w2.alloc (.cells #[.bool false, .string nm, .string ⟨#[]⟩, .string ⟨#[]⟩] 37) = V) := hV
        have KV : V.heap[w2.heap.size]? = some (.cells #[.bool false, .string nm, .string ⟨#[]⟩, .string ⟨#[]⟩] 37 (0, 0)) := by rw [← hV]; exact World.alloc_heap_new _ _
        have KV0 : V.heap[w.heap.size]? = some (.cells #[.bool false, .string ⟨#[]⟩, .string ⟨#[]⟩, .string ⟨#[]⟩] 37 (0, 0)) := by rw [← hV]; exact (Below.heap_alloc _ _ _ (by omega)).trans HB2
        have bV : Below w.heap.size w V := by rw [← hV]; exact bw2.alloc bw2.size _
        have hl2v : w2.heap.size < V.heap.size := (Array.getElem?_eq_some_iff.1 KV).1
        have hlV : w.heap.size < V.heap.size := by omega
        clear hV b2
        exfalso
        have h := HHB.out
        rw [htR] at h
        revert h
        decide
    · skip
      have hd0 : ¬ (R2.size : Int) < 0 := by omega
      cases hb
      · skip
        go_wp2_with fail
        try rw [HNX.out]
        refine (cN _).mono ?_
        rintro e w2 ⟨rfl, b2⟩
        have bw2 := bw1.trans (b2.mono bw1.size)
        have HB2 := (b2.block _ hl1).trans HB1.out
        have hl2 : w.heap.size < w2.heap.size := (Array.getElem?_eq_some_iff.1 HB2).1
        obtain ⟨V, hV⟩ : ∃ V, w2.alloc (.cells #[.bool false, .string nm, .string ⟨#[]⟩, .string ⟨#[]⟩] 37) = V := ⟨_, rfl⟩
        have HV : Hid (w2.alloc (.cells #[.bool false, .string nm, .string ⟨#[]⟩, .string ⟨#[]⟩] 37) = V) := hV
        have KV : V.heap[w2.heap.size]? = some (.cells #[.bool false, .string nm, .string ⟨#[]⟩, .string ⟨#[]⟩] 37 (0, 0)) := by rw [← hV]; exact World.alloc_heap_new _ _
        have KV0 : V.heap[w.heap.size]? = some (.cells #[.bool false, .string ⟨#[]⟩, .string ⟨#[]⟩, .string ⟨#[]⟩] 37 (0, 0)) := by rw [← hV]; exact (Below.heap_alloc _ _ _ (by omega)).trans HB2
        have bV : Below w.heap.size w V := by rw [← hV]; exact bw2.alloc bw2.size _
        have hl2v : w2.heap.size < V.heap.size := (Array.getElem?_eq_some_iff.1 KV).1
        have hlV : w.heap.size < V.heap.size := by omega
        clear hV b2
        have HKV : Hid (V.heap[w2.heap.size]? = _) := KV
        have HKV0 : Hid (V.heap[w.heap.size]? = _) := KV0
        clear KV KV0 HB2
        have hgo := goes_on h0 HPR.out HZ.out (by rw [HEN.out, HTX.out]; exact HHB.out)
        rw [HEN.out, HTX.out] at hgo
        have HLF : Hid (SaysI s.data.toList false nm ⟨#[]⟩ ⟨#[]⟩ tl.data.toList) := leafI HRR.out HZ.out HD.out HNM.out HTL.out HHB.out
        go_wp2_with (go_at_call 47; try rw [HTX.out]; rw [HV.out]; refine (cQ _).mono ?_; rintro e w9 ⟨rfl, hw9⟩; have hw8 := hw9.symm; clear hw9; subst hw8)
        try rw [HV.out]
        refine wp_region_held_drew (S := fun W => W.cell? ⟨w2.heap.size, 0, none⟩ = some (.bool false) ∧ W.cell? ⟨w2.heap.size, 1, none⟩ = some (.string nm) ∧ W.cell? ⟨w2.heap.size, 2, none⟩ = some (.string ⟨#[]⟩) ∧ W.cell? ⟨w2.heap.size, 3, none⟩ = some (.string ⟨#[]⟩)) (by kernel_rfl) ?_ (fun hHeld => ?_)
        · exact four_cells HKV.out
        obtain ⟨U, hU⟩ : ∃ U, V.drew = U := ⟨_, rfl⟩
        have U0 : U.heap[w.heap.size]? = some (.cells #[.bool false, .string ⟨#[]⟩, .string ⟨#[]⟩, .string ⟨#[]⟩] 37 (0, 0)) := by rw [← hU]; exact HKV0.out
        have bU : Below w.heap.size w U := by rw [← hU]; exact bV.drew
        rw [hU] at hHeld ⊢
        clear hU bV
        obtain ⟨q0, q1, q2, q3⟩ := four_cells U0
        have f2 : ∀ i, U.frozen? ⟨w.heap.size, i, none⟩ = false := fun i => by simp [World.frozen?, U0]
        refine wpAnyH_take (i := 0) (v := ?_) rfl (by kernel_rfl) (by kernel_rfl) (by kernel_rfl) (fun _ _ _ h => h) (Or.inl ⟨by rfl, ?takeYlo0100⟩) (by assumption) ?takeRlo0100
        case takeYlo0100 => (intro w hSw; (try dsimp only at hSw); go_simp; try (with_reducible rfl))
        simp only [Act.put, List.setIfInBounds_toArray, List.set_cons_zero, List.set_cons_succ, List.getElem_toArray, List.getElem_cons_zero]
        refine wpAnyH_take (i := 1) (v := ?_) rfl (by kernel_rfl) (by kernel_rfl) (by kernel_rfl) (fun _ _ _ h => h) (Or.inl ⟨by rfl, ?takeYlo0101⟩) (by assumption) ?takeRlo0101
        case takeYlo0101 => (intro w hSw; (try dsimp only at hSw); go_simp; try (with_reducible rfl))
        simp only [Act.put, List.setIfInBounds_toArray, List.set_cons_zero, List.set_cons_succ, List.getElem_toArray, List.getElem_cons_zero, List.getElem_cons_succ]
        refine wpAnyH_take (i := 2) (v := ?_) rfl (by kernel_rfl) (by kernel_rfl) (by kernel_rfl) (fun _ _ _ h => h) (Or.inl ⟨by rfl, ?takeYlo0102⟩) (by assumption) ?takeRlo0102
        case takeYlo0102 => (intro w hSw; (try dsimp only at hSw); go_simp; try (with_reducible rfl))
        simp only [Act.put, List.setIfInBounds_toArray, List.set_cons_zero, List.set_cons_succ, List.getElem_toArray, List.getElem_cons_zero, List.getElem_cons_succ]
        refine wpAnyH_take (i := 3) (v := ?_) rfl (by kernel_rfl) (by kernel_rfl) (by kernel_rfl) (fun _ _ _ h => h) (Or.inl ⟨by rfl, ?takeYlo0103⟩) (by assumption) ?takeRlo0103
        case takeYlo0103 => (intro w hSw; (try dsimp only at hSw); go_simp; try (with_reducible rfl))
        simp only [Act.put, List.setIfInBounds_toArray, List.set_cons_zero, List.set_cons_succ, List.getElem_toArray, List.getElem_cons_zero, List.getElem_cons_succ]
        have HH : Hid (U.cell? ⟨w2.heap.size, 0, none⟩ = some (.bool false) ∧ U.cell? ⟨w2.heap.size, 1, none⟩ = some (.string nm) ∧ U.cell? ⟨w2.heap.size, 2, none⟩ = some (.string ⟨#[]⟩) ∧ U.cell? ⟨w2.heap.size, 3, none⟩ = some (.string ⟨#[]⟩)) := hHeld
        clear hHeld
        refine wpAnyH_ready (rs := [4]) (by kernel_rfl) (by simp) ?_
        refine AllReadyH.cons rfl (fun K hK => ?_) AllReadyH.nil
        go_simp
        refine hK.out _ _ ⟨by rw [four_far _ _ _ _ (by omega)]; exact HH.out.1, by rw [four_far _ _ _ _ (by omega)]; exact HH.out.2.1, by rw [four_far _ _ _ _ (by omega)]; exact HH.out.2.2.1, by rw [four_far _ _ _ _ (by omega)]; exact HH.out.2.2.2⟩ (fun hHeld => ?_)
        clear hK K
        try simp only [Act.put, List.setIfInBounds_toArray, List.set_cons_zero, List.set_cons_succ, List.getElem_toArray, List.getElem_cons_zero, List.getElem_cons_succ]
        refine wpAnyH_take (i := 5) (v := ?_) rfl (by kernel_rfl) (by kernel_rfl) (by kernel_rfl) (fun _ _ _ h => h) (Or.inl ⟨by rfl, ?takeYlo010z5⟩) (by assumption) ?takeRlo010z5
        case takeYlo010z5 => (intro w hSw; (try dsimp only at hSw); go_simp; try (with_reducible rfl))
        simp only [Act.put, List.setIfInBounds_toArray, List.set_cons_zero, List.set_cons_succ, List.getElem_toArray, List.getElem_cons_zero, List.getElem_cons_succ]
        refine wpAnyH_done (by kernel_rfl) ?_ _
        clear hHeld HH
        go_wp2_with fail
        exact bodyPost_ret (v := .tuple #[.agg #[.bool false, .string nm, .string ⟨#[]⟩, .string ⟨#[]⟩], .string (R2.extract en R2.size)]) (by simp [results, Try.results35, go_sem, q0, q1, q2, q3]) rfl ⟨⟨false, nm, ⟨#[]⟩, ⟨#[]⟩, (R2.extract en R2.size), rfl, hnz, Nat.zero_le _, Nat.zero_le _, by rw [HTX.out]; exact hgo, by rw [HTX.out]; exact HLF.out⟩, bs (bs (bs (bs bU _ _ _ (Nat.le_refl _)) _ _ _ (Nat.le_refl _)) _ _ _ (Nat.le_refl _)) _ _ _ (Nat.le_refl _)⟩
      · skip
        go_wp2_with fail
        try rw [HNX.out]
        refine (cN _).mono ?_
        rintro e w2 ⟨rfl, b2⟩
        have bw2 := bw1.trans (b2.mono bw1.size)
        have HB2 := (b2.block _ hl1).trans HB1.out
        have hl2 : w.heap.size < w2.heap.size := (Array.getElem?_eq_some_iff.1 HB2).1
        obtain ⟨V, hV⟩ : ∃ V, w2.alloc (.cells #[.bool false, .string nm, .string ⟨#[]⟩, .string ⟨#[]⟩] 37) = V := ⟨_, rfl⟩
        have HV : Hid (w2.alloc (.cells #[.bool false, .string nm, .string ⟨#[]⟩, .string ⟨#[]⟩] 37) = V) := hV
        have KV : V.heap[w2.heap.size]? = some (.cells #[.bool false, .string nm, .string ⟨#[]⟩, .string ⟨#[]⟩] 37 (0, 0)) := by rw [← hV]; exact World.alloc_heap_new _ _
        have KV0 : V.heap[w.heap.size]? = some (.cells #[.bool false, .string ⟨#[]⟩, .string ⟨#[]⟩, .string ⟨#[]⟩] 37 (0, 0)) := by rw [← hV]; exact (Below.heap_alloc _ _ _ (by omega)).trans HB2
        have bV : Below w.heap.size w V := by rw [← hV]; exact bw2.alloc bw2.size _
        have hl2v : w2.heap.size < V.heap.size := (Array.getElem?_eq_some_iff.1 KV).1
        have hlV : w.heap.size < V.heap.size := by omega
        clear hV b2
        have hq91 := starts_one HHB.out
        have hq1 := (hq91.2 rfl).1
        have hql := (hq91.2 rfl).2
        have hqe : q = tl.extract 1 tl.size := by
          refine bytes_same ?_
          rw [← HQ.out, bytes_list]
          unfold Lib.trimPrefix
          rw [show Lib.hasPrefix tl.data.toList (⟨#[91]⟩ : ByteArray).data.toList = true from HHB.out, if_pos rfl, drop_ext]
          rfl
        have hqz : q.size < s.size := by rw [hqe, ByteArray.size_extract]; omega
        have HQL : Hid (91 :: q.data.toList = R2.data.toList.drop (endI R2 (en : Int))) := (by rw [hqe, ← hql]; exact HTL.out : _)
        clear hq91 hql hqe
        obtain ⟨a, ha⟩ : ∃ a : ByteArray, ⟨(Lib.cut q.data.toList (⟨#[61, 39]⟩ : ByteArray).data.toList).1.toArray⟩ = a := ⟨_, rfl⟩
        obtain ⟨q2, hq2⟩ : ∃ q2 : ByteArray, ⟨(Lib.cut q.data.toList (⟨#[61, 39]⟩ : ByteArray).data.toList).2.1.toArray⟩ = q2 := ⟨_, rfl⟩
        obtain ⟨t, ht⟩ : ∃ t : ByteArray, ⟨(Lib.cut q2.data.toList (⟨#[39, 93]⟩ : ByteArray).data.toList).1.toArray⟩ = t := ⟨_, rfl⟩
        obtain ⟨b, hb⟩ : ∃ b : ByteArray, ⟨(Lib.cut q2.data.toList (⟨#[39, 93]⟩ : ByteArray).data.toList).2.1.toArray⟩ = b := ⟨_, rfl⟩
        have la : a.data.toList = (Lib.cut q.data.toList [61, 39]).1 := by rw [← ha, bytes_list]
        have lq : q2.data.toList = (Lib.cut q.data.toList [61, 39]).2.1 := by rw [← hq2, bytes_list]
        have lt9 : t.data.toList = (Lib.cut q2.data.toList [39, 93]).1 := by rw [← ht, bytes_list]
        have lb : b.data.toList = (Lib.cut q2.data.toList [39, 93]).2.1 := by rw [← hb, bytes_list]
        have g1 := cut_len q.data.toList [61, 39]
        have g2 := cut_len q2.data.toList [39, 93]
        rw [← la, ← lq] at g1
        rw [← lt9, ← lb] at g2
        have s1 : q.data.toList.length = q.size := rfl
        have s2 : a.data.toList.length = a.size := rfl
        have s3 : q2.data.toList.length = q2.size := rfl
        have s4 : t.data.toList.length = t.size := rfl
        have s5 : b.data.toList.length = b.size := rfl
        rw [s1, s2, s3] at g1
        rw [s3, s4, s5] at g2
        have HLF : Hid (SaysI s.data.toList false nm a t b.data.toList) := (by rw [lb, lq]; exact leafJ HRR.out HZ.out HD.out HNM.out HQL.out la (by rw [lt9, lq]) : _)
        have c1 := fun W h => Try.strings_Cut q ⟨#[61, 39]⟩ m W (by omega) h
        have c2 := fun W h => Try.strings_Cut q2 ⟨#[39, 93]⟩ m W (by omega) h
        rw [ha, hq2] at c1
        rw [ht, hb] at c2
        have cA := fun W => clone_str a W (by omega)
        have cT9 := fun W => clone_str t W (by omega)
        clear ha hq2 ht hb la lq lt9 lb s1 s2 s3 s4 s5
        have HKV : Hid (V.heap[w2.heap.size]? = _) := KV
        have HKV0 : Hid (V.heap[w.heap.size]? = _) := KV0
        clear KV KV0 HB2
        go_wp2_with (go_at_call 47; try rw [HTX.out]; rw [HV.out]; refine (cQ _).mono ?_; rintro e w9 ⟨rfl, hw9⟩; have hw8 := hw9.symm; clear hw9; subst hw8)
        try rw [HV.out]
        refine (c1 _ (HM.out _ bV)).mono ?_
        rintro e w3 ⟨rfl, n3, hw3⟩
        have b3 : Below V.heap.size V w3 := by rw [hw3]; exact below_drewN _ _
        have bw3 := bV.trans (b3.mono bV.size)
        clear hw3
        go_wp2_with fail
        refine (c2 _ (HM.out _ bw3)).mono ?_
        rintro e w4 ⟨rfl, n4, hw4⟩
        have b4 : Below w3.heap.size w3 w4 := by rw [hw4]; exact below_drewN _ _
        have bw4 := bw3.trans (b4.mono bw3.size)
        clear hw4
        go_wp2_with fail
        refine (cA _).mono ?_
        rintro e w5 ⟨rfl, b5⟩
        have bw5 := bw4.trans (b5.mono bw4.size)
        go_wp2_with fail
        refine (cT9 _).mono ?_
        rintro e w6 ⟨rfl, b6⟩
        have bw6 := bw5.trans (b6.mono bw5.size)
        have b36 : Below V.heap.size V w6 := ((b3.trans (b4.mono b3.size)).trans (b5.mono (Nat.le_trans b3.size b4.size))).trans (b6.mono (Nat.le_trans (Nat.le_trans b3.size b4.size) b5.size))
        have K6 := (b36.block w2.heap.size hl2v).trans HKV.out
        have K60 := (b36.block w.heap.size hlV).trans HKV0.out
        have hl6 := b36.size
        clear b3 b4 b5 b6 b36 c1 c2 cA cT9
        obtain ⟨q0, q1, q2x, q3⟩ := four_cells K60
        obtain ⟨z0, z1, z2, z3⟩ := four_cells K6
        have f2 : ∀ i, w6.frozen? ⟨w.heap.size, i, none⟩ = false := fun i => by simp [World.frozen?, K60]
        have f3 : ∀ i, w6.frozen? ⟨w2.heap.size, i, none⟩ = false := fun i => by simp [World.frozen?, K6]
        have hn1 : ¬ w2.heap.size = w.heap.size := by omega
        have hn2 : ¬ w.heap.size = w2.heap.size := by omega
        go_wp2_with fail
        exact bodyPost_ret (v := .tuple #[.agg #[.bool false, .string nm, .string a, .string t], .string b]) (by simp [results, Try.results35, go_sem, q0, q1, q2x, q3, z0, z1, z2, z3, hn1, hn2]) rfl ⟨⟨false, nm, a, t, b, rfl, hnz, by omega, by omega, by omega, HLF.out⟩, bs (bs (bs (bs (bs (bs bw6 _ _ _ (by omega)) _ _ _ (by omega)) _ _ _ (Nat.le_refl _)) _ _ _ (Nat.le_refl _)) _ _ _ (Nat.le_refl _)) _ _ _ (Nat.le_refl _)⟩
  · have hrr := rest_true HD.out HR1.out
    have HRR : Hid (R1.data.toList = restI s.data.toList) := hrr.1
    have HPR : Hid (R1.size + 1 ≤ s.size ∨ (R1 = s ∧ ∀ q, s.data.toList ≠ 47 :: q)) := .inl hrr.2
    have hRs : R1.size ≤ s.size := by rcases HPR.out with h | ⟨h, _⟩ <;> first | omega | (rw [h]; exact Nat.le_refl _)
    have cI := fun W => indexAny_any R1 (by omega) W
    clear hrr
    go_enter Try.func35, Try.ntmps35
    go_wp2_with first
      | (go_at_call 47; refine (cP _).mono ?_; rintro e w1 ⟨rfl, rfl⟩)
      | (go_at_call 48; refine (cT _).mono ?_; rintro e w1 ⟨rfl, rfl⟩)
    refine (cI _).mono ?_
    rintro e w1 ⟨⟨z, rfl, hz⟩, b1⟩
    have b0 : Below w.heap.size w (w.alloc (.cells #[.bool false, .string ⟨#[]⟩, .string ⟨#[]⟩, .string ⟨#[]⟩] 37)) := (Below.refl _ w).alloc (Nat.le_refl _) _
    have bw1 := b0.trans (b1.mono b0.size)
    have HB1 : Hid (w1.heap[w.heap.size]? = some (.cells #[.bool false, .string ⟨#[]⟩, .string ⟨#[]⟩, .string ⟨#[]⟩] 37 (0, 0))) := (b1.block w.heap.size (by simp)).trans (World.alloc_heap_new w _)
    have hl1 : w.heap.size < w1.heap.size := (Array.getElem?_eq_some_iff.1 HB1.out).1
    have HZ : Hid (AnyAt R1 z) := hz
    have hel := end_le hz
    obtain ⟨en, hen⟩ : ∃ en, endI R1 z = en := ⟨_, rfl⟩
    have HEN : Hid (endI R1 z = en) := hen
    rw [hen] at hel
    have hzc : (z < 0 ∧ en = R1.size) ∨ (¬ z < 0 ∧ z = (en : Int)) := by
      rw [← hen]; unfold endI
      by_cases h : z < 0
      · exact .inl ⟨h, by rw [if_pos h]⟩
      · exact .inr ⟨h, by rw [if_neg h]; omega⟩
    obtain ⟨nm, hnm⟩ : ∃ nm, R1.extract 0 en = nm := ⟨_, rfl⟩
    obtain ⟨tl, htl⟩ : ∃ tl, R1.extract en R1.size = tl := ⟨_, rfl⟩
    have hnz : nm.size ≤ s.size := by rw [← hnm, ByteArray.size_extract]; omega
    have htz : tl.size ≤ s.size := by rw [← htl, ByteArray.size_extract]; omega
    have HNM : Hid (nm.data.toList = R1.data.toList.take (endI R1 z)) := (by rw [hen, ← hnm]; exact take_ext _ _ : nm.data.toList = R1.data.toList.take (endI R1 z))
    have HTL : Hid (tl.data.toList = R1.data.toList.drop (endI R1 z)) := (by rw [hen, ← htl]; exact drop_ext _ _ : tl.data.toList = R1.data.toList.drop (endI R1 z))
    have HNX : Hid (R1.extract 0 en = nm) := hnm
    have HTX : Hid (R1.extract en R1.size = tl) := htl
    have cN := fun W => clone_str nm W (by omega)
    have cQ := fun W => Try.strings_CutPrefix tl ⟨#[91]⟩ W
    obtain ⟨hb, hhb⟩ : ∃ hb, Lib.hasPrefix tl.data.toList (⟨#[91]⟩ : ByteArray).data.toList = hb := ⟨_, rfl⟩
    obtain ⟨q, hq⟩ : ∃ q : ByteArray, ⟨(Lib.trimPrefix tl.data.toList (⟨#[91]⟩ : ByteArray).data.toList).toArray⟩ = q := ⟨_, rfl⟩
    rw [hhb, hq] at cQ
    have HHB : Hid (Lib.hasPrefix tl.data.toList (⟨#[91]⟩ : ByteArray).data.toList = hb) := hhb
    have HQ : Hid (⟨(Lib.trimPrefix tl.data.toList (⟨#[91]⟩ : ByteArray).data.toList).toArray⟩ = q) := hq
    clear hz hen hnm htl b1 hhb hq cP cT cI
    have heI : (en : Int) ≤ (R1.size : Int) := by omega
    rcases hzc with ⟨hz0, hze⟩ | ⟨hz0, rfl⟩
    · subst hze
      have hnR : nm = R1 := by rw [← HNX.out]; exact ByteArray.extract_zero_size
      have htR : tl = ByteArray.empty := by
        have h9 : tl.size = 0 := by rw [← HTX.out, ByteArray.size_extract]; omega
        exact size_empty tl h9
      subst hnR
      have hd0 : ¬ (nm.size : Int) < 0 := by omega
      cases hb
      · skip
        go_wp2_with fail
        refine (cN _).mono ?_
        rintro e w2 ⟨rfl, b2⟩
        have bw2 := bw1.trans (b2.mono bw1.size)
        have HB2 := (b2.block _ hl1).trans HB1.out
        have hl2 : w.heap.size < w2.heap.size := (Array.getElem?_eq_some_iff.1 HB2).1
        obtain ⟨V, hV⟩ : ∃ V, w2.alloc (.cells #[.bool true, .string nm, .string ⟨#[]⟩, .string ⟨#[]⟩] 37) = V := ⟨_, rfl⟩
        have HV : Hid (w2.alloc (.cells #[.bool true, .string nm, .string ⟨#[]⟩, .string ⟨#[]⟩] 37) = V) := hV
        have KV : V.heap[w2.heap.size]? = some (.cells #[.bool true, .string nm, .string ⟨#[]⟩, .string ⟨#[]⟩] 37 (0, 0)) := by rw [← hV]; exact World.alloc_heap_new _ _
        have KV0 : V.heap[w.heap.size]? = some (.cells #[.bool false, .string ⟨#[]⟩, .string ⟨#[]⟩, .string ⟨#[]⟩] 37 (0, 0)) := by rw [← hV]; exact (Below.heap_alloc _ _ _ (by omega)).trans HB2
        have bV : Below w.heap.size w V := by rw [← hV]; exact bw2.alloc bw2.size _
        have hl2v : w2.heap.size < V.heap.size := (Array.getElem?_eq_some_iff.1 KV).1
        have hlV : w.heap.size < V.heap.size := by omega
        clear hV b2
        have HKV : Hid (V.heap[w2.heap.size]? = _) := KV
        have HKV0 : Hid (V.heap[w.heap.size]? = _) := KV0
        clear KV KV0 HB2
        have hgo := goes_on h0 HPR.out HZ.out (by rw [HEN.out, HTX.out]; exact HHB.out)
        rw [HEN.out, HTX.out] at hgo
        have HLF : Hid (SaysI s.data.toList true nm ⟨#[]⟩ ⟨#[]⟩ tl.data.toList) := leafI HRR.out HZ.out HD.out HNM.out HTL.out HHB.out
        go_wp2_with (go_at_call 47; try rw [← htR]; rw [HV.out]; refine (cQ _).mono ?_; rintro e w9 ⟨rfl, hw9⟩; have hw8 := hw9.symm; clear hw9; subst hw8)
        try rw [HV.out]
        refine wp_region_held_drew (S := fun W => W.cell? ⟨w2.heap.size, 0, none⟩ = some (.bool true) ∧ W.cell? ⟨w2.heap.size, 1, none⟩ = some (.string nm) ∧ W.cell? ⟨w2.heap.size, 2, none⟩ = some (.string ⟨#[]⟩) ∧ W.cell? ⟨w2.heap.size, 3, none⟩ = some (.string ⟨#[]⟩)) (by kernel_rfl) ?_ (fun hHeld => ?_)
        · exact four_cells HKV.out
        obtain ⟨U, hU⟩ : ∃ U, V.drew = U := ⟨_, rfl⟩
        have U0 : U.heap[w.heap.size]? = some (.cells #[.bool false, .string ⟨#[]⟩, .string ⟨#[]⟩, .string ⟨#[]⟩] 37 (0, 0)) := by rw [← hU]; exact HKV0.out
        have bU : Below w.heap.size w U := by rw [← hU]; exact bV.drew
        rw [hU] at hHeld ⊢
        clear hU bV
        obtain ⟨q0, q1, q2, q3⟩ := four_cells U0
        have f2 : ∀ i, U.frozen? ⟨w.heap.size, i, none⟩ = false := fun i => by simp [World.frozen?, U0]
        refine wpAnyH_take (i := 0) (v := ?_) rfl (by kernel_rfl) (by kernel_rfl) (by kernel_rfl) (fun _ _ _ h => h) (Or.inl ⟨by rfl, ?takeYlo1000⟩) (by assumption) ?takeRlo1000
        case takeYlo1000 => (intro w hSw; (try dsimp only at hSw); go_simp; try (with_reducible rfl))
        simp only [Act.put, List.setIfInBounds_toArray, List.set_cons_zero, List.set_cons_succ, List.getElem_toArray, List.getElem_cons_zero]
        refine wpAnyH_take (i := 1) (v := ?_) rfl (by kernel_rfl) (by kernel_rfl) (by kernel_rfl) (fun _ _ _ h => h) (Or.inl ⟨by rfl, ?takeYlo1001⟩) (by assumption) ?takeRlo1001
        case takeYlo1001 => (intro w hSw; (try dsimp only at hSw); go_simp; try (with_reducible rfl))
        simp only [Act.put, List.setIfInBounds_toArray, List.set_cons_zero, List.set_cons_succ, List.getElem_toArray, List.getElem_cons_zero, List.getElem_cons_succ]
        refine wpAnyH_take (i := 2) (v := ?_) rfl (by kernel_rfl) (by kernel_rfl) (by kernel_rfl) (fun _ _ _ h => h) (Or.inl ⟨by rfl, ?takeYlo1002⟩) (by assumption) ?takeRlo1002
        case takeYlo1002 => (intro w hSw; (try dsimp only at hSw); go_simp; try (with_reducible rfl))
        simp only [Act.put, List.setIfInBounds_toArray, List.set_cons_zero, List.set_cons_succ, List.getElem_toArray, List.getElem_cons_zero, List.getElem_cons_succ]
        refine wpAnyH_take (i := 3) (v := ?_) rfl (by kernel_rfl) (by kernel_rfl) (by kernel_rfl) (fun _ _ _ h => h) (Or.inl ⟨by rfl, ?takeYlo1003⟩) (by assumption) ?takeRlo1003
        case takeYlo1003 => (intro w hSw; (try dsimp only at hSw); go_simp; try (with_reducible rfl))
        simp only [Act.put, List.setIfInBounds_toArray, List.set_cons_zero, List.set_cons_succ, List.getElem_toArray, List.getElem_cons_zero, List.getElem_cons_succ]
        have HH : Hid (U.cell? ⟨w2.heap.size, 0, none⟩ = some (.bool true) ∧ U.cell? ⟨w2.heap.size, 1, none⟩ = some (.string nm) ∧ U.cell? ⟨w2.heap.size, 2, none⟩ = some (.string ⟨#[]⟩) ∧ U.cell? ⟨w2.heap.size, 3, none⟩ = some (.string ⟨#[]⟩)) := hHeld
        clear hHeld
        refine wpAnyH_ready (rs := [4]) (by kernel_rfl) (by simp) ?_
        refine AllReadyH.cons rfl (fun K hK => ?_) AllReadyH.nil
        go_simp
        refine hK.out _ _ ⟨by rw [four_far _ _ _ _ (by omega)]; exact HH.out.1, by rw [four_far _ _ _ _ (by omega)]; exact HH.out.2.1, by rw [four_far _ _ _ _ (by omega)]; exact HH.out.2.2.1, by rw [four_far _ _ _ _ (by omega)]; exact HH.out.2.2.2⟩ (fun hHeld => ?_)
        clear hK K
        try simp only [Act.put, List.setIfInBounds_toArray, List.set_cons_zero, List.set_cons_succ, List.getElem_toArray, List.getElem_cons_zero, List.getElem_cons_succ]
        refine wpAnyH_take (i := 5) (v := ?_) rfl (by kernel_rfl) (by kernel_rfl) (by kernel_rfl) (fun _ _ _ h => h) (Or.inl ⟨by rfl, ?takeYlo100z5⟩) (by assumption) ?takeRlo100z5
        case takeYlo100z5 => (intro w hSw; (try dsimp only at hSw); go_simp; try (with_reducible rfl))
        simp only [Act.put, List.setIfInBounds_toArray, List.set_cons_zero, List.set_cons_succ, List.getElem_toArray, List.getElem_cons_zero, List.getElem_cons_succ]
        refine wpAnyH_done (by kernel_rfl) ?_ _
        clear hHeld HH
        go_wp2_with fail
        exact bodyPost_ret (v := .tuple #[.agg #[.bool true, .string nm, .string ⟨#[]⟩, .string ⟨#[]⟩], .string ByteArray.empty]) (by simp [results, Try.results35, go_sem, q0, q1, q2, q3]) rfl ⟨⟨true, nm, ⟨#[]⟩, ⟨#[]⟩, ByteArray.empty, rfl, hnz, Nat.zero_le _, Nat.zero_le _, by rw [← htR]; exact hgo, by rw [← htR]; exact HLF.out⟩, bs (bs (bs (bs bU _ _ _ (Nat.le_refl _)) _ _ _ (Nat.le_refl _)) _ _ _ (Nat.le_refl _)) _ _ _ (Nat.le_refl _)⟩
      · skip
        go_wp2_with fail
        refine (cN _).mono ?_
        rintro e w2 ⟨rfl, b2⟩
        have bw2 := bw1.trans (b2.mono bw1.size)
        have HB2 := (b2.block _ hl1).trans HB1.out
        have hl2 : w.heap.size < w2.heap.size := (Array.getElem?_eq_some_iff.1 HB2).1
        obtain ⟨V, hV⟩ : ∃ V, w2.alloc (.cells #[.bool true, .string nm, .string ⟨#[]⟩, .string ⟨#[]⟩] 37) = V := ⟨_, rfl⟩
        have HV : Hid (w2.alloc (.cells #[.bool true, .string nm, .string ⟨#[]⟩, .string ⟨#[]⟩] 37) = V) := hV
        have KV : V.heap[w2.heap.size]? = some (.cells #[.bool true, .string nm, .string ⟨#[]⟩, .string ⟨#[]⟩] 37 (0, 0)) := by rw [← hV]; exact World.alloc_heap_new _ _
        have KV0 : V.heap[w.heap.size]? = some (.cells #[.bool false, .string ⟨#[]⟩, .string ⟨#[]⟩, .string ⟨#[]⟩] 37 (0, 0)) := by rw [← hV]; exact (Below.heap_alloc _ _ _ (by omega)).trans HB2
        have bV : Below w.heap.size w V := by rw [← hV]; exact bw2.alloc bw2.size _
        have hl2v : w2.heap.size < V.heap.size := (Array.getElem?_eq_some_iff.1 KV).1
        have hlV : w.heap.size < V.heap.size := by omega
        clear hV b2
        exfalso
        have h := HHB.out
        rw [htR] at h
        revert h
        decide
    · skip
      have hd0 : ¬ (R1.size : Int) < 0 := by omega
      cases hb
      · skip
        go_wp2_with fail
        try rw [HNX.out]
        refine (cN _).mono ?_
        rintro e w2 ⟨rfl, b2⟩
        have bw2 := bw1.trans (b2.mono bw1.size)
        have HB2 := (b2.block _ hl1).trans HB1.out
        have hl2 : w.heap.size < w2.heap.size := (Array.getElem?_eq_some_iff.1 HB2).1
        obtain ⟨V, hV⟩ : ∃ V, w2.alloc (.cells #[.bool true, .string nm, .string ⟨#[]⟩, .string ⟨#[]⟩] 37) = V := ⟨_, rfl⟩
        have HV : Hid (w2.alloc (.cells #[.bool true, .string nm, .string ⟨#[]⟩, .string ⟨#[]⟩] 37) = V) := hV
        have KV : V.heap[w2.heap.size]? = some (.cells #[.bool true, .string nm, .string ⟨#[]⟩, .string ⟨#[]⟩] 37 (0, 0)) := by rw [← hV]; exact World.alloc_heap_new _ _
        have KV0 : V.heap[w.heap.size]? = some (.cells #[.bool false, .string ⟨#[]⟩, .string ⟨#[]⟩, .string ⟨#[]⟩] 37 (0, 0)) := by rw [← hV]; exact (Below.heap_alloc _ _ _ (by omega)).trans HB2
        have bV : Below w.heap.size w V := by rw [← hV]; exact bw2.alloc bw2.size _
        have hl2v : w2.heap.size < V.heap.size := (Array.getElem?_eq_some_iff.1 KV).1
        have hlV : w.heap.size < V.heap.size := by omega
        clear hV b2
        have HKV : Hid (V.heap[w2.heap.size]? = _) := KV
        have HKV0 : Hid (V.heap[w.heap.size]? = _) := KV0
        clear KV KV0 HB2
        have hgo := goes_on h0 HPR.out HZ.out (by rw [HEN.out, HTX.out]; exact HHB.out)
        rw [HEN.out, HTX.out] at hgo
        have HLF : Hid (SaysI s.data.toList true nm ⟨#[]⟩ ⟨#[]⟩ tl.data.toList) := leafI HRR.out HZ.out HD.out HNM.out HTL.out HHB.out
        go_wp2_with (go_at_call 47; try rw [HTX.out]; rw [HV.out]; refine (cQ _).mono ?_; rintro e w9 ⟨rfl, hw9⟩; have hw8 := hw9.symm; clear hw9; subst hw8)
        try rw [HV.out]
        refine wp_region_held_drew (S := fun W => W.cell? ⟨w2.heap.size, 0, none⟩ = some (.bool true) ∧ W.cell? ⟨w2.heap.size, 1, none⟩ = some (.string nm) ∧ W.cell? ⟨w2.heap.size, 2, none⟩ = some (.string ⟨#[]⟩) ∧ W.cell? ⟨w2.heap.size, 3, none⟩ = some (.string ⟨#[]⟩)) (by kernel_rfl) ?_ (fun hHeld => ?_)
        · exact four_cells HKV.out
        obtain ⟨U, hU⟩ : ∃ U, V.drew = U := ⟨_, rfl⟩
        have U0 : U.heap[w.heap.size]? = some (.cells #[.bool false, .string ⟨#[]⟩, .string ⟨#[]⟩, .string ⟨#[]⟩] 37 (0, 0)) := by rw [← hU]; exact HKV0.out
        have bU : Below w.heap.size w U := by rw [← hU]; exact bV.drew
        rw [hU] at hHeld ⊢
        clear hU bV
        obtain ⟨q0, q1, q2, q3⟩ := four_cells U0
        have f2 : ∀ i, U.frozen? ⟨w.heap.size, i, none⟩ = false := fun i => by simp [World.frozen?, U0]
        refine wpAnyH_take (i := 0) (v := ?_) rfl (by kernel_rfl) (by kernel_rfl) (by kernel_rfl) (fun _ _ _ h => h) (Or.inl ⟨by rfl, ?takeYlo1100⟩) (by assumption) ?takeRlo1100
        case takeYlo1100 => (intro w hSw; (try dsimp only at hSw); go_simp; try (with_reducible rfl))
        simp only [Act.put, List.setIfInBounds_toArray, List.set_cons_zero, List.set_cons_succ, List.getElem_toArray, List.getElem_cons_zero]
        refine wpAnyH_take (i := 1) (v := ?_) rfl (by kernel_rfl) (by kernel_rfl) (by kernel_rfl) (fun _ _ _ h => h) (Or.inl ⟨by rfl, ?takeYlo1101⟩) (by assumption) ?takeRlo1101
        case takeYlo1101 => (intro w hSw; (try dsimp only at hSw); go_simp; try (with_reducible rfl))
        simp only [Act.put, List.setIfInBounds_toArray, List.set_cons_zero, List.set_cons_succ, List.getElem_toArray, List.getElem_cons_zero, List.getElem_cons_succ]
        refine wpAnyH_take (i := 2) (v := ?_) rfl (by kernel_rfl) (by kernel_rfl) (by kernel_rfl) (fun _ _ _ h => h) (Or.inl ⟨by rfl, ?takeYlo1102⟩) (by assumption) ?takeRlo1102
        case takeYlo1102 => (intro w hSw; (try dsimp only at hSw); go_simp; try (with_reducible rfl))
        simp only [Act.put, List.setIfInBounds_toArray, List.set_cons_zero, List.set_cons_succ, List.getElem_toArray, List.getElem_cons_zero, List.getElem_cons_succ]
        refine wpAnyH_take (i := 3) (v := ?_) rfl (by kernel_rfl) (by kernel_rfl) (by kernel_rfl) (fun _ _ _ h => h) (Or.inl ⟨by rfl, ?takeYlo1103⟩) (by assumption) ?takeRlo1103
        case takeYlo1103 => (intro w hSw; (try dsimp only at hSw); go_simp; try (with_reducible rfl))
        simp only [Act.put, List.setIfInBounds_toArray, List.set_cons_zero, List.set_cons_succ, List.getElem_toArray, List.getElem_cons_zero, List.getElem_cons_succ]
        have HH : Hid (U.cell? ⟨w2.heap.size, 0, none⟩ = some (.bool true) ∧ U.cell? ⟨w2.heap.size, 1, none⟩ = some (.string nm) ∧ U.cell? ⟨w2.heap.size, 2, none⟩ = some (.string ⟨#[]⟩) ∧ U.cell? ⟨w2.heap.size, 3, none⟩ = some (.string ⟨#[]⟩)) := hHeld
        clear hHeld
        refine wpAnyH_ready (rs := [4]) (by kernel_rfl) (by simp) ?_
        refine AllReadyH.cons rfl (fun K hK => ?_) AllReadyH.nil
        go_simp
        refine hK.out _ _ ⟨by rw [four_far _ _ _ _ (by omega)]; exact HH.out.1, by rw [four_far _ _ _ _ (by omega)]; exact HH.out.2.1, by rw [four_far _ _ _ _ (by omega)]; exact HH.out.2.2.1, by rw [four_far _ _ _ _ (by omega)]; exact HH.out.2.2.2⟩ (fun hHeld => ?_)
        clear hK K
        try simp only [Act.put, List.setIfInBounds_toArray, List.set_cons_zero, List.set_cons_succ, List.getElem_toArray, List.getElem_cons_zero, List.getElem_cons_succ]
        refine wpAnyH_take (i := 5) (v := ?_) rfl (by kernel_rfl) (by kernel_rfl) (by kernel_rfl) (fun _ _ _ h => h) (Or.inl ⟨by rfl, ?takeYlo110z5⟩) (by assumption) ?takeRlo110z5
        case takeYlo110z5 => (intro w hSw; (try dsimp only at hSw); go_simp; try (with_reducible rfl))
        simp only [Act.put, List.setIfInBounds_toArray, List.set_cons_zero, List.set_cons_succ, List.getElem_toArray, List.getElem_cons_zero, List.getElem_cons_succ]
        refine wpAnyH_done (by kernel_rfl) ?_ _
        clear hHeld HH
        go_wp2_with fail
        exact bodyPost_ret (v := .tuple #[.agg #[.bool true, .string nm, .string ⟨#[]⟩, .string ⟨#[]⟩], .string (R1.extract en R1.size)]) (by simp [results, Try.results35, go_sem, q0, q1, q2, q3]) rfl ⟨⟨true, nm, ⟨#[]⟩, ⟨#[]⟩, (R1.extract en R1.size), rfl, hnz, Nat.zero_le _, Nat.zero_le _, by rw [HTX.out]; exact hgo, by rw [HTX.out]; exact HLF.out⟩, bs (bs (bs (bs bU _ _ _ (Nat.le_refl _)) _ _ _ (Nat.le_refl _)) _ _ _ (Nat.le_refl _)) _ _ _ (Nat.le_refl _)⟩
      · skip
        go_wp2_with fail
        try rw [HNX.out]
        refine (cN _).mono ?_
        rintro e w2 ⟨rfl, b2⟩
        have bw2 := bw1.trans (b2.mono bw1.size)
        have HB2 := (b2.block _ hl1).trans HB1.out
        have hl2 : w.heap.size < w2.heap.size := (Array.getElem?_eq_some_iff.1 HB2).1
        obtain ⟨V, hV⟩ : ∃ V, w2.alloc (.cells #[.bool true, .string nm, .string ⟨#[]⟩, .string ⟨#[]⟩] 37) = V := ⟨_, rfl⟩
        have HV : Hid (w2.alloc (.cells #[.bool true, .string nm, .string ⟨#[]⟩, .string ⟨#[]⟩] 37) = V) := hV
        have KV : V.heap[w2.heap.size]? = some (.cells #[.bool true, .string nm, .string ⟨#[]⟩, .string ⟨#[]⟩] 37 (0, 0)) := by rw [← hV]; exact World.alloc_heap_new _ _
        have KV0 : V.heap[w.heap.size]? = some (.cells #[.bool false, .string ⟨#[]⟩, .string ⟨#[]⟩, .string ⟨#[]⟩] 37 (0, 0)) := by rw [← hV]; exact (Below.heap_alloc _ _ _ (by omega)).trans HB2
        have bV : Below w.heap.size w V := by rw [← hV]; exact bw2.alloc bw2.size _
        have hl2v : w2.heap.size < V.heap.size := (Array.getElem?_eq_some_iff.1 KV).1
        have hlV : w.heap.size < V.heap.size := by omega
        clear hV b2
        have hq91 := starts_one HHB.out
        have hq1 := (hq91.2 rfl).1
        have hql := (hq91.2 rfl).2
        have hqe : q = tl.extract 1 tl.size := by
          refine bytes_same ?_
          rw [← HQ.out, bytes_list]
          unfold Lib.trimPrefix
          rw [show Lib.hasPrefix tl.data.toList (⟨#[91]⟩ : ByteArray).data.toList = true from HHB.out, if_pos rfl, drop_ext]
          rfl
        have hqz : q.size < s.size := by rw [hqe, ByteArray.size_extract]; omega
        have HQL : Hid (91 :: q.data.toList = R1.data.toList.drop (endI R1 (en : Int))) := (by rw [hqe, ← hql]; exact HTL.out : _)
        clear hq91 hql hqe
        obtain ⟨a, ha⟩ : ∃ a : ByteArray, ⟨(Lib.cut q.data.toList (⟨#[61, 39]⟩ : ByteArray).data.toList).1.toArray⟩ = a := ⟨_, rfl⟩
        obtain ⟨q2, hq2⟩ : ∃ q2 : ByteArray, ⟨(Lib.cut q.data.toList (⟨#[61, 39]⟩ : ByteArray).data.toList).2.1.toArray⟩ = q2 := ⟨_, rfl⟩
        obtain ⟨t, ht⟩ : ∃ t : ByteArray, ⟨(Lib.cut q2.data.toList (⟨#[39, 93]⟩ : ByteArray).data.toList).1.toArray⟩ = t := ⟨_, rfl⟩
        obtain ⟨b, hb⟩ : ∃ b : ByteArray, ⟨(Lib.cut q2.data.toList (⟨#[39, 93]⟩ : ByteArray).data.toList).2.1.toArray⟩ = b := ⟨_, rfl⟩
        have la : a.data.toList = (Lib.cut q.data.toList [61, 39]).1 := by rw [← ha, bytes_list]
        have lq : q2.data.toList = (Lib.cut q.data.toList [61, 39]).2.1 := by rw [← hq2, bytes_list]
        have lt9 : t.data.toList = (Lib.cut q2.data.toList [39, 93]).1 := by rw [← ht, bytes_list]
        have lb : b.data.toList = (Lib.cut q2.data.toList [39, 93]).2.1 := by rw [← hb, bytes_list]
        have g1 := cut_len q.data.toList [61, 39]
        have g2 := cut_len q2.data.toList [39, 93]
        rw [← la, ← lq] at g1
        rw [← lt9, ← lb] at g2
        have s1 : q.data.toList.length = q.size := rfl
        have s2 : a.data.toList.length = a.size := rfl
        have s3 : q2.data.toList.length = q2.size := rfl
        have s4 : t.data.toList.length = t.size := rfl
        have s5 : b.data.toList.length = b.size := rfl
        rw [s1, s2, s3] at g1
        rw [s3, s4, s5] at g2
        have HLF : Hid (SaysI s.data.toList true nm a t b.data.toList) := (by rw [lb, lq]; exact leafJ HRR.out HZ.out HD.out HNM.out HQL.out la (by rw [lt9, lq]) : _)
        have c1 := fun W h => Try.strings_Cut q ⟨#[61, 39]⟩ m W (by omega) h
        have c2 := fun W h => Try.strings_Cut q2 ⟨#[39, 93]⟩ m W (by omega) h
        rw [ha, hq2] at c1
        rw [ht, hb] at c2
        have cA := fun W => clone_str a W (by omega)
        have cT9 := fun W => clone_str t W (by omega)
        clear ha hq2 ht hb la lq lt9 lb s1 s2 s3 s4 s5
        have HKV : Hid (V.heap[w2.heap.size]? = _) := KV
        have HKV0 : Hid (V.heap[w.heap.size]? = _) := KV0
        clear KV KV0 HB2
        go_wp2_with (go_at_call 47; try rw [HTX.out]; rw [HV.out]; refine (cQ _).mono ?_; rintro e w9 ⟨rfl, hw9⟩; have hw8 := hw9.symm; clear hw9; subst hw8)
        try rw [HV.out]
        refine (c1 _ (HM.out _ bV)).mono ?_
        rintro e w3 ⟨rfl, n3, hw3⟩
        have b3 : Below V.heap.size V w3 := by rw [hw3]; exact below_drewN _ _
        have bw3 := bV.trans (b3.mono bV.size)
        clear hw3
        go_wp2_with fail
        refine (c2 _ (HM.out _ bw3)).mono ?_
        rintro e w4 ⟨rfl, n4, hw4⟩
        have b4 : Below w3.heap.size w3 w4 := by rw [hw4]; exact below_drewN _ _
        have bw4 := bw3.trans (b4.mono bw3.size)
        clear hw4
        go_wp2_with fail
        refine (cA _).mono ?_
        rintro e w5 ⟨rfl, b5⟩
        have bw5 := bw4.trans (b5.mono bw4.size)
        go_wp2_with fail
        refine (cT9 _).mono ?_
        rintro e w6 ⟨rfl, b6⟩
        have bw6 := bw5.trans (b6.mono bw5.size)
        have b36 : Below V.heap.size V w6 := ((b3.trans (b4.mono b3.size)).trans (b5.mono (Nat.le_trans b3.size b4.size))).trans (b6.mono (Nat.le_trans (Nat.le_trans b3.size b4.size) b5.size))
        have K6 := (b36.block w2.heap.size hl2v).trans HKV.out
        have K60 := (b36.block w.heap.size hlV).trans HKV0.out
        have hl6 := b36.size
        clear b3 b4 b5 b6 b36 c1 c2 cA cT9
        obtain ⟨q0, q1, q2x, q3⟩ := four_cells K60
        obtain ⟨z0, z1, z2, z3⟩ := four_cells K6
        have f2 : ∀ i, w6.frozen? ⟨w.heap.size, i, none⟩ = false := fun i => by simp [World.frozen?, K60]
        have f3 : ∀ i, w6.frozen? ⟨w2.heap.size, i, none⟩ = false := fun i => by simp [World.frozen?, K6]
        have hn1 : ¬ w2.heap.size = w.heap.size := by omega
        have hn2 : ¬ w.heap.size = w2.heap.size := by omega
        go_wp2_with fail
        exact bodyPost_ret (v := .tuple #[.agg #[.bool true, .string nm, .string a, .string t], .string b]) (by simp [results, Try.results35, go_sem, q0, q1, q2x, q3, z0, z1, z2, z3, hn1, hn2]) rfl ⟨⟨true, nm, a, t, b, rfl, hnz, by omega, by omega, by omega, HLF.out⟩, bs (bs (bs (bs (bs (bs bw6 _ _ _ (by omega)) _ _ _ (by omega)) _ _ _ (Nat.le_refl _)) _ _ _ (Nat.le_refl _)) _ _ _ (Nat.le_refl _)) _ _ _ (Nat.le_refl _)⟩
end Go.Proofs.Ytocpbcghkphcgaa.Hub
