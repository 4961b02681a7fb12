/-
  spec.l6Ranked: ranks with one of a user, in order.
-/
import Derived.Test.YtgjlgddglgffmaaGreatDoorAppS
import Derived.Test.YtgjlgddglgffmaaGreatDoorRoomImplC
namespace Go.Proofs.YtgjlgddglgffmaaGreatDoor.Hub
open Go.RowKit
set_option linter.unusedVariables false

/-- A place is left out, is another one, comes in. -/
def cutAt {α : Type} (p : Nat) (U : Nat → α) : Nat → α := fun j => if j < p then U j else U (j + 1)
def putAt {α : Type} (p : Nat) (x : α) (U : Nat → α) : Nat → α := fun j => if j = p then x else U j
def insAt {α : Type} (p : Nat) (x : α) (U : Nat → α) : Nat → α := fun j => if j < p then U j else if j = p then x else U (j - 1)
/-- How many ranks there are behind it, whose, and which. -/
def rankN (z p : Nat) (f d : Bool) : Nat := if d then (if f then z - 1 else z) else (if f then z else z + 1)
def rankU (p : Nat) (f d : Bool) (us : ByteArray) (KU : Nat → ByteArray) : Nat → ByteArray := if d then (if f then cutAt p KU else KU) else (if f then KU else insAt p us KU)
def rankR (p : Nat) (f d : Bool) (nu : Int) (KR : Nat → Int) : Nat → Int := if d then (if f then cutAt p KR else KR) else (if f then putAt p nu KR else insAt p nu KR)
/-- How many of them stand there behind k steps. -/
def rankM (p k : Nat) (f d : Bool) : Nat := if d then (if f then (if k ≤ p then k else k - 1) else k) else (if f then k else (if k ≤ p then k else k + 1))
theorem rankM_push (p k : Nat) (f d : Bool) (hc : (d = true ∧ ¬ (f = true ∧ k = p)) ∨ (d = false ∧ k ≠ p)) : rankM p (k + 1) f d = rankM p k f d + 1 := by
  unfold rankM
  cases d <;> cases f <;> simp at hc ⊢ <;> (try split) <;> (try split) <;> omega
theorem rankM_skip (p : Nat) : rankM p (p + 1) true true = rankM p p true true := by
  unfold rankM
  simp
theorem rankM_mid (p : Nat) (f : Bool) : rankM p p f false = p := by
  unfold rankM
  cases f <;> simp
theorem rankM_end (z p : Nat) (f d : Bool) (hp : p ≤ z) (hf : f = true → p < z) (h : d = true ∨ p < z) : rankM p z f d = rankN z p f d := by
  unfold rankM rankN
  cases d <;> cases f <;> simp at h hf ⊢ <;> (try split) <;> omega
theorem rank_elem (p k : Nat) (f d : Bool) (us : ByteArray) (nu : Int) (KU : Nat → ByteArray) (KR : Nat → Int) (hc : (d = true ∧ ¬ (f = true ∧ k = p)) ∨ (d = false ∧ k ≠ p)) : rankU p f d us KU (rankM p k f d) = KU k ∧ rankR p f d nu KR (rankM p k f d) = KR k := by
  unfold rankM rankU rankR
  cases d <;> cases f <;> simp at hc ⊢
  · unfold insAt
    by_cases h : k < p
    · simp only [if_pos (show k ≤ p by omega), if_pos h]
      exact ⟨trivial, trivial⟩
    · simp only [if_neg (show ¬ k ≤ p by omega), if_neg (show ¬ k + 1 < p by omega), if_neg (show ¬ k + 1 = p by omega), Nat.add_sub_cancel]
      exact ⟨trivial, trivial⟩
  · unfold putAt
    rw [if_neg hc]
  · unfold cutAt
    by_cases h : k < p
    · simp only [if_pos (show k ≤ p by omega), if_pos h]
      exact ⟨trivial, trivial⟩
    · have e : k - 1 + 1 = k := by omega
      simp only [if_neg (show ¬ k ≤ p by omega), if_neg (show ¬ k - 1 < p by omega), e]
      exact ⟨trivial, trivial⟩
theorem rank_mid (p : Nat) (f : Bool) (us : ByteArray) (nu : Int) (KU : Nat → ByteArray) (KR : Nat → Int) (h : f = true → KU p = us) : rankU p f false us KU p = us ∧ rankR p f false nu KR p = nu := by
  unfold rankU rankR
  cases f <;> simp at h ⊢
  · unfold insAt
    simp
  · unfold putAt
    simp [h]
theorem rank_next (p : Nat) (us : ByteArray) (nu : Int) (KU : Nat → ByteArray) (KR : Nat → Int) : rankU p false false us KU (p + 1) = KU p ∧ rankR p false false nu KR (p + 1) = KR p := by
  unfold rankU rankR insAt
  simp only [↓reduceIte, Bool.false_eq_true, if_neg (show ¬ p + 1 < p by omega), if_neg (show ¬ p + 1 = p by omega), Nat.add_sub_cancel]
  exact ⟨trivial, trivial⟩
theorem same_bytes {a b : ByteArray} (h : (a.toList == b.toList) = true) : a = b := by
  have h1 : a.toList = b.toList := by simpa using h
  rw [Lib.toList_data, Lib.toList_data] at h1
  cases a; cases b
  simp only [Array.toList_inj] at h1
  rw [h1]
theorem two_cells (W : World) (u : ByteArray) (r : Int) (T : TypeId) : ListAt (W.alloc (.cells #[.string u, .int .i64 r] T)) 2 (.slice (some ⟨W.heap.size, 0, none⟩) 1 1) 1 (fun _ => [.string u, .int .i64 r]) := by
  refine ⟨_, _, rfl, Nat.le_refl _, by unfold maxLen; omega, fun j hj => ⟨_, _, rfl, by simp, fun i hi => ?_⟩⟩
  obtain rfl : j = 0 := by omega
  match i, hi with
  | 0, _ => simp
  | 1, _ => simp
theorem one_rank (u : ByteArray) (r : Int) : ∀ x ∈ rowVs (fun _ => [.string u, .int .i64 r]) 1, x.oneCell' = true := rowVs_mem (fun j x hx => by
  simp at hx
  rcases hx with rfl | rfl <;> rfl) 1
theorem own_push {W : World} {base : Nat} {T : TypeId} {s : Nat} {v : Value} {M : Nat} {g : Nat → List Value} {x : List Value} (h : W.ownsRow base T s v (M + 1) (rowVs g M ++ rowVs (fun _ => x) 1)) (e : x = g M) : OwnL W base T s v (M + 1) g := by
  unfold OwnL
  rw [rowVs_succ]
  have q : rowVs (fun _ => x) 1 = x := by simp [rowVs]
  rw [q, e] at h
  exact h

set_option maxRecDepth 100000 in
set_option maxHeartbeats 4000000 in
theorem l6Ranked_any (v : Value) (z : Nat) (KU : Nat → ByteArray) (KR : Nat → Int) (us : ByteArray) (nu : Int) (p : Nat) (f : Bool) (w : World) (hk : RankAt w v z KU KR) (hz : z ≤ 1048600) (hp : p ≤ z)
    (hlt : ∀ t, t < p → Op.bytesLess (KU t).toList us.toList = true) (hge : ∀ t, p ≤ t → t < z → Op.bytesLess (KU t).toList us.toList = false) (hne : ∀ t, t < z → (t ≠ p ∨ f = false) → ((KU t).toList == us.toList) = false) (hf : f = true → p < z ∧ ((KU p).toList == us.toList) = true) :
    Calls Tryz.prog 42 #[v, .string us, .int .i64 nu] w fun e w' => (∃ v', e = .returned v' ∧ OwnK w' w.heap.size v' (rankN z p f (decide (nu = 1))) (rankU p f (decide (nu = 1)) us KU) (rankR p f (decide (nu = 1)) nu KR)) ∧ Below w.heap.size w w' := by
  obtain ⟨ii, hii, hy0, hy1, hy2⟩ := info_parts info_rank
  have hk' := hk
  obtain ⟨o, cap, rfl, g1, g2', hc⟩ := hk'
  have g2 : cap ≤ 9223372036854775807 := g2'
  clear g2'
  have HC : Hid (∀ j, j < z → ∃ b f : Nat, o = some ⟨b, f, none⟩ ∧ b < w.heap.size ∧ w.cell? ⟨b, f + j * 2, none⟩ = some (.string (KU j)) ∧ w.cell? ⟨b, f + j * 2 + 1, none⟩ = some (.int .i64 (KR j))) := hc
  have HLT : Hid (∀ t, t < p → Op.bytesLess (KU t).toList us.toList = true) := hlt
  have HGE : Hid (∀ t, p ≤ t → t < z → Op.bytesLess (KU t).toList us.toList = false) := hge
  have HNE : Hid (∀ t, t < z → (t ≠ p ∨ f = false) → ((KU t).toList == us.toList) = false) := hne
  have HF : Hid (f = true → p < z ∧ ((KU p).toList == us.toList) = true) := hf
  obtain ⟨d, hd⟩ : ∃ d, decide (nu = 1) = d := ⟨_, rfl⟩
  rw [hd]
  clear hc hlt hge hne hf hk
  obtain ⟨UU, hUU⟩ : ∃ UU, rankU p f d us KU = UU := ⟨_, rfl⟩
  obtain ⟨RR, hRR⟩ : ∃ RR, rankR p f d nu KR = RR := ⟨_, rfl⟩
  have HUU : Hid (rankU p f d us KU = UU) := hUU
  have HRR : Hid (rankR p f d nu KR = RR) := hRR
  rw [hUU, hRR]
  clear hUU hRR
  obtain ⟨Z, hZ⟩ : ∃ Z, rankN z p f d = Z := ⟨_, rfl⟩
  have HZ : Hid (rankN z p f d = Z) := hZ
  rw [hZ]
  clear hZ
  go_enter Tryz.func42, Tryz.ntmps42
  go_wp2_with fail
  go_loopw [7, 8, 9] (fun a dn i wr => ∃ (k : Nat) (v : Value) (b : Bool), k ≤ z ∧ i = .int .i64 k ∧ dn = .bool b ∧ b = (d || decide (p < k)) ∧ a = v ∧ OwnL wr w.heap.size 68 2 v (rankM p k f d) (rankC UU RR) ∧ Below w.heap.size w wr) (fun _ _ i _ => z - (intOf i).toNat)
  case atStart =>
    have hS0 : Hid (OwnL (w.alloc (.cells #[] 68)) w.heap.size 68 2 (.slice (some ⟨w.heap.size, 0, none⟩) 0 0) 0 (rankC UU RR)) := World.ownsRow_made w #[] 0 (Nat.le_refl _) (Nat.zero_le _) rfl
    refine ⟨0, _, d, Nat.zero_le _, rfl, ?_, by simp, rfl, ?_, (Below.refl _ w).alloc (Nat.le_refl _) _⟩
    · rw [← hd]
      congr 1
    · have e0 : rankM p 0 f d = 0 := by unfold rankM; split <;> split <;> simp
      rw [e0]
      exact hS0.out
  case round =>
    obtain ⟨k, v, b, hk, rfl, rfl, hb, rfl, OA, bw⟩ := hrel
    obtain ⟨oo, cc, rfl⟩ := OwnL.shape OA
    have hM2 : rankM p k f d ≤ k + 1 := by unfold rankM; split <;> split <;> (try split) <;> omega
    obtain ⟨M, hM⟩ : ∃ M, rankM p k f d = M := ⟨_, rfl⟩
    rw [hM] at OA hM2 ⊢
    have HM : Hid (rankM p k f d = M) := hM
    clear hM
    by_cases hlt : k < z
    · obtain ⟨bb, ff, ho, hbb, c0, c1⟩ := HC.out k hlt
      subst ho
      have i1 : (0 : Int) ≤ (k : Int) := by omega
      have i2 : (k : Int) < (z : Int) := by omega
      have d0 := (bw.cell (p := ⟨bb, ff + k * 2, none⟩) hbb).trans c0
      have d1 := (bw.cell (p := ⟨bb, ff + k * 2 + 1, none⟩) hbb).trans c1
      have hbl : bb < wr.heap.size := Nat.lt_of_lt_of_le hbb bw.size
      have hS := bw.size
      cases d
      · by_cases hkp : k = p
        · have hb' : b = false := by rw [hb, hkp]; simp
          subst hb'
          clear hb
          have hl : Op.bytesLess (KU k).toList us.toList = false := HGE.out k (by omega) hlt
          have HMp : M = p := by rw [← HM.out, hkp]; exact rankM_mid p f
          have ev : [Value.string us, .int .i64 nu] = rankC UU RR M := by
            have q := rank_mid p f us nu KU KR (fun h => same_bytes (HF.out h).2)
            rw [HUU.out, HRR.out] at q
            show _ = [Value.string (UU M), .int .i64 (RR M)]
            rw [HMp, q.1, q.2]
          have HKP : Hid (k = p) := hkp
          have HMP : Hid (M = p) := HMp
          have HEV : Hid ([Value.string us, .int .i64 nu] = rankC UU RR M) := ev
          have hl' : Op.bytesLess (KU k).toList us.toList = false := hl
          clear HMp ev
          cases f
          · have hn : ((KU k).toList == us.toList) = false := HNE.out k hlt (.inr rfl)
            clear hkp
            go_wp2_with first
              | (at_builtin; refine wpList_append_list rfl _ _ _ rfl w.heap.size 68 ii _ 2 24 Tryz.underlying31 hii hy0 hy1 hy2 rfl (by omega) (.slice o2 (M + 1) c2) (M + 1) (rowVs (rankC UU RR) (M + 1)) rfl (O2.out.alloc _) _ 1 (fun _ => [.string (KU k), .int .i64 (KR k)]) rfl (two_cells _ _ _ _) (fun _ => rfl) (one_rank _ _) (by unfold maxLen; omega) (by omega) (by simp <;> omega) (w2.heap.size + 1) (by simp) ?_; intro o3 c3 w3 hown3 hgrow3 hat3)
              | (at_builtin; refine wpList_append_list rfl _ _ _ rfl w.heap.size 68 ii _ 2 24 Tryz.underlying31 hii hy0 hy1 hy2 rfl (by omega) (.slice oo M cc) M (rowVs (rankC UU RR) M) rfl (OA.alloc _) _ 1 (fun _ => [.string us, .int .i64 nu]) rfl (two_cells _ _ _ _) (fun _ => rfl) (one_rank _ _) (by unfold maxLen; omega) (by omega) (by simp <;> omega) (wr.heap.size + 1) (by simp) ?_; intro o2 c2 w2 hown2 hgrow2 hat2; have O2 : Hid (OwnL w2 w.heap.size 68 2 (.slice o2 (M + 1) c2) (M + 1) (rankC UU RR)) := own_push hown2 HEV.out; have b2 : Below w.heap.size w w2 := (bw.alloc bw.size _).grown hgrow2 (by simp; omega) (fun q hq => (OwnL.lt OA q hq).1); have dd0 := (b2.cell (p := ⟨bb, ff + k * 2, none⟩) hbb).trans c0; have dd1 := (b2.cell (p := ⟨bb, ff + k * 2 + 1, none⟩) hbb).trans c1; have hS2 := b2.size; have hbl2 : bb < w2.heap.size := (by omega))
            have ev3 : [Value.string (KU k), .int .i64 (KR k)] = rankC UU RR (M + 1) := by
              have q := rank_next p us nu KU KR
              rw [HUU.out, HRR.out] at q
              show _ = [Value.string (UU (M + 1)), .int .i64 (RR (M + 1))]
              rw [HMP.out, q.1, q.2, HKP.out]
            have O3 := own_push hown3 ev3
            have b3 : Below w.heap.size w w3 := (b2.alloc b2.size _).grown hgrow3 (by simp; omega) (fun q hq => (OwnL.lt O2.out q hq).1)
            have e : rankM p (k + 1) false false = M + 1 + 1 := by rw [HMP.out, HKP.out]; unfold rankM; simp
            go_wp2_with fail
            go_roundw
            case rel => exact ⟨k + 1, _, true, by omega, by go_num, rfl, by rw [HKP.out]; simp, rfl, by rw [e]; exact O3, b3⟩
            case measure => simp [intOf]; omega
          · have hn : ((KU k).toList == us.toList) = true := by rw [hkp]; exact (HF.out rfl).2
            clear hkp
            go_wp2_with (at_builtin; refine wpList_append_list rfl _ _ _ rfl w.heap.size 68 ii _ 2 24 Tryz.underlying31 hii hy0 hy1 hy2 rfl (by omega) (.slice oo M cc) M (rowVs (rankC UU RR) M) rfl (OA.alloc _) _ 1 (fun _ => [.string us, .int .i64 nu]) rfl (two_cells _ _ _ _) (fun _ => rfl) (one_rank _ _) (by unfold maxLen; omega) (by omega) (by simp <;> omega) (wr.heap.size + 1) (by simp) ?_; intro o2 c2 w2 hown2 hgrow2 hat2; have O2 : Hid (OwnL w2 w.heap.size 68 2 (.slice o2 (M + 1) c2) (M + 1) (rankC UU RR)) := own_push hown2 HEV.out; have b2 : Below w.heap.size w w2 := (bw.alloc bw.size _).grown hgrow2 (by simp; omega) (fun q hq => (OwnL.lt OA q hq).1); have dd0 := (b2.cell (p := ⟨bb, ff + k * 2, none⟩) hbb).trans c0; have dd1 := (b2.cell (p := ⟨bb, ff + k * 2 + 1, none⟩) hbb).trans c1; have hS2 := b2.size; have hbl2 : bb < w2.heap.size := (by omega))
            have e : rankM p (k + 1) true false = M + 1 := by rw [HMP.out, HKP.out]; unfold rankM; simp
            go_roundw
            case rel => exact ⟨k + 1, _, true, by omega, by go_num, rfl, by rw [HKP.out]; simp, rfl, by rw [e]; exact O2.out, b2⟩
            case measure => simp [intOf]; omega
        · have hn : ((KU k).toList == us.toList) = false := HNE.out k hlt (.inl hkp)
          have hcc : (false = true ∧ ¬ (f = true ∧ k = p)) ∨ (false = false ∧ k ≠ p) := .inr ⟨rfl, hkp⟩
          have e : rankM p (k + 1) f false = M + 1 := by rw [← HM.out]; exact rankM_push p k f false hcc
          have ev : [Value.string (KU k), .int .i64 (KR k)] = rankC UU RR M := by
            have q := rank_elem p k f false us nu KU KR hcc
            rw [HUU.out, HRR.out, HM.out] at q
            show _ = [Value.string (UU M), .int .i64 (RR M)]
            rw [q.1, q.2]
          have HEV : Hid ([Value.string (KU k), .int .i64 (KR k)] = rankC UU RR M) := ev
          clear ev hcc
          by_cases hkl : k < p
          · have hb' : b = false := by rw [hb]; simp; omega
            subst hb'
            clear hb
            have hl : Op.bytesLess (KU k).toList us.toList = true := HLT.out k hkl
            go_wp2_with (at_builtin; refine wpList_append_list rfl _ _ _ rfl w.heap.size 68 ii _ 2 24 Tryz.underlying31 hii hy0 hy1 hy2 rfl (by omega) (.slice oo M cc) M (rowVs (rankC UU RR) M) rfl (OA.alloc _) _ 1 (fun _ => [.string (KU k), .int .i64 (KR k)]) rfl (two_cells _ _ _ _) (fun _ => rfl) (one_rank _ _) (by unfold maxLen; omega) (by omega) (by simp <;> omega) (wr.heap.size + 1) (by simp) ?_; intro o2 c2 w2 hown2 hgrow2 hat2)
            have O2 := own_push hown2 HEV.out
            have b2 : Below w.heap.size w w2 := (bw.alloc bw.size _).grown hgrow2 (by simp; omega) (fun q hq => (OwnL.lt OA q hq).1)
            go_wp2_with fail
            go_roundw
            case rel => exact ⟨k + 1, _, false, by omega, by go_num, rfl, by simp; omega, rfl, by rw [e]; exact O2, b2⟩
            case measure => simp [intOf]; omega
          · have hb' : b = true := by rw [hb]; simp; omega
            subst hb'
            clear hb
            go_wp2_with (at_builtin; refine wpList_append_list rfl _ _ _ rfl w.heap.size 68 ii _ 2 24 Tryz.underlying31 hii hy0 hy1 hy2 rfl (by omega) (.slice oo M cc) M (rowVs (rankC UU RR) M) rfl (OA.alloc _) _ 1 (fun _ => [.string (KU k), .int .i64 (KR k)]) rfl (two_cells _ _ _ _) (fun _ => rfl) (one_rank _ _) (by unfold maxLen; omega) (by omega) (by simp <;> omega) (wr.heap.size + 1) (by simp) ?_; intro o2 c2 w2 hown2 hgrow2 hat2)
            have O2 := own_push hown2 HEV.out
            have b2 : Below w.heap.size w w2 := (bw.alloc bw.size _).grown hgrow2 (by simp; omega) (fun q hq => (OwnL.lt OA q hq).1)
            go_wp2_with fail
            go_roundw
            case rel => exact ⟨k + 1, _, true, by omega, by go_num, rfl, by simp; omega, rfl, by rw [e]; exact O2, b2⟩
            case measure => simp [intOf]; omega
      · obtain rfl : b = true := by simpa using hb
        clear hb
        by_cases hfp : f = true ∧ k = p
        · obtain ⟨rfl, rfl⟩ := hfp
          have hn : ((KU k).toList == us.toList) = true := (HF.out rfl).2
          go_wp2_with fail
          go_roundw
          case rel =>
            refine ⟨k + 1, _, true, by omega, by go_num, rfl, by simp, rfl, ?_, bw⟩
            have e : rankM k (k + 1) true true = M := by rw [← HM.out]; unfold rankM; simp
            rw [e]
            exact OA
          case measure => simp [intOf]; omega
        · have hn : ((KU k).toList == us.toList) = false := HNE.out k hlt (by
              by_cases hkp : k = p
              · right
                cases f
                · rfl
                · exact absurd ⟨rfl, hkp⟩ hfp
              · exact .inl hkp)
          go_wp2_with (at_builtin; refine wpList_append_list rfl _ _ _ rfl w.heap.size 68 ii _ 2 24 Tryz.underlying31 hii hy0 hy1 hy2 rfl (by omega) (.slice oo M cc) M (rowVs (rankC UU RR) M) rfl (OA.alloc _) _ 1 (fun _ => [.string (KU k), .int .i64 (KR k)]) rfl (two_cells _ _ _ _) (fun _ => rfl) (one_rank _ _) (by unfold maxLen; omega) (by omega) (by simp <;> omega) (wr.heap.size + 1) (by simp) ?_; intro o2 c2 w2 hown2 hgrow2 hat2)
          have hcc : (true = true ∧ ¬ (f = true ∧ k = p)) ∨ (true = false ∧ k ≠ p) := .inl ⟨rfl, hfp⟩
          have e : rankM p (k + 1) f true = M + 1 := by rw [← HM.out]; exact rankM_push p k f true hcc
          have ev : [Value.string (KU k), .int .i64 (KR k)] = rankC UU RR M := by
            have q := rank_elem p k f true us nu KU KR hcc
            rw [HUU.out, HRR.out, HM.out] at q
            show _ = [Value.string (UU M), .int .i64 (RR M)]
            rw [q.1, q.2]
          have O2 := own_push hown2 ev
          have b2 : Below w.heap.size w w2 := (bw.alloc bw.size _).grown hgrow2 (by simp; omega) (fun q hq => (OwnL.lt OA q hq).1)
          go_wp2_with fail
          go_roundw
          case rel => exact ⟨k + 1, _, true, by omega, by go_num, rfl, by simp, rfl, by rw [e]; exact O2, b2⟩
          case measure => simp [intOf]; omega
    · obtain rfl : k = z := by omega
      by_cases hfin : d = true ∨ p < k
      · have hb' : b = true := by
          rw [hb]
          rcases hfin with h | h <;> simp [h]
        subst hb'
        clear hb
        have hd2 : Hid (decide (nu = 1) = d) := hd
        clear hd
        go_wp2_with fail
        go_ret
        have e := rankM_end k p f d hp (fun h => (HF.out h).1) hfin
        rw [HM.out, HZ.out] at e
        subst e
        exact ⟨⟨_, rfl, OA⟩, bw⟩
      · have hd0 : d = false := by
          cases d
          · rfl
          · exact absurd (.inl rfl) hfin
        subst hd0
        have hpk : p = k := by omega
        have hb' : b = false := by rw [hb, hpk]; simp
        subst hb'
        clear hb
        have hf0 : f = false := by
          cases f
          · rfl
          · have := (HF.out rfl).1; omega
        subst hf0
        have HMp : M = k := by rw [← HM.out, hpk]; exact rankM_mid k false
        have ev : [Value.string us, .int .i64 nu] = rankC UU RR M := by
          have q := rank_mid p false us nu KU KR (fun h => by cases h)
          rw [HUU.out, HRR.out] at q
          show _ = [Value.string (UU M), .int .i64 (RR M)]
          rw [HMp, ← hpk, q.1, q.2]
        have HEV : Hid ([Value.string us, .int .i64 nu] = rankC UU RR M) := ev
        have HMP : Hid (M = k) := HMp
        clear ev HMp hpk hp
        have hS := bw.size
        go_wp2_with (at_builtin; refine wpList_append_list rfl _ _ _ rfl w.heap.size 68 ii _ 2 24 Tryz.underlying31 hii hy0 hy1 hy2 rfl (by omega) (.slice oo M cc) M (rowVs (rankC UU RR) M) rfl (OA.alloc _) _ 1 (fun _ => [.string us, .int .i64 nu]) rfl (two_cells _ _ _ _) (fun _ => rfl) (one_rank _ _) (by unfold maxLen; omega) (by omega) (by simp <;> omega) (wr.heap.size + 1) (by simp) ?_; intro o2 c2 w2 hown2 hgrow2 hat2)
        have O2 := own_push hown2 HEV.out
        have b2 : Below w.heap.size w w2 := (bw.alloc bw.size _).grown hgrow2 (by simp; omega) (fun q hq => (OwnL.lt OA q hq).1)
        go_ret
        have e : Z = M + 1 := by rw [← HZ.out, HMP.out]; unfold rankN; simp
        subst e
        exact ⟨⟨_, rfl, O2⟩, b2⟩
end Go.Proofs.YtgjlgddglgffmaaGreatDoor.Hub
