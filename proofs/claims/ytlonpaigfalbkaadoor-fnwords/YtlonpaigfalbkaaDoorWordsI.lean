/-
  The program's WordsOf: at every text of at most 2^20 bytes it answers wordsT.
-/
import Derived.Test.YtlonpaigfalbkaaDoorFieldsI
import Derived.Test.YtlonpaigfalbkaaDoorWordsS
import Derived.Test.YtlonpaigfalbkaaDoorWordsD
import Derived.Test.YtlonpaigfalbkaaDoorJidFold
import Derived.RangeFuncBox
import Derived.Maps.OwnIn
import Derived.Maps.AppendAt
namespace Go.Proofs.YtlonpaigfalbkaaDoor.Hub
open Go.RowKit Go.Shelf Go.Proofs
attribute [local go_sem] Oper.semAt_some
set_option linter.unusedVariables false
set_option linter.unusedSimpArgs false

theorem KeepF.trans {n₀ Bs Bf : Nat} {A B C : World} (h : KeepF n₀ Bs Bf A B) (k : KeepF n₀ Bs Bf B C) : KeepF n₀ Bs Bf A C := ⟨h.1.trans k.1, k.2.1.trans h.2.1, k.2.2.trans h.2.2⟩
theorem KeepF.putObj {n₀ Bs Bf : Nat} {w : World} (hn : n₀ ≤ w.heap.size) (hs : Bs < w.heap.size) (hf : Bf < w.heap.size) (W : World) (l : Nat) (o o' : Obj) (hl : w.heap.size ≤ l) (h : W.heap[l]? = some o) (hc : o.isCells = false) (hw : o.isWalk = false) : KeepF n₀ Bs Bf W (W.putObj l o') :=
  ⟨belowK_b (w := w) hn W l o o' hl h hc hw, World.putObj_heap_other (by omega), World.putObj_heap_other (by omega)⟩
theorem keepF_of_below {n₀ Bs Bf : Nat} {W W' : World} (hn : n₀ ≤ W.heap.size) (hs : Bs < W.heap.size) (hf : Bf < W.heap.size) (hb : Below W.heap.size W W') : KeepF n₀ Bs Bf W W' := ⟨hb.mono hn, hb.block Bs hs, hb.block Bf hf⟩
theorem keepsFrom_of_below' {n : Nat} {W W' : World} (hb : Below W.heap.size W W') : KeepsFrom n W W' :=
  ⟨hb.size, fun k o _ hk _ => (hb.block k (Array.getElem?_eq_some_iff.1 hk).1).trans hk⟩
theorem boxed_below' {W W' : World} {B : Nat} {t : TypeId} {v : Value} (h : Boxed W B t v) (hb : Below W.heap.size W W') : Boxed W' B t v := (hb.block B h.lt).trans h
/-- Between two rounds. -/
def InvW (base B M S : Nat) (pre : List SmallT) (W : World) : Prop :=
  (∃ v, Boxed W B 24 v ∧ W.ownsRow base 9 1 v (wl (pre.map (·.1))).length (strVs (gt (wl (pre.map (·.1)))) (wl (pre.map (·.1))).length) ∧ True) ∧
  (Boxed W S 32 (.map (some M)) ∧ ∃ D : DataW Unit, W.ownsMap Tryd.prog 9 (plainElem Tryd.prog 3) M pre.length D ∧ InvD D (wl (pre.map (·.1))) pre.length)
theorem inv_own (base B M S N : Nat) (hM : M < N) : OwnFrom N (InvW base B M S) :=
  OwnFrom.and (Own.from (holdsRow_own base B 24 9 1 (fun pre : List SmallT => (wl (pre.map (·.1))).length) (fun pre => strVs (gt (wl (pre.map (·.1)))) (wl (pre.map (·.1))).length) (fun _ _ => True)) _)
    (OwnFrom.and (Own.from (boxed_own S 32 (fun _ => .map (some M))) _) (fun pre A B row h hg hr => by
      obtain ⟨D, h1, h2⟩ := h
      exact ⟨D, h1.kept hg (fun e => by have := (hr _ e.symm).1; omega), h2⟩))
set_option maxRecDepth 100000 in
set_option maxHeartbeats 4000000 in
theorem wordsOf_any (s : ByteArray) (hs : s.size ≤ 1048576) (w : World) (hT : ∀ W, Below w.heap.size w W → Lib.Utf8Tabs 0 1 W) :
    Calls Tryd.prog 5 #[.string s] w fun e w' => ∃ v, e = .returned v ∧ Own w' w.heap.size v (wordsT s).length (gt (wordsT s)) ∧ Below w.heap.size w w' := by
  have hmm := @run_makeMap Tryd.prog
  refine (callsIn_wide (n := 3)).1 ?_
  refine callsIn_of_wp_marks Tryd.func5 rfl trivial ?_ rfl
  simp only [Tryd.ntmps5, List.size_toArray, List.length_cons, List.length_nil, Nat.reduceAdd, Nat.reduceSub, Array.replicate_succ, Array.replicate_zero, List.push_toArray, List.append_toArray, List.nil_append, List.cons_append]
  gi_wp2_with fail
  refine ⟨trivial, ?_⟩
  refine (callsIn_wide.2 (fieldsSeq_any s _)).mono ?_
  rintro e w' ⟨rfl, rfl⟩
  gi_wp2_with fail
  have bL := ((((Boxed.new w 24 (.slice none 0 0)).alloc (.map #[] 0)).alloc (.cells #[.map (some (w.heap.size + 1))] 32)).alloc (.cells #[.string s] 9)).alloc (.cells #[apartV] 36)
  have bM := (((World.ownsMap_made (w.alloc (.cells #[.slice none 0 0] 24)) Tryd.prog 9 (plainElem (H := Unit) Tryd.prog 3)).alloc (.cells #[.map (some (w.heap.size + 1))] 32)).alloc (.cells #[.string s] 9)).alloc (.cells #[apartV] 36)
  have bS := ((Boxed.new ((w.alloc (.cells #[.slice none 0 0] 24)).alloc (.map #[] 0)) 32 (.map (some (w.heap.size + 1)))).alloc (.cells #[.string s] 9)).alloc (.cells #[apartV] 36)
  have bT := (Boxed.new (((w.alloc (.cells #[.slice none 0 0] 24)).alloc (.map #[] 0)).alloc (.cells #[.map (some (w.heap.size + 1))] 32)) 9 (.string s)).alloc (.cells #[apartV] 36)
  have bF := Boxed.new ((((w.alloc (.cells #[.slice none 0 0] 24)).alloc (.map #[] 0)).alloc (.cells #[.map (some (w.heap.size + 1))] 32)).alloc (.cells #[.string s] 9)) 36 apartV
  have hB0 : Below w.heap.size w (((((w.alloc (.cells #[.slice none 0 0] 24)).alloc (.map #[] 0)).alloc (.cells #[.map (some (w.heap.size + 1))] 32)).alloc (.cells #[.string s] 9)).alloc (.cells #[apartV] 36)) := (((((Below.refl _ w).alloc (Nat.le_refl _) _).alloc (by simp) _).alloc (by simp; omega) _).alloc (by simp; omega) _).alloc (by simp; omega) _
  have hsz : (((((w.alloc (.cells #[.slice none 0 0] 24)).alloc (.map #[] 0)).alloc (.cells #[.map (some (w.heap.size + 1))] 32)).alloc (.cells #[.string s] 9)).alloc (.cells #[apartV] 36)).heap.size = w.heap.size + 5 := by simp
  simp only [World.size_alloc] at bL bM bS bT bF
  obtain ⟨W0, hW0⟩ : ∃ W0, ((((w.alloc (.cells #[.slice none 0 0] 24)).alloc (.map #[] 0)).alloc (.cells #[.map (some (w.heap.size + 1))] 32)).alloc (.cells #[.string s] 9)).alloc (.cells #[apartV] 36) = W0 := ⟨_, rfl⟩
  rw [hW0] at bL bM bS bT bF hB0 hsz ⊢
  clear hW0
  have hT0 : ∀ W, Below w.heap.size W0 W → Lib.Utf8Tabs 0 1 W := fun W h => hT W (hB0.trans h)
  clear hT
  refine wpIn_rangeFunc_ownG rfl (by decide) (gf := 17) (lb := #[.pointer (some ⟨w.heap.size + 1 + 1 + 1, 0, none⟩), .pointer (some ⟨w.heap.size + 1 + 1 + 1 + 1, 0, none⟩)]) rfl trivial (enters_of Tryd.func17 (by kernel_rfl) rfl)
    (fields_stops 2 (by decide) w.heap.size (w.heap.size + 1 + 1 + 1) (w.heap.size + 1 + 1 + 1 + 1) s hs W0 (by omega) bT bF hT0) KeepF.trans (KeepF.putObj (w := W0) (by omega) (by omega) (by omega)) (Below.refl _ _) (fun _ => rfl)
    (fun pre W => InvW (w.heap.size + 5) w.heap.size (w.heap.size + 1) (w.heap.size + 1 + 1) pre W ∧ Below w.heap.size W0 W)
    (fun _ _ _ => False)
    (OwnFrom.and (inv_own _ _ _ _ _ (by omega)) (ownFrom_below (by omega) (by omega)))
    (fun _ _ _ _ _ hs _ _ => hs)
    ⟨⟨⟨_, bL, ⟨rfl, .inl ⟨rfl, rfl⟩⟩, trivial⟩, bS, _, bM, inv_nil⟩, Below.refl _ _⟩
    (fun x => { tmps := #[.string s, undef, .slice none 0 0, .pointer (some ⟨w.heap.size, 0, none⟩), .pointer (some ⟨w.heap.size + 1 + 1, 0, none⟩), .string x.1, undef, .map (some (w.heap.size + 1)), .string s, .func (.func 17) #[] #[.pointer (some ⟨w.heap.size + 1 + 1 + 1, 0, none⟩), .pointer (some ⟨w.heap.size + 1 + 1 + 1 + 1, 0, none⟩)], .string x.1, undef, undef, undef, undef, undef, undef, undef, undef, undef, undef, undef, undef, undef, undef, undef], defers := [] }) ?assign ?body ?done ?stop
  case assign =>
    intro l x W K hK
    gi_wp2
    exact hK
  case stop =>
    rintro D c pre W _ _ h _
    exact h.elim
  case done =>
    rintro D xs W hD hxs ⟨⟨⟨v, hbx, hrow, _⟩, _⟩, hB⟩ hK
    have cv := hbx.cell
    have hwd : wl (xs.map (·.1)) = wordsT s := by rw [hxs, words_all]; rfl
    rw [hwd] at hrow
    clear hwd hxs
    gi_wp2
    refine ⟨by simp, .inl ⟨_, _, rfl, run_takeDeferred hK, ?_⟩⟩
    exact ⟨_, results_tmp rfl _ _ _, v, rfl, Own.mono (ownsRow_putObj hrow _ hK rfl) (by omega), hB0.trans (hB.trans (belowK_b (w := W0) (by omega) W D _ _ hD hK rfl rfl))⟩
  case body =>
    rintro l pre ⟨x, hx0, hx1⟩ W ⟨⟨⟨v, hbx, hrow, _⟩, hbs, D, hown, hinv⟩, hB⟩ hlt
    have hfs := foldT_size x
    have hX : foldT x ≠ ⟨#[]⟩ := by
      intro e
      rw [e] at hfs
      have h9 : (⟨#[]⟩ : ByteArray).size = 0 := rfl
      omega
    dsimp only
    obtain ⟨c, hat, hc0, hcn, hci⟩ := hinv.2 (foldT x)
    have hkey := Go.WideMaps.keyOf_string_mk (P := Tryd.prog) (k := 9) Tryd.underlying9 (s := foldT x) (le_maxLen _ (by omega))
    obtain ⟨X, hXe⟩ : ∃ X, foldT x = X := ⟨_, rfl⟩
    have hst := inv_step hinv X (hXe ▸ hX) c (hXe ▸ hat)
    have hlen1 : pre.length + 1 ≤ maxLen := le_maxLen _ (by omega)
    have cSL := smallLetters_any x W (by omega)
    rw [hXe] at cSL hkey hat hX
    gi_wp2_with fail
    refine ⟨trivial, ?_⟩
    refine (CallsIn.inRound l (callsIn_wide.2 cSL)).mono ?_
    rintro e W1 ⟨rfl, hb1⟩
    have hbx1 := boxed_below' hbx hb1
    have hbs1 := boxed_below' hbs hb1
    have hrow1 := (show Own W (w.heap.size + 5) v _ (gt _) from hrow).below hb1
    have hown1 := hown.kept (grown_of_below' hb1) (by simp)
    have cs1 := hbs1.cell
    obtain ⟨c9, hrun1, hat9, _⟩ := hown1.lookup_int (Maps.string_keyed Tryd.underlying9) Tryd.underlying32 Tryd.underlying3 (Tryd.zeroValue3 _) hkey
    obtain rfl : c9 = c := by rw [hat] at hat9; simpa using hat9.symm
    have hwc : (Lit.int .i64 (c9 + 1)).wf = true := by
      have h8 : IntKind.i64.min ≤ c9 + 1 ∧ c9 + 1 ≤ IntKind.i64.max := by
        constructor
        · show (-9223372036854775808 : Int) ≤ _; omega
        · show _ ≤ (9223372036854775807 : Int); omega
      show (decide _ && decide _) = true
      rw [decide_eq_true h8.1, decide_eq_true h8.2]; rfl
    obtain ⟨W2, hrun2, hown2, hgrow2⟩ := hown1.update (Maps.string_keyed Tryd.underlying9) Tryd.underlying32 hlen1 hkey (plainElem_int Tryd.underlying3 hwc)
    have hbs2 := hbs1.kept hgrow2 (by simp)
    have hbx2 := hbx1.kept hgrow2 (by simp)
    have hrow2 := World.ownsRow.kept (w' := W2) hrow1 hgrow2 (.inr (fun e => by
      rcases hrow1.2 with ⟨rfl, _⟩ | ⟨g, cap, cur, rfl, hb, _⟩
      · cases e
      · have e2 := Option.some.inj e
        simp only at e2
        omega))
    obtain ⟨c8, hrun3, hat8, _⟩ := hown2.lookup_int (Maps.string_keyed Tryd.underlying9) Tryd.underlying32 Tryd.underlying3 (Tryd.zeroValue3 _) hkey
    obtain rfl : c8 = c9 + 1 := by
      rw [Go.Maps.atKey_put_same (k := .string X.data.toList) hinv.1 trivial] at hat8
      simpa using hat8.symm
    have cs2 := hbs2.cell
    have cx2 := hbx2.cell
    have fx2 := hbx2.frozen
    have hszW := hB.size
    have hszW1 := hb1.size
    have hszW2 := hgrow2.size
    have hL1 := wl_len (pre.map (·.1))
    rw [List.length_map] at hL1
    have hsn : wl ((pre ++ [(⟨x, hx0, hx1⟩ : SmallT)]).map (·.1)) = addW (wl (pre.map (·.1))) X := by
      rw [List.map_append, ← hXe]
      exact wl_snoc _ _
    have kf2 : KeepsFrom W0.heap.size W W2 := (keepsFrom_of_below' hb1).trans (KeepsFrom.of_grownBy hgrow2 (fun j e => by cases e; omega))
    have kF2 : KeepF w.heap.size (w.heap.size + 1 + 1 + 1) (w.heap.size + 1 + 1 + 1 + 1) W W2 := (keepF_of_below (by omega) (by omega) (by omega) hb1).trans ⟨(Below.refl _ W1).grown hgrow2 (by omega) (fun k e => by cases e; omega), hgrow2.block _ (by omega) (by simp; omega), hgrow2.block _ (by omega) (by simp; omega)⟩
    have hcn2 : c9 ≤ 1048577 := by omega
    by_cases hc : c9 = 0
    · have hq : (c9 + 1 == 1) = true := by rw [hc]; rfl
      have hnm : X ∉ wl (pre.map (·.1)) := by rw [← hXe]; exact hci.1 hc
      have hL9 := addW_new _ X hX hnm
      obtain ⟨L, hLe⟩ : ∃ L, wl (pre.map (·.1)) = L := ⟨_, rfl⟩
      have HI : Hid (InvD (D.put (.string X.data.toList) (.lit (.int .i64 (c9 + 1)))) (addW L X) (pre.length + 1)) := (by rw [← hLe]; exact hst : InvD _ _ _)
      rw [hLe] at hsn hrow2 hL1 hL9
      clear hst hinv hnm hci hcn hat hat9 hat8 hLe hc
      obtain ⟨i0, hi, hz0, hz1, hz2⟩ := info_parts info_str
      gi_wp2_with (gi_at_builtin; refine wpListIn_append_own _ rfl _ _ 24 rfl (w.heap.size + 5) 9 i0 (.string ⟨#[]⟩) 1 16 Tryd.underlying24 hi hz0 hz1 hz2 rfl (by decide) _ _ _ rfl (hrow2.alloc _) ⟨W2.heap.size, 0, none⟩ 1 1 [.string X] rfl rfl (cell_one_new _ _ _) (by simp [Value.oneCell']) (le_maxLen _ (by omega)) (by omega) (by simp; omega) ?_; intro v' w1 hown' hgrow _; obtain ⟨g', cap', rfl⟩ := ownsRow_succ hown'; obtain ⟨hv1, hv2, hr2, hk2, hb2, hbl2⟩ := row_step (n₀ := w.heap.size) hbx2 (by decide) hrow2 (by omega) (by omega) (by omega) hown' hgrow; have hc1 := hv1.cell; have hf1 := hv1.frozen)
      have hvb : some (w.heap.size + 1) ≠ v.ownBlock := by
        intro e
        rcases hrow1.2 with ⟨rfl, _⟩ | ⟨g, cap, cur, rfl, hb, _⟩
        · cases e
        · have e2 := Option.some.inj e
          simp only at e2
          omega
      have hM2 := ((hown2.alloc _).kept hgrow hvb).kept (grownBy_setCell' w1 w.heap.size (.slice (some ⟨g', 0, none⟩) (L.length + 1) cap')) (by simp)
      have e : (L ++ [X]).length = L.length + 1 := by simp
      exact ⟨kf2.trans (hk2.from _), kF2.trans ⟨hb2, hbl2 _ (by omega) (by omega), hbl2 _ (by omega) (by omega)⟩, ⟨⟨_, hv2, by rw [hsn, hL9, strVs_gt, e]; exact hr2, trivial⟩, (hbl2 _ (by omega) (by omega)).trans hbs2, _, by rw [List.length_append]; exact hM2, by rw [hsn, List.length_append]; exact HI.out⟩, hB.trans (kF2.1.trans hb2)⟩
    · have hq : (c9 + 1 == 1) = false := by simp; omega
      have hnm : X ∈ wl (pre.map (·.1)) := by
        rw [← hXe]
        by_cases h : foldT x ∈ wl (pre.map (·.1))
        · exact h
        · exact absurd (hci.2 h) hc
      have hL9 := addW_old _ X hnm
      have hc1 : ¬ c9 + 1 = 1 := by omega
      gi_wp2_with fail
      exact ⟨kf2, kF2, ⟨⟨v, hbx2, by rw [hsn, hL9]; exact hrow2, trivial⟩, hbs2, _, by rw [List.length_append]; exact hown2, by rw [hsn, List.length_append]; exact hst⟩, hB.trans kF2.1⟩
end Go.Proofs.YtlonpaigfalbkaaDoor.Hub
