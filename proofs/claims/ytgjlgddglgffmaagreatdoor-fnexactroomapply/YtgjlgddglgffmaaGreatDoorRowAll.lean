/-
  A row of a list of one's own that is written in place: cells set one behind the other; copy and clear of places of any size.
  slices.Delete of one place, of ranks and of members.
  slices.Insert of one rank.
  impl.withRank: ranks of one's own, changed in place so that a user has that one.
-/
import Derived.Test.YtgjlgddglgffmaaGreatDoorAppS
import Derived.Lib.SliceRun
import Derived.Lib.Overlaps
import Derived.Lib.AppendZerosOnto
import Derived.Laws.IdiomCopy
import Derived.Laws.Externs
import Derived.Deep.RegionLaw
import Derived.Deep.RegionHeld3
import Derived.Test.YtgjlgddglgffmaaGreatDoorRanked
import Derived.Test.YtgjlgddglgffmaaGreatDoorAppU
namespace Go.Proofs.YtgjlgddglgffmaaGreatDoor.Hub
open Go.RowKit
set_option linter.unusedVariables false

theorem setCells_heap {b : Nat} {T : TypeId} {fz : Nat × Nat} : ∀ (vs : List Value) (o : Nat) (W : World) (X : Array Value), W.heap[b]? = some (.cells X T fz) → ∃ X', (W.setCells b o vs).heap[b]? = some (.cells X' T fz) ∧ X'.size = X.size
  | [], o, W, X, h => ⟨X, h, rfl⟩
  | v :: r, o, W, X, h => by
    obtain ⟨X', h1, h2⟩ := setCells_heap r (o + 1) (W.setCell ⟨b, o, none⟩ v) _ (set_heap W b o X T fz v h)
    exact ⟨X', h1, by rw [h2]; simp⟩
theorem setCells_grown {b : Nat} : ∀ (vs : List Value) (o : Nat) (W V : World), V.grownBy W (some b) → V.grownBy (W.setCells b o vs) (some b)
  | [], o, W, V, h => h
  | v :: r, o, W, V, h => by
    refine setCells_grown r (o + 1) _ V ⟨?_, ?_, ?_, ?_, ?_⟩
    · exact h.os
    · exact h.tape
    · exact h.output
    · rw [World.size_setCell]; exact h.size
    · intro k hk hne
      rw [Below.heap_setCell _ _ _ _ (by intro e; exact hne (by rw [e]))]
      exact h.block k hk hne
theorem cell_row {W : World} {b : Nat} {X : Array Value} {T : TypeId} {fz : Nat × Nat} (h : W.heap[b]? = some (.cells X T fz)) (i : Nat) : W.cell? ⟨b, i, none⟩ = X[i]? := by
  simp [World.cell?, h]
/-- Cells of a block, told one by one, are a list of one's own. -/
theorem own_cells {W : World} {base gg n cap s : Nat} {T : TypeId} {X : Array Value} {g : Nat → List Value} (hg : ∀ j, (g j).length = s) (hs : 0 < s) (hb : base ≤ gg) (hgg : W.heap[gg]? = some (.cells X T (0, 0))) (hc : n ≤ cap) (hM : cap ≤ maxLen) (hX : X.size = cap * s) (hA : ∀ j, j < n → ∀ i, i < s → W.cell? ⟨gg, j * s + i, none⟩ = (g j)[i]?) : OwnL W base T s (.slice (some ⟨gg, 0, none⟩) n cap) n g :=
  own_rowL hg hs hb hgg hc hM hX (fun j hj i hi => (cell_row hgg _).symm.trans (hA j hj i hi))
theorem OwnL.rowOf {W : World} {base : Nat} {T : TypeId} {s gg n cap : Nat} {g : Nat → List Value} (h : OwnL W base T s (.slice (some ⟨gg, 0, none⟩) n cap) n g) : ∃ X : Array Value, base ≤ gg ∧ W.heap[gg]? = some (.cells X T (0, 0)) ∧ n ≤ cap ∧ cap ≤ maxLen ∧ X.size = cap * s := by
  rcases h.2 with ⟨e, _⟩ | ⟨g', c, cur, e, hb, hg, h1, h2, h3, _⟩
  · cases e
  · injection e with e1 e2 e3
    injection e1 with e1
    injection e1 with e1
    subst e1 e3
    exact ⟨cur, hb, hg, h1, h2, h3⟩
theorem OwnL.cellsOf {W : World} {base : Nat} {T : TypeId} {s gg n cap : Nat} {g : Nat → List Value} (h : OwnL W base T s (.slice (some ⟨gg, 0, none⟩) n cap) n g) (hg : ∀ j, (g j).length = s) : ∀ j, j < n → ∀ i, i < s → W.cell? ⟨gg, j * s + i, none⟩ = (g j)[i]? := by
  intro j hj i hi
  obtain ⟨o, c, e, _, _, hc⟩ := OwnL.at h hg
  injection e with e1 e2 e3
  obtain ⟨b, f, ho, hb, hx⟩ := hc j hj
  rw [← e1] at ho
  injection ho with ho
  injection ho with h1 h2
  subst h1 h2
  have := hx i hi
  rw [Nat.zero_add] at this
  exact this
theorem frozen_row {W : World} {b : Nat} {X : Array Value} {T : TypeId} (h : W.heap[b]? = some (.cells X T (0, 0))) (i : Nat) : W.frozen? ⟨b, i, none⟩ = false := by
  simp [World.frozen?, h]
section
variable {P : Program}
/-- copy over places of any size. -/
theorem run_copy_any (w : World) (dT sT ty elem : TypeId) (b o dLen dCap : Nat) (a : Addr) (sLen sCap : Nat) (cs : List Value) (i : TypeInfo) (s k : Nat)
    (hu : P.underlying dT = some (.slice elem)) (hi : P.info? elem = some i) (hs : i.size = s) (hk : Nat.min sLen dLen = k) (hn : cs.length = k * s)
    (hsrc : ∀ j v, cs[j]? = some v → w.cell? (a.add j) = some v) (hc : ∀ j, j < cs.length → (w.cell? ⟨b, o + j, none⟩).isSome = true) (hf : ∀ j, j < cs.length → w.frozen? ⟨b, o + j, none⟩ = false) (h1 : ∀ v ∈ cs, v.oneCell' = true) :
    (Builtin.copy_ #[dT, sT] ty #[.slice (some ⟨b, o, none⟩) dLen dCap, .slice (some a) sLen sCap]).run P w = .ok (goInt k) (w.setCells b o cs) := by
  have hl := run_firstCells_some (P := P) w i.size k a sLen sCap cs (by rw [hs]; exact hn) hsrc
  have hst := run_storeCells_cells (P := P) b o cs 0 w (by simpa using hc) (by simpa using hf) h1
  simp only [Nat.add_zero] at hst
  simp [Builtin.copy_, run_underlying hu, Builtin.lenOf, sizeOf, typeInfo, hi, hk, hl, hst]
/-- clear of one place of any size. -/
theorem run_clear_one (w : World) (t e ty : TypeId) (z : Value) (zs : List Value) (ht : P.underlying t = some (.slice e)) (hv : ∀ w, (zeroValue e).run P w = .ok z w) (hz : z.cells.toList = zs) (h0 : zs ≠ []) (h1 : ∀ v ∈ zs, v.oneCell' = true) (b o c : Nat)
    (hc : ∀ j, j < zs.length → (w.cell? ⟨b, o + j, none⟩).isSome = true) (hf : ∀ j, j < zs.length → w.frozen? ⟨b, o + j, none⟩ = false) :
    (Builtin.clear_ #[t] ty #[.slice (some ⟨b, o, none⟩) 1 c]).run P w = .ok (.tuple #[]) (w.setCells b o zs) := by
  have hzc : (Builtin.zeroCells z.cells 1).toList = zs := by
    rw [← hz]
    simp [Builtin.zeroCells]
    apply List.ext_getElem
    · simp
    · intro i h1 h2
      simp at h1 h2 ⊢
      rw [Nat.mod_eq_of_lt h2, getElem!_pos z.cells i h2]
  have hst := run_storeCells_cells (P := P) b o zs 0 w (by simpa using hc) (by simpa using hf) h1
  simp only [Nat.add_zero] at hst
  simp [Builtin.clear_, run_underlying ht, hv, hzc, hst]
/-- A copy whose run is known, in a plain region and in one that draws. -/
theorem wpList_copied (w : World) {ops : Array Oper} {rest : List Oper} {o : Oper} {a : Act} {Q : Exit → Act → World → Prop} (hgd : o.guard = none) (d s : Operand) (t t' : TypeId)
    (ho : o.op = .call { callee := .builtin .copy, args := #[d, s], argTypes := #[t, t'] }) (v u x : Value) (w2 : World) (hd : a.eval d = v) (hs : a.eval s = u)
    (hr : (Builtin.copy_ #[t, t'] o.type #[v, u]).run P w = .ok x w2) (h : wpList P ops Q rest (a.put o.dst x) w2) : wpList P ops Q (o :: rest) a w :=
  wpList_plain hgd fun _ hK => by
    unfold Oper.wp execOp
    simp only [ho, resolve, invoke, builtin, Sem.run_bind, Sem.run_pure, Result.andThen_ok, List.map_toArray, List.map_cons, List.map_nil, hd, hs, hr]
    exact hK _ _ h
theorem step_copied {ops : Array Oper} {o : Oper} {a : Act} {w : World} {K : Act → World → Prop} {Q : Exit → Act → World → Prop} {E : Prop} (hg : o.guard = none) (d s : Operand) (t t' : TypeId)
    (ho : o.op = .call { callee := .builtin .copy, args := #[d, s], argTypes := #[t, t'] }) (v u x : Value) (w2 : World) (hd : a.eval d = v) (hs : a.eval s = u)
    (hr : (Builtin.copy_ #[t, t'] o.type #[v, u]).run P w = .ok x w2) (h : K (a.put o.dst x) w2) : if Region.wanted o (yielded ops a.tmps) = true then Oper.wp P o a w K Q else E := by
  rw [if_pos (by simp [Region.wanted, hg])]
  unfold Oper.wp execOp
  simp only [ho, resolve, invoke, builtin, Sem.run_bind, Sem.run_pure, Result.andThen_ok, List.map_toArray, List.map_cons, List.map_nil, hd, hs, hr]
  exact h
end
end Go.Proofs.YtgjlgddglgffmaaGreatDoor.Hub
namespace Go.Proofs.YtgjlgddglgffmaaGreatDoor.Hub
open Go.RowKit
set_option linter.unusedVariables false
set_option linter.unusedSimpArgs false

theorem rowVs_tail {g : Nat → List Value} {s : Nat} (hg : ∀ j, (g j).length = s) (n q t : Nat) (hq : q ≤ n) : (rowVs (fun j => g (q + j)) (n - q))[t]? = (rowVs g n)[q * s + t]? := by
  have e : n = q + (n - q) := by omega
  have h := rowVs_add g q (n - q)
  rw [← e] at h
  rw [h, List.getElem?_append_right (by rw [rowVs_len hg]; omega), rowVs_len hg]
  congr 1
  omega
/-- What a place taken out leaves. -/
theorem own_cut {W W1 : World} {base gg n cap s p : Nat} {T : TypeId} {g : Nat → List Value} {zs : List Value} (hO : OwnL W base T s (.slice (some ⟨gg, 0, none⟩) n cap) n g) (hg : ∀ j, (g j).length = s) (hs : 0 < s) (hp : p < n) (hz : zs.length = s) (hW : W.grownBy W1 (some gg)) (hh : ∀ x : Nat, W1.heap[x]? = W.heap[x]?) :
    OwnL ((W1.setCells gg (p * s) (rowVs (fun j => g (p + 1 + j)) (n - (p + 1)))).setCells gg ((n - 1) * s) zs) base T s (.slice (some ⟨gg, 0, none⟩) (n - 1) cap) (n - 1) (cutAt p g) ∧ W.grownBy ((W1.setCells gg (p * s) (rowVs (fun j => g (p + 1 + j)) (n - (p + 1)))).setCells gg ((n - 1) * s) zs) (some gg) := by
  obtain ⟨X, hb, hX, hc, hM, hXs⟩ := OwnL.rowOf hO
  have cel := OwnL.cellsOf hO hg
  have hX1 : W1.heap[gg]? = some (.cells X T (0, 0)) := (hh gg).trans hX
  have c1 : ∀ x, W1.cell? x = W.cell? x := fun x => World.cell?_of_block (hh x.block)
  obtain ⟨X2, hX2, hs2⟩ := setCells_heap (rowVs (fun j => g (p + 1 + j)) (n - (p + 1))) (p * s) W1 X hX1
  obtain ⟨X3, hX3, hs3⟩ := setCells_heap zs ((n - 1) * s) _ X2 hX2
  have hl : (rowVs (fun j => g (p + 1 + j)) (n - (p + 1))).length = (n - (p + 1)) * s := rowVs_len (fun j => hg _) _
  have m1 : (n - 1) * s + s = n * s := by rw [← Nat.succ_mul]; congr 1; omega
  have m2 : n * s ≤ cap * s := Nat.mul_le_mul_right s hc
  have m3 : p * s + (n - (p + 1)) * s = (n - 1) * s := by rw [← Nat.add_mul]; congr 1; omega
  refine ⟨own_cells (X := X3) (fun j => by unfold cutAt; split <;> exact hg _) hs hb hX3 (by omega) hM (by rw [hs3, hs2, hXs]) ?_, setCells_grown _ _ _ _ (setCells_grown _ _ _ _ hW)⟩
  intro j hj i hi
  have mj : j * s + i < (n - 1) * s := by
    have : (j + 1) * s ≤ (n - 1) * s := Nat.mul_le_mul_right s (by omega)
    rw [Nat.succ_mul] at this
    omega
  rw [World.cell?_setCells_out gg zs _ _ _ (fun _ _ => Or.inl mj)]
  have hin : ∀ t, t < (rowVs (fun j => g (p + 1 + j)) (n - (p + 1))).length → (W1.cell? ⟨gg, p * s + t, none⟩).isSome = true := by
    intro t ht
    rw [cell_row hX1, Array.getElem?_eq_getElem (by rw [hXs]; rw [hl] at ht; omega)]
    rfl
  unfold cutAt
  by_cases hjp : j < p
  · rw [if_pos hjp]
    have mp : j * s + i < p * s := by
      have : (j + 1) * s ≤ p * s := Nat.mul_le_mul_right s (by omega)
      rw [Nat.succ_mul] at this
      omega
    rw [World.cell?_setCells_out gg _ _ _ _ (fun _ _ => Or.inl mp), c1]
    exact cel j (by omega) i hi
  · rw [if_neg hjp]
    have mq : p * s + ((j - p) * s + i) = j * s + i := by rw [← Nat.add_assoc, ← Nat.add_mul]; congr 2; omega
    have mt : (j - p) * s + i < (rowVs (fun j => g (p + 1 + j)) (n - (p + 1))).length := by rw [hl]; omega
    have h := World.cell?_setCells_in gg _ (p * s) W1 hin ((j - p) * s + i) mt
    rw [mq] at h
    rw [h, ← List.getElem?_eq_getElem mt, rowVs_at (fun j => hg _) _ _ _ (by omega) hi]
    congr 2
    omega

set_option maxRecDepth 100000 in
set_option maxHeartbeats 4000000 in
/-- slices.Delete of ranks: one place. -/
theorem delK_any (g : Nat → List Value) (hg : ∀ j, (g j).length = 2) (h1 : ∀ j, ∀ u ∈ g j, u.oneCell' = true) (base gg n cap p j : Nat) (w : World) (hO : OwnL w base 68 2 (.slice (some ⟨gg, 0, none⟩) n cap) n g) (hj : j = p + 1) (hp : p < n) :
    Calls Tryz.prog 79 #[.slice (some ⟨gg, 0, none⟩) n cap, .int .i64 p, .int .i64 j] w fun e w' => e = .returned (.slice (some ⟨gg, 0, none⟩) (n - 1) cap) ∧ OwnL w' base 68 2 (.slice (some ⟨gg, 0, none⟩) (n - 1) cap) (n - 1) (cutAt p g) ∧ w.grownBy w' (some gg) := by
  obtain ⟨i0, hi0, hz0, hz1, hz2⟩ := info_parts info_rank
  obtain ⟨X, hb, hX, hc, hM', hXs⟩ := OwnL.rowOf hO
  have hM : cap ≤ 9223372036854775807 := hM'
  clear hM'
  have CUT : Hid (OwnL ((w.drew.setCells gg (p * 2) (rowVs (fun j => g (p + 1 + j)) (n - (p + 1)))).setCells gg ((n - 1) * 2) [.string ⟨#[]⟩, .int .i64 0]) base 68 2 (.slice (some ⟨gg, 0, none⟩) (n - 1) cap) (n - 1) (cutAt p g) ∧ w.grownBy ((w.drew.setCells gg (p * 2) (rowVs (fun j => g (p + 1 + j)) (n - (p + 1)))).setCells gg ((n - 1) * 2) [.string ⟨#[]⟩, .int .i64 0]) (some gg)) := own_cut hO hg (by omega) hp rfl ⟨rfl, rfl, rfl, Nat.le_refl _, fun _ _ _ => rfl⟩ (fun _ => rfl)
  have ft := OwnL.at hO hg
  have fc := ListAt.cells ft hg (by omega)
  obtain ⟨news, hnews⟩ : ∃ news, news = rowVs (fun j => g (p + 1 + j)) (n - (p + 1)) := ⟨_, rfl⟩
  have hlen : news.length = (n - j) * 2 := by rw [hnews, hj]; exact rowVs_len (fun j => hg _) _
  have hget : ∀ t u, news[t]? = some u → w.cell? ⟨gg, j * 2 + t, none⟩ = some u := by
    intro t u ht
    rw [hnews, rowVs_tail hg n (p + 1) t (by omega)] at ht
    have := fc _ _ ht
    rw [Addr.add_lit, Nat.zero_add, ← hj] at this
    exact this
  have hjn : j ≤ n := by omega
  obtain ⟨A, hA, hsrc⟩ : ∃ A : Addr, (if cap = j then some (⟨gg, 0, none⟩ : Addr) else some ⟨gg, j * 2, none⟩) = some A ∧ Hid (∀ t u, news[t]? = some u → w.drew.cell? (A.add t) = some u) := by
    by_cases h : cap = j
    · refine ⟨⟨gg, 0, none⟩, by simp [h], fun t u hu => ?_⟩
      have h0 : news.length = 0 := by rw [hlen]; have : n - j = 0 := by omega
                                      rw [this, Nat.zero_mul]
      rw [List.length_eq_zero_iff.1 h0] at hu
      simp at hu
    · refine ⟨⟨gg, j * 2, none⟩, by simp [h], fun t u hu => ?_⟩
      rw [Addr.add_lit]
      exact hget t u hu
  have m2 : n * 2 ≤ cap * 2 := Nat.mul_le_mul_right 2 hc
  have s1 : Hid (news.length = (n - j) * 2) := hlen
  have s2 : Hid (∀ u ∈ news, u.oneCell' = true) := by
    rw [hnews]
    exact rowVs_mem (fun _ => h1 _) _
  have s3 : Hid (∀ t, t < news.length → (w.drew.cell? ⟨gg, 0 + p * 2 + t, none⟩).isSome = true ∧ w.drew.frozen? ⟨gg, 0 + p * 2 + t, none⟩ = false) := by
    intro t ht
    rw [hlen] at ht
    refine ⟨?_, frozen_row hX _⟩
    show (w.cell? _).isSome = true
    rw [cell_row hX, Array.getElem?_eq_getElem (by rw [hXs]; omega)]
    rfl
  obtain ⟨W1, hW1⟩ : ∃ W1, W1 = w.drew.setCells gg (0 + p * 2) news := ⟨_, rfl⟩
  obtain ⟨X1, hX1, hs1⟩ := setCells_heap news (0 + p * 2) w.drew X hX
  rw [← hW1] at hX1
  have hcl : ∀ ty c, (Builtin.clear_ #[31] ty #[.slice (some ⟨gg, (p + (n - j)) * 2, none⟩) (n - (p + (n - j))) c]).run Tryz.prog W1 = .ok (.tuple #[]) (W1.setCells gg ((p + (n - j)) * 2) [.string ⟨#[]⟩, .int .i64 0]) := by
    intro ty c
    have e1 : n - (p + (n - j)) = 1 := by omega
    rw [e1]
    exact run_clear_one W1 _ _ ty _ [.string ⟨#[]⟩, .int .i64 0] Tryz.underlying31 Tryz.zeroValue68 rfl (by simp) (by simp [Value.oneCell']) gg _ c (fun t ht => by
      rw [cell_row hX1, Array.getElem?_eq_getElem (by rw [hs1, hXs]; simp at ht; omega)]
      rfl) (fun t ht => frozen_row hX1 _)
  have HW : Hid (W1 = w.drew.setCells gg (0 + p * 2) news) := hW1
  have HN : Hid (news = rowVs (fun j => g (p + 1 + j)) (n - (p + 1))) := hnews
  have hij : p ≤ j := by omega
  have hne : ¬ ((p : Int) = (j : Int)) := by omega
  have hjc : j ≤ cap := by omega
  have hpc : p ≤ cap := by omega
  have e1 : p + (n - j) ≤ n := by omega
  have e2 : p + (n - j) ≤ cap := by omega
  have e3 : ¬ (cap = p + (n - j)) := by omega
  have HJ : Hid (j = p + 1) := hj
  clear hW1 hnews hlen hget hX1 hX hXs hs1 ft fc hO h1 hg hj
  go_enter Tryz.func79, Tryz.ntmps79
  go_wp2_with fail
  go_region_held3 (fun _ => True) (trivial) (first
    | (refine step_append_room rfl _ _ _ rfl 68 i0 2 Tryz.underlying31 hi0 hz1 gg 0 p cap (by simp [Act.eval, Act.put]) A (n - j) (cap - j) news (by simp [Act.eval, Act.put, hA]) s1.out hsrc.out s2.out (by omega) s3.out ?_; rw [← HW.out]))
  go_wp2_with fail
  go_ret
  have e4 : p + (n - j) = n - 1 := by have := HJ.out; omega
  have C := CUT.out
  rw [e4, HW.out, HN.out, Nat.zero_add]
  exact ⟨rfl, C⟩

set_option maxRecDepth 100000 in
set_option maxHeartbeats 4000000 in
/-- slices.Delete of members: one place. -/
theorem delM_any (g : Nat → List Value) (hg : ∀ j, (g j).length = 3) (h1 : ∀ j, ∀ u ∈ g j, u.oneCell' = true) (base gg n cap p j : Nat) (w : World) (hO : OwnL w base 64 3 (.slice (some ⟨gg, 0, none⟩) n cap) n g) (hj : j = p + 1) (hp : p < n) :
    Calls Tryz.prog 57 #[.slice (some ⟨gg, 0, none⟩) n cap, .int .i64 p, .int .i64 j] w fun e w' => e = .returned (.slice (some ⟨gg, 0, none⟩) (n - 1) cap) ∧ OwnL w' base 64 3 (.slice (some ⟨gg, 0, none⟩) (n - 1) cap) (n - 1) (cutAt p g) ∧ w.grownBy w' (some gg) := by
  obtain ⟨i0, hi0, hz0, hz1, hz2⟩ := info_parts info_mem
  obtain ⟨X, hb, hX, hc, hM', hXs⟩ := OwnL.rowOf hO
  have hM : cap ≤ 9223372036854775807 := hM'
  clear hM'
  have CUT : Hid (OwnL ((w.drew.setCells gg (p * 3) (rowVs (fun j => g (p + 1 + j)) (n - (p + 1)))).setCells gg ((n - 1) * 3) [.string ⟨#[]⟩, .string ⟨#[]⟩, .int .i64 0]) base 64 3 (.slice (some ⟨gg, 0, none⟩) (n - 1) cap) (n - 1) (cutAt p g) ∧ w.grownBy ((w.drew.setCells gg (p * 3) (rowVs (fun j => g (p + 1 + j)) (n - (p + 1)))).setCells gg ((n - 1) * 3) [.string ⟨#[]⟩, .string ⟨#[]⟩, .int .i64 0]) (some gg)) := own_cut hO hg (by omega) hp rfl ⟨rfl, rfl, rfl, Nat.le_refl _, fun _ _ _ => rfl⟩ (fun _ => rfl)
  have ft := OwnL.at hO hg
  have fc := ListAt.cells ft hg (by omega)
  obtain ⟨news, hnews⟩ : ∃ news, news = rowVs (fun j => g (p + 1 + j)) (n - (p + 1)) := ⟨_, rfl⟩
  have hlen : news.length = (n - j) * 3 := by rw [hnews, hj]; exact rowVs_len (fun j => hg _) _
  have hget : ∀ t u, news[t]? = some u → w.cell? ⟨gg, j * 3 + t, none⟩ = some u := by
    intro t u ht
    rw [hnews, rowVs_tail hg n (p + 1) t (by omega)] at ht
    have := fc _ _ ht
    rw [Addr.add_lit, Nat.zero_add, ← hj] at this
    exact this
  have hjn : j ≤ n := by omega
  obtain ⟨A, hA, hsrc⟩ : ∃ A : Addr, (if cap = j then some (⟨gg, 0, none⟩ : Addr) else some ⟨gg, j * 3, none⟩) = some A ∧ Hid (∀ t u, news[t]? = some u → w.drew.cell? (A.add t) = some u) := by
    by_cases h : cap = j
    · refine ⟨⟨gg, 0, none⟩, by simp [h], fun t u hu => ?_⟩
      have h0 : news.length = 0 := by rw [hlen]; have : n - j = 0 := by omega
                                      rw [this, Nat.zero_mul]
      rw [List.length_eq_zero_iff.1 h0] at hu
      simp at hu
    · refine ⟨⟨gg, j * 3, none⟩, by simp [h], fun t u hu => ?_⟩
      rw [Addr.add_lit]
      exact hget t u hu
  have m2 : n * 3 ≤ cap * 3 := Nat.mul_le_mul_right 3 hc
  have s1 : Hid (news.length = (n - j) * 3) := hlen
  have s2 : Hid (∀ u ∈ news, u.oneCell' = true) := by
    rw [hnews]
    exact rowVs_mem (fun _ => h1 _) _
  have s3 : Hid (∀ t, t < news.length → (w.drew.cell? ⟨gg, 0 + p * 3 + t, none⟩).isSome = true ∧ w.drew.frozen? ⟨gg, 0 + p * 3 + t, none⟩ = false) := by
    intro t ht
    rw [hlen] at ht
    refine ⟨?_, frozen_row hX _⟩
    show (w.cell? _).isSome = true
    rw [cell_row hX, Array.getElem?_eq_getElem (by rw [hXs]; omega)]
    rfl
  obtain ⟨W1, hW1⟩ : ∃ W1, W1 = w.drew.setCells gg (0 + p * 3) news := ⟨_, rfl⟩
  obtain ⟨X1, hX1, hs1⟩ := setCells_heap news (0 + p * 3) w.drew X hX
  rw [← hW1] at hX1
  have hcl : ∀ ty c, (Builtin.clear_ #[30] ty #[.slice (some ⟨gg, (p + (n - j)) * 3, none⟩) (n - (p + (n - j))) c]).run Tryz.prog W1 = .ok (.tuple #[]) (W1.setCells gg ((p + (n - j)) * 3) [.string ⟨#[]⟩, .string ⟨#[]⟩, .int .i64 0]) := by
    intro ty c
    have e1 : n - (p + (n - j)) = 1 := by omega
    rw [e1]
    exact run_clear_one W1 _ _ ty _ [.string ⟨#[]⟩, .string ⟨#[]⟩, .int .i64 0] Tryz.underlying30 Tryz.zeroValue64 rfl (by simp) (by simp [Value.oneCell']) gg _ c (fun t ht => by
      rw [cell_row hX1, Array.getElem?_eq_getElem (by rw [hs1, hXs]; simp at ht; omega)]
      rfl) (fun t ht => frozen_row hX1 _)
  have HW : Hid (W1 = w.drew.setCells gg (0 + p * 3) news) := hW1
  have HN : Hid (news = rowVs (fun j => g (p + 1 + j)) (n - (p + 1))) := hnews
  have hij : p ≤ j := by omega
  have hne : ¬ ((p : Int) = (j : Int)) := by omega
  have hjc : j ≤ cap := by omega
  have hpc : p ≤ cap := by omega
  have e1 : p + (n - j) ≤ n := by omega
  have e2 : p + (n - j) ≤ cap := by omega
  have e3 : ¬ (cap = p + (n - j)) := by omega
  have HJ : Hid (j = p + 1) := hj
  clear hW1 hnews hlen hget hX1 hX hXs hs1 ft fc hO h1 hg hj
  go_enter Tryz.func57, Tryz.ntmps57
  go_wp2_with fail
  go_region_held3 (fun _ => True) (trivial) (first
    | (refine step_append_room rfl _ _ _ rfl 64 i0 3 Tryz.underlying30 hi0 hz1 gg 0 p cap (by simp [Act.eval, Act.put]) A (n - j) (cap - j) news (by simp [Act.eval, Act.put, hA]) s1.out hsrc.out s2.out (by omega) s3.out ?_; rw [← HW.out]))
  go_wp2_with fail
  go_ret
  have e4 : p + (n - j) = n - 1 := by have := HJ.out; omega
  have C := CUT.out
  rw [e4, HW.out, HN.out, Nat.zero_add]
  exact ⟨rfl, C⟩
end Go.Proofs.YtgjlgddglgffmaaGreatDoor.Hub
namespace Go.Proofs.YtgjlgddglgffmaaGreatDoor.Hub
open Go.RowKit
set_option linter.unusedVariables false
set_option linter.unusedSimpArgs false

theorem lt_row {s a b i : Nat} (h : a < b) (hi : i < s) : a * s + i < b * s := by
  have : (a + 1) * s ≤ b * s := Nat.mul_le_mul_right s h
  rw [Nat.succ_mul] at this
  omega
theorem drew_cells (b : Nat) : ∀ (vs : List Value) (o : Nat) (w : World), w.drew.setCells b o vs = (w.setCells b o vs).drew
  | [], _, _ => rfl
  | v :: r, o, w => by rw [World.setCells, World.setCells, ← drew_cells b r]; rfl
/-- What a place put in leaves, where the row has room. -/
theorem own_shift {W W1 : World} {base gg n cap s p : Nat} {T : TypeId} {g : Nat → List Value} {x : List Value} (hO : OwnL W base T s (.slice (some ⟨gg, 0, none⟩) n cap) n g) (hg : ∀ j, (g j).length = s) (hs : 0 < s) (hp : p < n) (hr : n + 1 ≤ cap) (hx : x.length = s) (hW : W.grownBy W1 (some gg)) (hh : ∀ y : Nat, W1.heap[y]? = W.heap[y]?) :
    OwnL ((W1.setCells gg ((p + 1) * s) (rowVs (fun j => g (p + j)) (n - p))).setCells gg (p * s) x) base T s (.slice (some ⟨gg, 0, none⟩) (n + 1) cap) (n + 1) (insAt p x g) ∧ W.grownBy ((W1.setCells gg ((p + 1) * s) (rowVs (fun j => g (p + j)) (n - p))).setCells gg (p * s) x) (some gg) := by
  obtain ⟨X, hb, hX, hc, hM, hXs⟩ := OwnL.rowOf hO
  have cel := OwnL.cellsOf hO hg
  have hX1 : W1.heap[gg]? = some (.cells X T (0, 0)) := (hh gg).trans hX
  have c1 : ∀ x, W1.cell? x = W.cell? x := fun x => World.cell?_of_block (hh x.block)
  obtain ⟨X2, hX2, hs2⟩ := setCells_heap (rowVs (fun j => g (p + j)) (n - p)) ((p + 1) * s) W1 X hX1
  obtain ⟨X3, hX3, hs3⟩ := setCells_heap x (p * s) _ X2 hX2
  have hl : (rowVs (fun j => g (p + j)) (n - p)).length = (n - p) * s := rowVs_len (fun j => hg _) _
  have m2 : (n + 1) * s ≤ cap * s := Nat.mul_le_mul_right s hr
  have m3 : (p + 1) * s + (n - p) * s = (n + 1) * s := by rw [← Nat.add_mul]; congr 1; omega
  have m4 : (p + 1) * s = p * s + s := Nat.succ_mul p s
  refine ⟨own_cells (X := X3) (fun j => by unfold insAt; split; exact hg _; split; exact hx; exact hg _) hs hb hX3 hr hM (by rw [hs3, hs2, hXs]) ?_, setCells_grown _ _ _ _ (setCells_grown _ _ _ _ hW)⟩
  intro j hj i hi
  have hin : ∀ t, t < (rowVs (fun j => g (p + j)) (n - p)).length → (W1.cell? ⟨gg, (p + 1) * s + t, none⟩).isSome = true := by
    intro t ht
    rw [cell_row hX1, Array.getElem?_eq_getElem (by rw [hXs]; rw [hl] at ht; omega)]
    rfl
  have hin2 : ∀ t, t < x.length → ((W1.setCells gg ((p + 1) * s) (rowVs (fun j => g (p + j)) (n - p))).cell? ⟨gg, p * s + t, none⟩).isSome = true := by
    intro t ht
    rw [cell_row hX2, Array.getElem?_eq_getElem (by rw [hs2, hXs]; rw [hx] at ht; omega)]
    rfl
  unfold insAt
  by_cases hjp : j < p
  · rw [if_pos hjp]
    have mp := lt_row hjp hi
    rw [World.cell?_setCells_out gg _ _ _ _ (fun _ _ => Or.inl mp), World.cell?_setCells_out gg _ _ _ _ (fun _ _ => Or.inl (by show j * s + i < (p + 1) * s; omega)), c1]
    exact cel j (by omega) i hi
  · rw [if_neg hjp]
    by_cases hje : j = p
    · rw [if_pos hje, hje]
      have h := World.cell?_setCells_in gg x (p * s) _ hin2 i (by omega)
      rw [h, ← List.getElem?_eq_getElem]
    · rw [if_neg hje]
      have mq : (p + 1) * s + ((j - (p + 1)) * s + i) = j * s + i := by rw [← Nat.add_assoc, ← Nat.add_mul]; congr 2; omega
      have mt : (j - (p + 1)) * s + i < (rowVs (fun j => g (p + j)) (n - p)).length := by rw [hl]; exact lt_row (by omega) hi
      have mu : (p + 1) * s ≤ j * s := Nat.mul_le_mul_right s (by omega)
      have h := World.cell?_setCells_in gg _ ((p + 1) * s) W1 hin ((j - (p + 1)) * s + i) mt
      rw [mq] at h
      rw [World.cell?_setCells_out gg x _ _ _ (fun _ _ => Or.inr (by show p * s + x.length ≤ j * s + i; omega)), h, ← List.getElem?_eq_getElem mt, rowVs_at (fun j => hg _) _ _ _ (by omega) hi]
      congr 2
      omega
/-- What a place put in leaves in a new row. -/
theorem own_fresh {W W1 : World} {base L n G s p : Nat} {T : TypeId} {g : Nat → List Value} {x : List Value} {ROW : Array Value} (hg : ∀ j, (g j).length = s) (hs : 0 < s) (hp : p < n) (hr : n + 1 ≤ G) (hM : G ≤ maxLen) (hx : x.length = s) (hb : base ≤ L) (hL : L = W.heap.size) (hW : W.grownBy W1 none) (hX1 : W1.heap[L]? = some (.cells ROW T (0, 0))) (hRs : ROW.size = G * s) (hR : ∀ t, t < p * s → ROW[t]? = (rowVs g p)[t]?) :
    OwnL ((W1.setCells L (p * s) x).setCells L ((p + 1) * s) (rowVs (fun j => g (p + j)) (n - p))) base T s (.slice (some ⟨L, 0, none⟩) (n + 1) G) (n + 1) (insAt p x g) ∧ W.grownBy ((W1.setCells L (p * s) x).setCells L ((p + 1) * s) (rowVs (fun j => g (p + j)) (n - p))) none := by
  obtain ⟨X2, hX2, hs2⟩ := setCells_heap x (p * s) W1 ROW hX1
  obtain ⟨X3, hX3, hs3⟩ := setCells_heap (rowVs (fun j => g (p + j)) (n - p)) ((p + 1) * s) _ X2 hX2
  have hl : (rowVs (fun j => g (p + j)) (n - p)).length = (n - p) * s := rowVs_len (fun j => hg _) _
  have m2 : (n + 1) * s ≤ G * s := Nat.mul_le_mul_right s hr
  have m3 : (p + 1) * s + (n - p) * s = (n + 1) * s := by rw [← Nat.add_mul]; congr 1; omega
  have m4 : (p + 1) * s = p * s + s := Nat.succ_mul p s
  have gr : W.grownBy ((W1.setCells L (p * s) x).setCells L ((p + 1) * s) (rowVs (fun j => g (p + j)) (n - p))) (some L) := setCells_grown _ _ _ _ (setCells_grown _ _ _ _ ⟨hW.os, hW.tape, hW.output, hW.size, fun k hk _ => hW.block k hk (by simp)⟩)
  refine ⟨own_cells (X := X3) (fun j => by unfold insAt; split; exact hg _; split; exact hx; exact hg _) hs hb hX3 hr hM (by rw [hs3, hs2, hRs]) ?_, gr.os, gr.tape, gr.output, gr.size, fun k hk _ => gr.block k hk (by intro e; have := Option.some.inj e; omega)⟩
  intro j hj i hi
  have hin : ∀ t, t < x.length → (W1.cell? ⟨L, p * s + t, none⟩).isSome = true := by
    intro t ht
    rw [cell_row hX1, Array.getElem?_eq_getElem (by rw [hRs]; rw [hx] at ht; omega)]
    rfl
  have hin2 : ∀ t, t < (rowVs (fun j => g (p + j)) (n - p)).length → ((W1.setCells L (p * s) x).cell? ⟨L, (p + 1) * s + t, none⟩).isSome = true := by
    intro t ht
    rw [cell_row hX2, Array.getElem?_eq_getElem (by rw [hs2, hRs]; rw [hl] at ht; omega)]
    rfl
  unfold insAt
  by_cases hjp : j < p
  · rw [if_pos hjp]
    have mp := lt_row hjp hi
    rw [World.cell?_setCells_out L _ _ _ _ (fun _ _ => Or.inl (by show j * s + i < (p + 1) * s; omega)), World.cell?_setCells_out L _ _ _ _ (fun _ _ => Or.inl mp), cell_row hX1, hR _ mp]
    exact rowVs_at hg _ _ _ hjp hi
  · rw [if_neg hjp]
    by_cases hje : j = p
    · rw [if_pos hje, hje, World.cell?_setCells_out L _ _ _ _ (fun _ _ => Or.inl (by show p * s + i < (p + 1) * s; omega))]
      have h := World.cell?_setCells_in L x (p * s) _ hin i (by omega)
      rw [h, ← List.getElem?_eq_getElem]
    · rw [if_neg hje]
      have mq : (p + 1) * s + ((j - (p + 1)) * s + i) = j * s + i := by rw [← Nat.add_assoc, ← Nat.add_mul]; congr 2; omega
      have mt : (j - (p + 1)) * s + i < (rowVs (fun j => g (p + j)) (n - p)).length := by rw [hl]; exact lt_row (by omega) hi
      have h := World.cell?_setCells_in L _ ((p + 1) * s) _ hin2 ((j - (p + 1)) * s + i) mt
      rw [mq] at h
      rw [h, ← List.getElem?_eq_getElem mt, rowVs_at (fun j => hg _) _ _ _ (by omega) hi]
      congr 2
      omega
theorem ins_end {n : Nat} {x : List Value} {g : Nat → List Value} : rowVs (insAt n x g) (n + 1) = rowVs g n ++ rowVs (fun _ => x) 1 := by
  rw [rowVs_succ, rowVs_congr n (g := insAt n x g) (g' := g) (fun j hj => by unfold insAt; rw [if_pos hj])]
  have : insAt n x g n = x := by unfold insAt; simp
  rw [this]
  simp [rowVs]

set_option maxRecDepth 100000 in
set_option maxHeartbeats 4000000 in
/-- slices.Insert of a rank at the end. -/
theorem ins_end_any (g : Nat → List Value) (hg : ∀ j, (g j).length = 2) (h1 : ∀ j, ∀ u ∈ g j, u.oneCell' = true) (base n : Nat) (v vx : Value) (x : List Value) (hx : x.length = 2) (hx1 : ∀ u ∈ x, u.oneCell' = true) (w : World) (hO : OwnL w base 68 2 v n g) (HX : ListAt w 2 vx 1 (fun _ => x)) (hn : n ≤ 1000) (hbase : base ≤ w.heap.size) :
    Calls Tryz.prog 80 #[v, .int .i64 n, vx] w fun e w' => (∃ v', e = .returned v' ∧ OwnL w' base 68 2 v' (n + 1) (insAt n x g) ∧ (v'.ownBlock = v.ownBlock ∨ v'.ownBlock = some w.heap.size)) ∧ w.grownBy w' v.ownBlock := by
  obtain ⟨ii, hii, hy0, hy1, hy2⟩ := info_parts info_rank
  obtain ⟨o, cap, rfl, hc, hM'⟩ : ∃ o cap, v = .slice o n cap ∧ n ≤ cap ∧ cap ≤ maxLen := by
    rcases hO.2 with ⟨e, h0⟩ | ⟨g', c, cur, e, _, _, h1, h2, _⟩
    · exact ⟨none, 0, by rw [e, h0], by omega, by unfold maxLen; omega⟩
    · exact ⟨_, _, e, h1, h2⟩
  have hM : cap ≤ 9223372036854775807 := hM'
  clear hM'
  obtain ⟨ox, cx, rfl, hcx, hMx', -⟩ := id HX
  have hMx : cx ≤ 9223372036854775807 := hMx'
  clear hMx'
  have HH : Hid (ListAt w 2 (.slice ox 1 cx) 1 (fun _ => x)) := HX
  have HO : Hid (OwnL w base 68 2 (.slice o n cap) n g) := hO
  have H1 : Hid (∀ u ∈ rowVs (fun _ : Nat => x) 1, u.oneCell' = true) := rowVs_mem (fun _ => hx1) 1
  have HXL : Hid (x.length = 2) := hx
  have HG : Hid (∀ j, (g j).length = 2) := hg
  clear HX hO h1 hx1 hx hg
  by_cases hcn : n = cap
  · subst hcn
    go_enter Tryz.func80, Tryz.ntmps80
    go_wp2_with (at_builtin; refine wpList_append_list rfl _ _ _ rfl base 68 ii _ 2 24 Tryz.underlying31 hii hy0 hy1 hy2 rfl (by omega) (.slice o n n) n (rowVs g n) rfl HO.out _ 1 (fun _ => x) rfl HH.out (fun _ => HXL.out) H1.out (by unfold maxLen; omega) (by omega) hbase w.heap.size rfl ?_; intro oo cc w2 hown2 hgrow2 hat2; have HW2 : Hid (w2.ownsRow base 68 2 (.slice oo (n + 1) cc) (n + 1) (rowVs g n ++ rowVs (fun _ => x) 1)) := hown2; clear hown2)
    go_ret
    have h := HW2.out
    rw [← ins_end] at h
    exact ⟨⟨.slice oo (n + 1) cc, rfl, h, hat2⟩, hgrow2⟩
  · have hcn' : ¬ (cap = n) := fun e => hcn e.symm
    go_enter Tryz.func80, Tryz.ntmps80
    go_wp2_with (at_builtin; refine wpList_append_list rfl _ _ _ rfl base 68 ii _ 2 24 Tryz.underlying31 hii hy0 hy1 hy2 rfl (by omega) (.slice o n cap) n (rowVs g n) rfl HO.out _ 1 (fun _ => x) rfl HH.out (fun _ => HXL.out) H1.out (by unfold maxLen; omega) (by omega) hbase w.heap.size rfl ?_; intro oo cc w2 hown2 hgrow2 hat2; have HW2 : Hid (w2.ownsRow base 68 2 (.slice oo (n + 1) cc) (n + 1) (rowVs g n ++ rowVs (fun _ => x) 1)) := hown2; clear hown2)
    go_ret
    have h := HW2.out
    rw [← ins_end] at h
    exact ⟨⟨.slice oo (n + 1) cc, rfl, h, hat2⟩, hgrow2⟩

set_option maxRecDepth 100000 in
set_option maxHeartbeats 4000000 in
/-- slices.Insert of a rank in the middle, with room. -/
theorem ins_shift_any (g : Nat → List Value) (hg : ∀ j, (g j).length = 2) (h1 : ∀ j, ∀ u ∈ g j, u.oneCell' = true) (base gg n cap p vb : Nat) (Y : TypeId) (a b : Value) (x : List Value) (ha : x = [a, b]) (hx1 : ∀ u ∈ x, u.oneCell' = true) (w : World) (hO : OwnL w base 68 2 (.slice (some ⟨gg, 0, none⟩) n cap) n g) (hvb : w.heap[vb]? = some (.cells #[a, b] Y (0, 0))) (hne : vb ≠ gg) (hp : p < n) (hr : n + 1 ≤ cap) :
    Calls Tryz.prog 80 #[.slice (some ⟨gg, 0, none⟩) n cap, .int .i64 p, .slice (some ⟨vb, 0, none⟩) 1 1] w fun e w' => e = .returned (.slice (some ⟨gg, 0, none⟩) (n + 1) cap) ∧ OwnL w' base 68 2 (.slice (some ⟨gg, 0, none⟩) (n + 1) cap) (n + 1) (insAt p x g) ∧ w.grownBy w' (some gg) := by
  obtain ⟨i0, hi0, hz0, hz1, hz2⟩ := info_parts info_rank
  obtain ⟨X, hb, hX, hc, hM', hXs⟩ := OwnL.rowOf hO
  have hM : cap ≤ 9223372036854775807 := hM'
  clear hM'
  subst ha
  have FIN : Hid (OwnL ((w.drew.setCells gg ((p + 1) * 2) (rowVs (fun j => g (p + j)) (n - p))).setCells gg (p * 2) [a, b]) base 68 2 (.slice (some ⟨gg, 0, none⟩) (n + 1) cap) (n + 1) (insAt p [a, b] g) ∧ w.grownBy ((w.drew.setCells gg ((p + 1) * 2) (rowVs (fun j => g (p + j)) (n - p))).setCells gg (p * 2) [a, b]) (some gg)) := own_shift hO hg (by omega) hp hr rfl ⟨rfl, rfl, rfl, Nat.le_refl _, fun _ _ _ => rfl⟩ (fun _ => rfl)
  have ft := OwnL.at hO hg
  have fc := ListAt.cells ft hg (by omega)
  obtain ⟨tl, htl⟩ : ∃ tl, tl = rowVs (fun j => g (p + j)) (n - p) := ⟨_, rfl⟩
  have hlen : tl.length = (n - p) * 2 := by rw [htl]; exact rowVs_len (fun j => hg _) _
  have m2 : (n + 1) * 2 ≤ cap * 2 := Nat.mul_le_mul_right 2 hr
  have hov : ∀ lb cb, (callFunc 94 #[.slice (some ⟨vb, 0, none⟩) 1 1, .slice (some ⟨gg, (p + 1) * 2, none⟩) lb cb]).run Tryz.prog w = .ok (.value (.bool false)) w := fun lb cb => by
    rw [run_callFunc_extern Tryz.func94 (by kernel_rfl) (by kernel_rfl) (by kernel_rfl) (e := Extern.SlicesOverlaps.overlaps #[31, 31] #[4]) (by kernel_rfl),
      Lib.run_overlaps_apart w 31 4 68 Tryz.underlying31 2 Tryz.sizeOf68 ⟨vb, 0, none⟩ ⟨gg, (p + 1) * 2, none⟩ 1 1 lb cb hne Y 68 2 X.size (by simp [World.shape?, hvb]) (by simp [World.shape?, hX]) (by omega) (frozen_row hvb 0) (by simp [World.frozen?, hvb])]
    rfl
  have hcp1 : ∀ ty dc sc, (Builtin.copy_ #[31, 31] ty #[.slice (some ⟨gg, (p + 1) * 2, none⟩) (n + 1 - (p + 1)) dc, .slice (some ⟨gg, p * 2, none⟩) (n + 1 - p) sc]).run Tryz.prog w.drew = .ok (goInt ((n - p : Nat) : Int)) (w.drew.setCells gg ((p + 1) * 2) tl) := fun ty dc sc =>
    run_copy_any w.drew _ _ ty 68 gg ((p + 1) * 2) (n + 1 - (p + 1)) dc ⟨gg, p * 2, none⟩ (n + 1 - p) sc tl i0 2 (n - p) Tryz.underlying31 hi0 hz1 (by simp only [Nat.min_def]; split <;> omega) hlen
      (fun j v hj => by
        rw [Addr.add_lit]
        rw [htl, rowVs_tail hg n p j (by omega)] at hj
        have := fc _ _ hj
        rw [Addr.add_lit, Nat.zero_add] at this
        exact this)
      (fun j hj => by
        show (w.cell? _).isSome = true
        rw [cell_row hX, Array.getElem?_eq_getElem (by rw [hXs]; omega)]
        rfl)
      (fun j hj => frozen_row hX _) (by rw [htl]; exact rowVs_mem (fun _ => h1 _) _)
  obtain ⟨W1, hW1⟩ : ∃ W1, W1 = w.drew.setCells gg ((p + 1) * 2) tl := ⟨_, rfl⟩
  obtain ⟨X1, hX1, hs1⟩ := setCells_heap tl ((p + 1) * 2) w.drew X hX
  have gr1 : w.grownBy (w.drew.setCells gg ((p + 1) * 2) tl) (some gg) := setCells_grown _ _ _ _ ⟨rfl, rfl, rfl, Nat.le_refl _, fun _ _ _ => rfl⟩
  rw [← hW1] at hX1 gr1 hcp1
  have hvl : vb < w.heap.size := (Array.getElem?_eq_some_iff.1 hvb).1
  have hvb1 : W1.heap[vb]? = some (.cells #[a, b] Y (0, 0)) := (gr1.block vb hvl (by intro e; exact hne (Option.some.inj e))).trans hvb
  have hcp2 : ∀ ty dl dc, 1 ≤ dl → (Builtin.copy_ #[31, 31] ty #[.slice (some ⟨gg, p * 2, none⟩) dl dc, .slice (some ⟨vb, 0, none⟩) 1 1]).run Tryz.prog W1 = .ok (goInt 1) (W1.setCells gg (p * 2) [a, b]) := fun ty dl dc hdl =>
    run_copy_any W1 _ _ ty 68 gg (p * 2) dl dc ⟨vb, 0, none⟩ 1 1 [a, b] i0 2 1 Tryz.underlying31 hi0 hz1 (by simp only [Nat.min_def]; split <;> omega) rfl
      (fun j v hj => by
        rw [Addr.add_lit, Nat.zero_add, cell_row hvb1]
        simpa using hj)
      (fun j hj => by
        rw [cell_row hX1, Array.getElem?_eq_getElem (by rw [hs1, hXs]; simp at hj; omega)]
        rfl)
      (fun j hj => frozen_row hX1 _) hx1
  have HW : Hid (W1 = w.drew.setCells gg ((p + 1) * 2) tl) := hW1
  have HT : Hid (tl = rowVs (fun j => g (p + j)) (n - p)) := htl
  have hz2 : ¬ ((p : Int) = (n : Int)) := by omega
  have hw1 : IntKind.i64.wrap ((p : Int) + 1) = (p : Int) + 1 := by rw [IntKind.wrap_i64]; omega
  have hw2 : IntKind.i64.wrap ((n : Int) + 1) = (n : Int) + 1 := by rw [IntKind.wrap_i64]; omega
  have hb1 : (0 : Int) ≤ (p : Int) + 1 := by omega
  have hb2 : (0 : Int) ≤ (n : Int) + 1 := by omega
  have htn : ((p : Int) + 1).toNat = p + 1 := by omega
  have htn2 : ((n : Int) + 1).toNat = n + 1 := by omega
  have hb3 : (p : Int) ≤ (n : Int) + 1 := by omega
  have hb5 : (n : Int) + 1 ≤ (cap : Int) := by omega
  have hb6 : ¬ ((cap : Int) < (n : Int) + 1) := by omega
  have hb4 : ¬ (cap = p + 1) := by omega
  have hb7 : ¬ (cap = p) := by omega
  have hb8 : (p : Int) + 1 ≤ (n : Int) + 1 := by omega
  clear hW1 htl hlen hX1 hX hXs hs1 ft fc hO h1 hg hx1 gr1 hvb1 hvb hvl
  go_enter Tryz.func80, Tryz.ntmps80
  go_wp2_with (simp only [hov])
  go_region_held3 (fun _ => True) (trivial) (first
    | (refine step_copied rfl _ _ _ _ rfl (.slice (some ⟨gg, (p + 1) * 2, none⟩) (n + 1 - (p + 1)) (cap - (p + 1))) (.slice (some ⟨gg, p * 2, none⟩) (n + 1 - p) (cap - p)) _ _ (by simp [Act.eval, Act.put]) (by simp [Act.eval, Act.put]) (hcp1 _ _ _) ?_))
  go_wp2_with (refine wpList_copied _ rfl _ _ _ _ rfl (.slice (some ⟨gg, p * 2, none⟩) (n + 1 - p) (cap - p)) (.slice (some ⟨vb, 0, none⟩) 1 1) _ _ rfl rfl (hcp2 _ _ _ (by omega)) ?_)
  go_ret
  have F := FIN.out
  rw [HW.out, HT.out]
  exact ⟨rfl, F⟩

set_option maxRecDepth 100000 in
set_option maxHeartbeats 4000000 in
/-- slices.Insert of a rank in the middle, without room. -/
theorem ins_grow_any (g : Nat → List Value) (hg : ∀ j, (g j).length = 2) (h1 : ∀ j, ∀ u ∈ g j, u.oneCell' = true) (base gg n cap p vb : Nat) (Y : TypeId) (a b : Value) (x : List Value) (ha : x = [a, b]) (hx1 : ∀ u ∈ x, u.oneCell' = true) (w : World) (hO : OwnL w base 68 2 (.slice (some ⟨gg, 0, none⟩) n cap) n g) (hvb : w.heap[vb]? = some (.cells #[a, b] Y (0, 0))) (hn : n ≤ 1000) (hp : p < n) (hr : cap < n + 1) (hbase : base ≤ w.heap.size) :
    Calls Tryz.prog 80 #[.slice (some ⟨gg, 0, none⟩) n cap, .int .i64 p, .slice (some ⟨vb, 0, none⟩) 1 1] w fun e w' => (∃ G : Nat, e = .returned (.slice (some ⟨w.heap.size, 0, none⟩) (n + 1) G) ∧ OwnL w' base 68 2 (.slice (some ⟨w.heap.size, 0, none⟩) (n + 1) G) (n + 1) (insAt p x g)) ∧ w.grownBy w' none := by
  obtain ⟨i0, hi0, hz0, hz1, hz2⟩ := info_parts info_rank
  obtain ⟨X, hb, hX, hc, hM', hXs⟩ := OwnL.rowOf hO
  have hM : cap ≤ 9223372036854775807 := hM'
  clear hM'
  subst ha
  have ft := OwnL.at hO hg
  have fc := ListAt.cells ft hg (by omega)
  have hgl : gg < w.heap.size := (Array.getElem?_eq_some_iff.1 hX).1
  have hvl : vb < w.heap.size := (Array.getElem?_eq_some_iff.1 hvb).1
  obtain ⟨tl, htl⟩ : ∃ tl, tl = rowVs (fun j => g (p + j)) (n - p) := ⟨_, rfl⟩
  have hlen : tl.length = (n - p) * 2 := by rw [htl]; exact rowVs_len (fun j => hg _) _
  have hkk : (n : Int) + 1 - (p : Int) = ((n + 1 - p : Nat) : Int) := by omega
  have hik : p + (n + 1 - p) = n + 1 := by omega
  have m1 : p * 2 ≤ n * 2 := Nat.mul_le_mul_right 2 (by omega)
  have hold : (Builtin.firstCells i0.size p (.slice (some ⟨gg, 0, none⟩) p cap)).run Tryz.prog w.drew = .ok (rowVs g p).toArray w.drew := by
    rw [hz1]
    exact run_firstCells_some w.drew 2 p ⟨gg, 0, none⟩ p cap (rowVs g p) (rowVs_len hg p) (fun j v hj => by
      have hlt : j < p * 2 := by
        have := (List.getElem?_eq_some_iff.1 hj).1
        rwa [rowVs_len hg] at this
      refine fc j v ?_
      have e : n = p + (n - p) := by omega
      have h := rowVs_add g p (n - p)
      rw [← e] at h
      rw [h, List.getElem?_append_left (by rw [rowVs_len hg]; exact hlt)]
      exact hj)
  have hrz : ∀ ty, (Builtin.append_ #[31, 3] ty #[.slice (some ⟨gg, 0, none⟩) p cap, .int .i64 ((n : Int) + 1 - (p : Int))]).run Tryz.prog w = .ok (.slice (some ⟨w.heap.size, 0, none⟩) (n + 1) (grownCap w (n + 1) cap 68)) (w.drew.alloc (.cells ((rowVs g p).toArray ++ Builtin.zeroCells (Value.agg #[.string ⟨#[]⟩, .int .i64 0]).cells (n + 1 - p) ++ Builtin.zeroCells (Value.agg #[.string ⟨#[]⟩, .int .i64 0]).cells (grownCap w (n + 1) cap 68 - (n + 1))) 68)) := fun ty => by
    have h := Lib.run_append_grow_zeros w 31 3 ty 68 i0 _ .i64 .i64 Tryz.underlying31 Tryz.underlying3 hi0 hz0 (some ⟨gg, 0, none⟩) p cap (rowVs g p) hold (n + 1 - p) (by omega) (by omega) (by omega) (by omega) (by rw [hz2]; omega) (by rw [hz2, hik]; exact growslice_fits hr (by omega))
    rw [hik] at h
    rw [hkk]
    exact h
  have hGn : n + 1 ≤ grownCap w (n + 1) cap 68 := grownCap_ge w _ _ _
  have hG63' := grownCap_le_maxLen w (n + 1) cap 68 (by unfold maxLen; omega)
  obtain ⟨G, hG⟩ : ∃ G, G = grownCap w (n + 1) cap 68 := ⟨_, rfl⟩
  rw [← hG] at hrz hGn hG63'
  obtain ⟨ROW, hROW⟩ : ∃ ROW : Array Value, ROW = (rowVs g p).toArray ++ Builtin.zeroCells (Value.agg #[.string ⟨#[]⟩, .int .i64 0]).cells (n + 1 - p) ++ Builtin.zeroCells (Value.agg #[.string ⟨#[]⟩, .int .i64 0]).cells (G - (n + 1)) := ⟨_, rfl⟩
  rw [← hROW] at hrz
  have hRs : ROW.size = G * 2 := by
    rw [hROW, Array.size_append, Array.size_append, size_zeroCells, size_zeroCells]
    have e : (Value.agg #[.string ⟨#[]⟩, .int .i64 0]).cells.size = 2 := rfl
    rw [e, List.size_toArray, rowVs_len hg]
    omega
  have hR : ∀ t, t < p * 2 → ROW[t]? = (rowVs g p)[t]? := fun t ht => by
    have hl : t < (rowVs g p).toArray.size := by rw [List.size_toArray, rowVs_len hg]; exact ht
    rw [hROW, Array.append_assoc, Array.getElem?_append_left hl]
    simp
  have FIN : Hid (OwnL (((w.drew.alloc (.cells ROW 68)).setCells w.heap.size (p * 2) [a, b]).setCells w.heap.size ((p + 1) * 2) (rowVs (fun j => g (p + j)) (n - p))) base 68 2 (.slice (some ⟨w.heap.size, 0, none⟩) (n + 1) G) (n + 1) (insAt p [a, b] g) ∧ w.grownBy (((w.drew.alloc (.cells ROW 68)).setCells w.heap.size (p * 2) [a, b]).setCells w.heap.size ((p + 1) * 2) (rowVs (fun j => g (p + j)) (n - p))) none) := own_fresh hg (by omega) hp hGn hG63' rfl hbase rfl (by have h := World.grownBy_alloc w.drew (.cells ROW 68) none; exact ⟨h.os, h.tape, h.output, h.size, h.block⟩) (World.alloc_heap_new w.drew _) hRs hR
  have hG63 : G ≤ 9223372036854775807 := hG63'
  clear hG63'
  obtain ⟨W1, hW1⟩ : ∃ W1, W1 = w.drew.alloc (.cells ROW 68) := ⟨_, rfl⟩
  have hX1 : W1.heap[w.heap.size]? = some (.cells ROW 68 (0, 0)) := by rw [hW1]; exact World.alloc_heap_new w.drew _
  have hvb1 : W1.heap[vb]? = some (.cells #[a, b] Y (0, 0)) := by rw [hW1, Below.heap_alloc _ _ _ (by exact hvl)]; exact hvb
  have hgg1 : W1.heap[gg]? = some (.cells X 68 (0, 0)) := by rw [hW1, Below.heap_alloc _ _ _ (by exact hgl)]; exact hX
  obtain ⟨W2, hW2⟩ : ∃ W2, W2 = W1.setCells w.heap.size (p * 2) [a, b] := ⟨_, rfl⟩
  obtain ⟨X2, hX2, hs2⟩ := setCells_heap [a, b] (p * 2) W1 ROW hX1
  have gr2 : W1.grownBy (W1.setCells w.heap.size (p * 2) [a, b]) (some w.heap.size) := setCells_grown _ _ _ _ ⟨rfl, rfl, rfl, Nat.le_refl _, fun _ _ _ => rfl⟩
  have m2 : (n + 1) * 2 ≤ G * 2 := Nat.mul_le_mul_right 2 hGn
  rw [← hW2] at hX2 gr2
  have hgg2 : W2.heap[gg]? = some (.cells X 68 (0, 0)) := (gr2.block gg (by rw [hW1]; simp; omega) (by intro e; have := Option.some.inj e; omega)).trans hgg1
  have hcpA : ∀ ty dc, (Builtin.copy_ #[31, 31] ty #[.slice (some ⟨w.heap.size, p * 2, none⟩) (n + 1 - p) dc, .slice (some ⟨vb, 0, none⟩) 1 1]).run Tryz.prog W1 = .ok (goInt ((1 : Nat) : Int)) W2 := fun ty dc => by
    rw [hW2]
    exact run_copy_any W1 _ _ ty 68 w.heap.size (p * 2) (n + 1 - p) dc ⟨vb, 0, none⟩ 1 1 [a, b] i0 2 1 Tryz.underlying31 hi0 hz1 (by simp only [Nat.min_def]; split <;> omega) rfl
      (fun j v hj => by
        rw [Addr.add_lit, Nat.zero_add, cell_row hvb1]
        simpa using hj)
      (fun j hj => by
        rw [cell_row hX1, Array.getElem?_eq_getElem (by rw [hRs]; simp at hj; omega)]
        rfl)
      (fun j hj => frozen_row hX1 _) hx1
  have hcpB : ∀ ty dc sc, (Builtin.copy_ #[31, 31] ty #[.slice (some ⟨w.heap.size, (p + 1) * 2, none⟩) (n + 1 - (p + 1)) dc, .slice (some ⟨gg, p * 2, none⟩) (n - p) sc]).run Tryz.prog W2.drew = .ok (goInt ((n - p : Nat) : Int)) (W2.drew.setCells w.heap.size ((p + 1) * 2) tl) := fun ty dc sc =>
    run_copy_any W2.drew _ _ ty 68 w.heap.size ((p + 1) * 2) (n + 1 - (p + 1)) dc ⟨gg, p * 2, none⟩ (n - p) sc tl i0 2 (n - p) Tryz.underlying31 hi0 hz1 (by simp only [Nat.min_def]; split <;> omega) hlen
      (fun j v hj => by
        rw [Addr.add_lit]
        rw [htl, rowVs_tail hg n p j (by omega)] at hj
        have := fc _ _ hj
        rw [Addr.add_lit, Nat.zero_add, cell_row hX] at this
        show W2.cell? _ = _
        rw [cell_row hgg2]
        exact this)
      (fun j hj => by
        show (W2.cell? _).isSome = true
        rw [cell_row hX2, Array.getElem?_eq_getElem (by rw [hs2, hRs]; omega)]
        rfl)
      (fun j hj => frozen_row hX2 _) (by rw [htl]; exact rowVs_mem (fun _ => h1 _) _)
  rw [← hW1] at hrz
  have HW1 : Hid (W1 = w.drew.alloc (.cells ROW 68)) := hW1
  have HW2 : Hid (W2 = W1.setCells w.heap.size (p * 2) [a, b]) := hW2
  have HT : Hid (tl = rowVs (fun j => g (p + j)) (n - p)) := htl
  have hz2 : ¬ ((p : Int) = (n : Int)) := by omega
  have hw1 : IntKind.i64.wrap ((p : Int) + 1) = (p : Int) + 1 := by rw [IntKind.wrap_i64]; omega
  have hw2 : IntKind.i64.wrap ((n : Int) + 1) = (n : Int) + 1 := by rw [IntKind.wrap_i64]; omega
  have hw3 : IntKind.i64.wrap ((n : Int) + 1 - (p : Int)) = (n : Int) + 1 - (p : Int) := by rw [IntKind.wrap_i64]; omega
  have hb1 : (0 : Int) ≤ (p : Int) + 1 := by omega
  have htn : ((p : Int) + 1).toNat = p + 1 := by omega
  have hb6 : (cap : Int) < (n : Int) + 1 := by omega
  have hb8 : (p : Int) + 1 ≤ (n : Int) + 1 := by omega
  have hb9 : (p : Int) ≤ (n : Int) + 1 := by omega
  have hb10 : (p : Int) ≤ (n : Int) := by omega
  have hb11 : (p : Int) ≤ (cap : Int) := by omega
  have hGi : ¬ (G = p) := by omega
  have hGim : ¬ (G = p + 1) := by omega
  have hci : ¬ (cap = p) := by omega
  clear hW1 hW2 htl hlen hX1 hX hXs hs2 ft fc hO h1 hg hx1 gr2 hvb1 hvb hvl hgl hgg1 hgg2 hX2 hROW hRs hR hold hkk hik hG
  go_enter Tryz.func80, Tryz.ntmps80
  go_wp2_with first
    | (at_builtin; refine Lib.wpList_append_run _ rfl _ _ _ _ rfl _ _ rfl rfl _ _ (hrz _) ?_)
    | (refine wpList_copied _ rfl _ _ _ _ rfl (.slice (some ⟨w.heap.size, p * 2, none⟩) (n + 1 - p) (G - p)) (.slice (some ⟨vb, 0, none⟩) 1 1) _ _ rfl rfl (hcpA _ _) ?_)
  go_region_held3 (fun _ => True) (trivial) (first
    | (refine step_copied rfl _ _ _ _ rfl (.slice (some ⟨w.heap.size, (p + 1) * 2, none⟩) (n + 1 - (p + 1)) (G - (p + 1))) (.slice (some ⟨gg, p * 2, none⟩) (n - p) (cap - p)) _ _ (by simp [Act.eval, Act.put]) (by simp [Act.eval, Act.put]) (hcpB _ _ _) ?_))
  go_wp2_with fail
  go_ret
  have F := FIN.out
  rw [← HW1.out, ← HW2.out, ← HT.out] at F
  rw [drew_cells]
  exact ⟨⟨G, rfl, F.1⟩, F.2.os, F.2.tape, F.2.output, F.2.size, F.2.block⟩
end Go.Proofs.YtgjlgddglgffmaaGreatDoor.Hub
namespace Go.Proofs.YtgjlgddglgffmaaGreatDoor.Hub
open Go.RowKit
set_option linter.unusedVariables false
set_option linter.unusedSimpArgs false

theorem grown_below {w w1 w2 : World} {row : Option Nat} (b : Below w.heap.size w w1) (g : w1.grownBy w2 row) : w.grownBy w2 row :=
  ⟨g.os.trans b.os, g.tape.trans b.tape, g.output.trans b.output, Nat.le_trans b.size g.size, fun k hk hne => (g.block k (Nat.lt_of_lt_of_le hk b.size) hne).trans (b.block k hk)⟩
theorem grown_none {w w1 : World} {row : Option Nat} (b : Below w.heap.size w w1) : w.grownBy w1 row := ⟨b.os, b.tape, b.output, b.size, fun k hk _ => b.block k hk⟩
theorem grown_any {w w1 : World} {row : Option Nat} (g : w.grownBy w1 none) : w.grownBy w1 row := ⟨g.os, g.tape, g.output, g.size, fun k hk _ => g.block k hk (by simp)⟩
theorem cut_rank (p : Nat) (KU : Nat → ByteArray) (KR : Nat → Int) : cutAt p (rankC KU KR) = rankC (cutAt p KU) (cutAt p KR) := by
  funext j
  unfold cutAt
  show (if j < p then rankC KU KR j else rankC KU KR (j + 1)) = [Value.string (if j < p then KU j else KU (j + 1)), .int .i64 (if j < p then KR j else KR (j + 1))]
  split <;> rfl
theorem ins_rank (p : Nat) (us : ByteArray) (nu : Int) (KU : Nat → ByteArray) (KR : Nat → Int) : insAt p [Value.string us, .int .i64 nu] (rankC KU KR) = rankC (insAt p us KU) (insAt p nu KR) := by
  funext j
  unfold insAt
  show (if j < p then rankC KU KR j else if j = p then [Value.string us, .int .i64 nu] else rankC KU KR (j - 1)) = [Value.string (if j < p then KU j else if j = p then us else KU (j - 1)), .int .i64 (if j < p then KR j else if j = p then nu else KR (j - 1))]
  split
  · rfl
  · split <;> rfl
theorem own_num {W : World} {base gg n cap k : Nat} {U : Nat → ByteArray} {R : Nat → Int} {m : Int} (h : OwnK W base (.slice (some ⟨gg, 0, none⟩) n cap) n U R) (hk : k < n) : OwnK (W.setCell ⟨gg, k * 2 + 1, none⟩ (.int .i64 m)) base (.slice (some ⟨gg, 0, none⟩) n cap) n U (putAt k m R) :=
  OwnL.put h (rankC_len _ _) (rankC_len _ _) (by omega) hk (by omega) _ fun j hj i hi => by
    match i, hi with
    | 0, _ => simp [rankC]
    | 1, _ =>
      by_cases hjk : j = k
      · simp [rankC, putAt, hjk]
      · simp [rankC, putAt, hjk]
theorem OwnL.some {W : World} {base : Nat} {T : TypeId} {s n cap : Nat} {o : Option Addr} {g : Nat → List Value} (h : OwnL W base T s (.slice o n cap) n g) (hn : 0 < n) : ∃ gg, o = some ⟨gg, 0, none⟩ := by
  rcases h.2 with ⟨e, h0⟩ | ⟨g', c, cur, e, _⟩
  · omega
  · injection e with e1 e2 e3
    exact ⟨g', e1⟩
theorem OwnL.caps {W : World} {base : Nat} {T : TypeId} {s n cap : Nat} {o : Option Addr} {g : Nat → List Value} (h : OwnL W base T s (.slice o n cap) n g) : n ≤ cap ∧ cap ≤ 9223372036854775807 := by
  rcases h.2 with ⟨e, h0⟩ | ⟨g', c, cur, e, _, _, h1, h2, _⟩
  · injection e with e1 e2 e3
    omega
  · injection e with e1 e2 e3
    subst e3
    exact ⟨h1, h2⟩
/-- slices.Insert of a rank, wherever. -/
theorem ins_any (g : Nat → List Value) (hg : ∀ j, (g j).length = 2) (h1 : ∀ j, ∀ u ∈ g j, u.oneCell' = true) (base n cap p vb : Nat) (o : Option Addr) (a b : Value) (hx1 : ∀ u ∈ [a, b], u.oneCell' = true) (w : World) (hO : OwnL w base 68 2 (.slice o n cap) n g) (hvb : w.heap[vb]? = some (.cells #[a, b] 68 (0, 0))) (hne : (Value.slice o n cap).ownBlock ≠ Option.some vb) (hn : n ≤ 1000) (hp : p ≤ n) (hbase : base ≤ w.heap.size) :
    Calls Tryz.prog 80 #[.slice o n cap, .int .i64 p, .slice (Option.some ⟨vb, 0, none⟩) 1 1] w fun e w' => (∃ v', e = .returned v' ∧ OwnL w' base 68 2 v' (n + 1) (insAt p [a, b] g) ∧ ∀ q, v'.ownBlock = Option.some q → (Value.slice o n cap).ownBlock = Option.some q ∨ w.heap.size ≤ q) ∧ w.grownBy w' (Value.slice o n cap).ownBlock := by
  by_cases hpn : p = n
  · subst hpn
    refine (ins_end_any g hg h1 base p (.slice o p cap) (.slice (Option.some ⟨vb, 0, none⟩) 1 1) [a, b] rfl hx1 w hO ?_ hn hbase).mono ?_
    · refine ⟨_, _, rfl, Nat.le_refl _, by unfold maxLen; omega, fun j hj => ⟨vb, 0, rfl, (Array.getElem?_eq_some_iff.1 hvb).1, fun i hi => ?_⟩⟩
      obtain rfl : j = 0 := by omega
      rw [cell_row hvb]
      match i, hi with
      | 0, _ => simp
      | 1, _ => simp
    · rintro e w' ⟨⟨v', rfl, hv, hat⟩, hgr⟩
      refine ⟨⟨v', rfl, hv, fun q hq => ?_⟩, hgr⟩
      rcases hat with h | h
      · exact .inl (h ▸ hq)
      · rw [h] at hq
        exact .inr (Nat.le_of_eq (Option.some.inj hq))
  · obtain ⟨gg, rfl⟩ := OwnL.some hO (by omega)
    have hne' : vb ≠ gg := fun e => hne (by rw [e]; rfl)
    by_cases hr : n + 1 ≤ cap
    · refine (ins_shift_any g hg h1 base gg n cap p vb 68 a b _ rfl hx1 w hO hvb hne' (by omega) hr).mono ?_
      rintro e w' ⟨rfl, hv, hgr⟩
      exact ⟨⟨_, rfl, hv, fun q hq => .inl hq⟩, hgr⟩
    · refine (ins_grow_any g hg h1 base gg n cap p vb 68 a b _ rfl hx1 w hO hvb hn (by omega) (by omega) hbase).mono ?_
      rintro e w' ⟨⟨G, rfl, hv⟩, hgr⟩
      exact ⟨⟨_, rfl, hv, fun q hq => .inr (Nat.le_of_eq (Option.some.inj hq))⟩, grown_any hgr⟩

set_option maxRecDepth 100000 in
set_option maxHeartbeats 4000000 in
theorem withRank_any (us : ByteArray) (nu : Int) (o : Option Addr) (cap z : Nat) (KU : Nat → ByteArray) (KR : Nat → Int) (base : Nat) (w : World) (hO : OwnK w base (.slice o z cap) z KU KR) (hbase : base ≤ w.heap.size) (hA : Asc z KU) (h6 : z ≤ 6) :
    Calls Tryz.prog 58 #[.slice o z cap, .string us, .int .i64 nu] w fun e w' => (∃ v', e = .returned v' ∧ OwnK w' base v' (rankN z (lessTo KU us z) (foundT z KU us) (decide (nu = 1))) (rankU (lessTo KU us z) (foundT z KU us) (decide (nu = 1)) us KU) (rankR (lessTo KU us z) (foundT z KU us) (decide (nu = 1)) nu KR) ∧ ∀ q, v'.ownBlock = Option.some q → (Value.slice o z cap).ownBlock = Option.some q ∨ w.heap.size ≤ q) ∧ w.grownBy w' (Value.slice o z cap).ownBlock := by
  have con := rankPlace_any us o cap z KU KR w (OwnK.rank hO) hA h6
  obtain ⟨hp, -, -, -, hf4⟩ := asc_place KU us z hA
  obtain ⟨hc1, hc2⟩ := OwnL.caps hO
  have HO : Hid (∀ W, Below w.heap.size w W → OwnK W base (.slice o z cap) z KU KR) := fun W bb => OwnL.below hO bb
  have HL : Hid (∀ q, (Value.slice o z cap).ownBlock = Option.some q → base ≤ q ∧ q < w.heap.size) := OwnL.lt hO
  have HS : Hid (0 < z → ∃ gg, o = Option.some ⟨gg, 0, none⟩) := fun h => OwnL.some hO h
  clear hO
  obtain ⟨p, hpe⟩ : ∃ p, lessTo KU us z = p := ⟨_, rfl⟩
  have HPE : Hid (lessTo KU us z = p) := hpe
  rw [hpe] at hp hf4 ⊢
  clear hpe
  obtain ⟨f, hf⟩ : ∃ f, foundT z KU us = f := ⟨_, rfl⟩
  rw [hf] at con hf4 ⊢
  clear hf
  by_cases hn1 : nu = 1
  · subst hn1
    cases f with
    | true =>
      have hpz : p < z := (hf4 rfl).1
      have HF : Hid (p < z) := hpz
      obtain ⟨gg, rfl⟩ := HS.out (by omega)
      have hw1 : IntKind.i64.wrap ((p : Int) + 1) = (p : Int) + 1 := by rw [IntKind.wrap_i64]; omega
      clear hf4
      go_enter Tryz.func58, Tryz.ntmps58
      go_wp2_with first
        | (go_at_call 79; go_fit (delK_any (rankC KU KR) (rankC_len _ _) (fun j u hu => by simp at hu; rcases hu with rfl | rfl <;> rfl) base gg z cap p (p + 1) w1 HO1.out rfl HF.out); rintro e w2 ⟨rfl, hd, hgr⟩; have HD : Hid (OwnL w2 base 68 2 (.slice (Option.some ⟨gg, 0, none⟩) (z - 1) cap) (z - 1) (cutAt p (rankC KU KR)) ∧ w1.grownBy w2 (Option.some gg)) := ⟨hd, hgr⟩; clear hd hgr)
        | (go_at_call 73; go_fit con; rintro e w1 ⟨⟨i, rfl, hi, -⟩, b1⟩; rw [HPE.out] at hi; have hi2 := hi.symm; subst hi2; have HO1 : Hid (OwnK w1 base (.slice (Option.some ⟨gg, 0, none⟩) z cap) z KU KR) := HO.out w1 b1)
      go_ret
      obtain ⟨hd, hgr⟩ := HD.out
      rw [cut_rank] at hd
      exact ⟨⟨_, rfl, hd, fun q hq => .inl hq⟩, grown_below b1 hgr⟩
    | false =>
      clear hf4
      go_enter Tryz.func58, Tryz.ntmps58
      go_wp2_with first
        | (go_at_call 73; go_fit con; rintro e w1 ⟨⟨i, rfl, hi, -⟩, b1⟩; rw [HPE.out] at hi; have hi2 := hi.symm; subst hi2; have HO1 : Hid (OwnK w1 base (.slice o z cap) z KU KR) := HO.out w1 b1)
      go_ret
      exact ⟨⟨_, rfl, HO1.out, fun q hq => .inl hq⟩, grown_none b1⟩
  · have hd : decide (nu = 1) = false := decide_eq_false hn1
    rw [hd]
    clear hd
    cases f with
    | true =>
      have hpz : p < z := (hf4 rfl).1
      have HF : Hid (p < z) := hpz
      obtain ⟨gg, rfl⟩ := HS.out (by omega)
      have i1 : (0 : Int) ≤ (p : Int) := by omega
      have i2 : (p : Int) < (z : Int) := by omega
      clear hf4
      have hgl : gg < w.heap.size := (HL.out gg rfl).2
      go_enter Tryz.func58, Tryz.ntmps58
      go_wp2_with first
        | (go_at_call 73; go_fit con; rintro e w1 ⟨⟨i, rfl, hi, -⟩, b1⟩; rw [HPE.out] at hi; have hi2 := hi.symm; subst hi2; have HO1 : Hid (OwnK w1 base (.slice (Option.some ⟨gg, 0, none⟩) z cap) z KU KR) := HO.out w1 b1; obtain ⟨X, xb, xh, xc, xm, xs⟩ := OwnL.rowOf HO1.out; have c0 : w1.cell? ⟨gg, p * 2 + 1, none⟩ = Option.some (.int .i64 (KR p)) := OwnL.cellsOf HO1.out (rankC_len _ _) p HF.out 1 (by omega); have c1 : w1.frozen? ⟨gg, p * 2 + 1, none⟩ = false := frozen_row xh _; clear xb xh xc xm xs X)
      go_ret
      refine ⟨⟨_, rfl, own_num HO1.out HF.out, fun q hq => .inl hq⟩, ?_⟩
      refine grown_below b1 ⟨rfl, rfl, rfl, by simp, fun k hk hne => ?_⟩
      rw [Below.heap_setCell _ _ _ _ (by intro e; exact hne (by rw [e]; rfl))]
    | false =>
      clear hf4
      go_enter Tryz.func58, Tryz.ntmps58
      go_wp2_with first
        | (go_at_call 80; go_fit (ins_any (rankC KU KR) (rankC_len _ _) (fun j u hu => by simp at hu; rcases hu with rfl | rfl <;> rfl) base z cap p w1.heap.size o (.string us) (.int .i64 nu) (by simp [Value.oneCell']) (w1.alloc (.cells #[.string us, .int .i64 nu] 68)) (OwnL.alloc HO1.out _) (World.alloc_heap_new w1 _) (fun h => by have := (HL.out _ h).2; have := b1.size; omega) (by omega) hp (by have := b1.size; simp; omega)); rintro e w2 ⟨⟨v2, rfl, hd, hq⟩, hgr⟩; have HD : Hid (OwnL w2 base 68 2 v2 (z + 1) (insAt p [Value.string us, .int .i64 nu] (rankC KU KR)) ∧ (∀ q, v2.ownBlock = Option.some q → (Value.slice o z cap).ownBlock = Option.some q ∨ (w1.alloc (.cells #[.string us, .int .i64 nu] 68)).heap.size ≤ q) ∧ (w1.alloc (.cells #[.string us, .int .i64 nu] 68)).grownBy w2 (Value.slice o z cap).ownBlock) := ⟨hd, hq, hgr⟩; clear hd hq hgr)
        | (go_at_call 73; go_fit con; rintro e w1 ⟨⟨i, rfl, hi, -⟩, b1⟩; rw [HPE.out] at hi; have hi2 := hi.symm; subst hi2; have HO1 : Hid (OwnK w1 base (.slice o z cap) z KU KR) := HO.out w1 b1)
      go_ret
      obtain ⟨hd, hq, hgr⟩ := HD.out
      rw [ins_rank] at hd
      refine ⟨⟨v2, rfl, hd, fun q h => ?_⟩, grown_below (b1.alloc b1.size _) hgr⟩
      rcases hq q h with h | h
      · exact .inl h
      · refine .inr (Nat.le_trans b1.size ?_)
        simp at h
        omega
end Go.Proofs.YtgjlgddglgffmaaGreatDoor.Hub
