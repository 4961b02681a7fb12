/-
  Lists of structs as they lie in memory: s cells a place, g the cells of each place.
-/
import Derived.Test.YtkmagkpieihcgaaLineBase
import Derived.Laws.MakeOwn
import Derived.Laws.OwnMore
import Derived.Deep.AppendLies
import Derived.Maps.AppendAt
namespace Go.Proofs.Ytkmagkpieihcgaa.Hub
open Go.RowKit
set_option linter.unusedVariables false

def rowVs (g : Nat → List Value) (n : Nat) : List Value := (List.range n).flatMap g
theorem rowVs_succ (g : Nat → List Value) (n : Nat) : rowVs g (n + 1) = rowVs g n ++ g n := by simp [rowVs, List.range_succ]
theorem rowVs_len {g : Nat → List Value} {s : Nat} (h : ∀ j, (g j).length = s) : ∀ n, (rowVs g n).length = n * s
  | 0 => by simp [rowVs]
  | n + 1 => by rw [rowVs_succ, List.length_append, rowVs_len h n, h, Nat.succ_mul]
theorem rowVs_at {g : Nat → List Value} {s : Nat} (h : ∀ j, (g j).length = s) : ∀ (n j i : Nat), j < n → i < s → (rowVs g n)[j * s + i]? = (g j)[i]?
  | 0, j, i, hj, _ => absurd hj (by omega)
  | n + 1, j, i, hj, hi => by
    rw [rowVs_succ]
    by_cases hjn : j < n
    · have h1 : j * s + i < n * s := by
        have : (j + 1) * s ≤ n * s := Nat.mul_le_mul_right s hjn
        rw [Nat.succ_mul] at this
        omega
      rw [List.getElem?_append_left (by rw [rowVs_len h]; exact h1)]
      exact rowVs_at h n j i hjn hi
    · obtain rfl : j = n := by omega
      rw [List.getElem?_append_right (by rw [rowVs_len h]; omega), rowVs_len h]
      congr 1
      omega
theorem rowVs_congr {g g' : Nat → List Value} : ∀ n, (∀ j, j < n → g j = g' j) → rowVs g n = rowVs g' n
  | 0, _ => by simp [rowVs]
  | n + 1, h => by rw [rowVs_succ, rowVs_succ, rowVs_congr n (fun j hj => h j (by omega)), h n (by omega)]
theorem rowVs_add (g : Nat → List Value) (n : Nat) : ∀ m, rowVs g (n + m) = rowVs g n ++ rowVs (fun j => g (n + j)) m
  | 0 => by simp [rowVs]
  | m + 1 => by rw [← Nat.add_assoc, rowVs_succ, rowVs_succ, rowVs_add g n m, List.append_assoc]
theorem rowVs_mem {g : Nat → List Value} {p : Value → Prop} (h : ∀ j, ∀ u ∈ g j, p u) : ∀ n, ∀ u ∈ rowVs g n, p u
  | 0, u, hu => by simp [rowVs] at hu
  | n + 1, u, hu => by
    rw [rowVs_succ] at hu
    rcases List.mem_append.1 hu with hu | hu
    · exact rowVs_mem h n u hu
    · exact h n u hu
/-- A slice of n places lies there. -/
def ListAt (W : World) (s : Nat) (v : Value) (n : Nat) (g : Nat → List Value) : Prop :=
  ∃ (o : Option Addr) (cap : Nat), v = .slice o n cap ∧ n ≤ cap ∧ cap ≤ maxLen ∧ ∀ j, j < n → ∃ b f : Nat, o = some ⟨b, f, none⟩ ∧ b < W.heap.size ∧ ∀ i, i < s → W.cell? ⟨b, f + j * s + i, none⟩ = (g j)[i]?
theorem ListAt.cells {W : World} {s n cap b f : Nat} {g : Nat → List Value} (h : ListAt W s (.slice (some ⟨b, f, none⟩) n cap) n g) (hg : ∀ j, (g j).length = s) (hs : 0 < s) : ∀ j u, (rowVs g n)[j]? = some u → W.cell? ((⟨b, f, none⟩ : Addr).add j) = some u := by
  obtain ⟨o, c, hv, h1, h2, hc⟩ := h
  injection hv with ho hn hc'
  subst ho
  intro j u hj
  have hl : j < n * s := by
    have := (List.getElem?_eq_some_iff.1 hj).1
    rw [rowVs_len hg] at this
    exact this
  have hm : j / s < n := by
    rw [Nat.div_lt_iff_lt_mul hs]
    exact hl
  have hr : j % s < s := Nat.mod_lt _ hs
  obtain ⟨b', f', he, hb, c0⟩ := hc (j / s) hm
  injection he with he
  injection he with e1 e2
  subst e1 e2
  have ej : j / s * s + j % s = j := by rw [Nat.mul_comm]; exact Nat.div_add_mod j s
  have c1 := c0 (j % s) hr
  have c2 := rowVs_at hg n (j / s) (j % s) hm hr
  rw [Nat.add_assoc, ej] at c1
  rw [ej] at c2
  have ea : ((⟨b, f, none⟩ : Addr).add j) = ⟨b, f + j, none⟩ := by simp [Addr.add]
  rw [ea, c1, ← c2]
  exact hj
/-- A new list of n places, in a block from base on. -/
def OwnL (W : World) (base : Nat) (T : TypeId) (s : Nat) (v : Value) (n : Nat) (g : Nat → List Value) : Prop := W.ownsRow base T s v n (rowVs g n)
theorem OwnL.nil (W : World) (base : Nat) (T : TypeId) (s : Nat) (g : Nat → List Value) : OwnL W base T s (.slice none 0 0) 0 g := ⟨by simp [rowVs], .inl ⟨rfl, rfl⟩⟩
theorem OwnL.shape {W : World} {base : Nat} {T : TypeId} {s : Nat} {v : Value} {n : Nat} {g : Nat → List Value} (h : OwnL W base T s v n g) : ∃ o c, v = .slice o n c := by
  rcases h.2 with ⟨e, h0⟩ | ⟨g, c, cur, e, _⟩
  · subst h0; exact ⟨_, _, e⟩
  · exact ⟨_, _, e⟩
theorem OwnL.at {W : World} {base : Nat} {T : TypeId} {s : Nat} {v : Value} {n : Nat} {g : Nat → List Value} (h : OwnL W base T s v n g) (hg : ∀ j, (g j).length = s) : ListAt W s v n g := by
  have hh := h
  rcases h.2 with ⟨rfl, rfl⟩ | ⟨gg, cap, cur, rfl, hb, hgg, hc, hM, hs, htk⟩
  · exact ⟨none, 0, rfl, Nat.le_refl _, Nat.zero_le _, fun j hj => absurd hj (by omega)⟩
  · refine ⟨some ⟨gg, 0, none⟩, cap, rfl, hc, hM, fun j hj => ⟨gg, 0, rfl, (Array.getElem?_eq_some_iff.1 hgg).1, fun i hi => ?_⟩⟩
    have h1 : j * s + i < n * s := by
      have : (j + 1) * s ≤ n * s := Nat.mul_le_mul_right s hj
      rw [Nat.succ_mul] at this
      omega
    rw [Nat.zero_add]
    exact (World.ownsRow.cellAt (w := W) (base := base) (e := T) (size := s) (cap := cap) (n := n) hh (j * s + i) h1).trans (rowVs_at hg n j i hj hi)
theorem OwnL.below {W W' : World} {base : Nat} {T : TypeId} {s : Nat} {v : Value} {n : Nat} {g : Nat → List Value} (h : OwnL W base T s v n g) (bb : Below W.heap.size W W') : OwnL W' base T s v n g :=
  World.ownsRow.kept (row := none) h ⟨bb.os, bb.tape, bb.output, bb.size, fun q hq _ => bb.block q hq⟩ (Classical.em _)
theorem OwnL.alloc {W : World} {base : Nat} {T : TypeId} {s : Nat} {v : Value} {n : Nat} {g : Nat → List Value} (h : OwnL W base T s v n g) (o : Obj) : OwnL (W.alloc o) base T s v n g := World.ownsRow.alloc h o
theorem OwnL.set {W : World} {base : Nat} {T : TypeId} {s : Nat} {v : Value} {n : Nat} {g : Nat → List Value} (h : OwnL W base T s v n g) (p : Addr) (x : Value) (hp : p.block < base) : OwnL (W.setCell p x) base T s v n g := ownsRow_setCell_below h hp x
theorem OwnL.mono {W : World} {base base' : Nat} {T : TypeId} {s : Nat} {v : Value} {n : Nat} {g : Nat → List Value} (h : OwnL W base T s v n g) (hb : base' ≤ base) : OwnL W base' T s v n g := by
  refine ⟨h.1, ?_⟩
  rcases h.2 with h2 | ⟨g, cap, cur, hv, hb2, rest⟩
  · exact .inl h2
  · exact .inr ⟨g, cap, cur, hv, Nat.le_trans hb hb2, rest⟩
theorem OwnL.congr {W : World} {base : Nat} {T : TypeId} {s : Nat} {v : Value} {n : Nat} {g g' : Nat → List Value} (h : OwnL W base T s v n g) (e : ∀ j, j < n → g j = g' j) : OwnL W base T s v n g' := by
  unfold OwnL at h ⊢
  rw [← rowVs_congr n e]
  exact h
theorem OwnL.kept {W W' : World} {base : Nat} {T : TypeId} {s : Nat} {v : Value} {n : Nat} {g : Nat → List Value} {row : Option Nat} (h : OwnL W base T s v n g) (hg : W.grownBy W' row) (hr : v.ownBlock = none ∨ v.ownBlock ≠ row) : OwnL W' base T s v n g := World.ownsRow.kept h hg hr
theorem OwnL.lt {W : World} {base : Nat} {T : TypeId} {s : Nat} {v : Value} {n : Nat} {g : Nat → List Value} (h : OwnL W base T s v n g) : ∀ k, v.ownBlock = some k → base ≤ k ∧ k < W.heap.size := World.ownsRow.lt h
/-- A row of cells that is told place by place is such a list. -/
theorem own_rowL {W : World} {base gg n cap s : Nat} {T : TypeId} {X : Array Value} {g : Nat → List Value} (hg : ∀ j, (g j).length = s) (hs : 0 < s) (hb : base ≤ gg) (hgg : W.heap[gg]? = some (.cells X T (0, 0))) (hc : n ≤ cap) (hM : cap ≤ maxLen) (hX : X.size = cap * s) (hA : ∀ j, j < n → ∀ i, i < s → X[j * s + i]? = (g j)[i]?) : OwnL W base T s (.slice (some ⟨gg, 0, none⟩) n cap) n g := by
  refine ⟨rowVs_len hg n, .inr ⟨gg, cap, X, rfl, hb, hgg, hc, hM, hX, ?_⟩⟩
  apply List.ext_getElem?
  intro i
  rw [List.getElem?_take]
  by_cases hi : i < n * s
  · rw [if_pos hi, Array.getElem?_toList]
    have hm : i / s < n := by rw [Nat.div_lt_iff_lt_mul hs]; exact hi
    have hr : i % s < s := Nat.mod_lt _ hs
    have ej : i / s * s + i % s = i := by rw [Nat.mul_comm]; exact Nat.div_add_mod i s
    have a := hA (i / s) hm (i % s) hr
    have b := rowVs_at hg n (i / s) (i % s) hm hr
    rw [ej] at a b
    exact a.trans b.symm
  · rw [if_neg hi, List.getElem?_eq_none (by rw [rowVs_len hg]; omega)]
theorem ListAt.below {W W' : World} {s n : Nat} {v : Value} {g : Nat → List Value} (h : ListAt W s v n g) (bb : Below W.heap.size W W') : ListAt W' s v n g := by
  obtain ⟨o, cap, hv, h1, h2, hc⟩ := h
  refine ⟨o, cap, hv, h1, h2, fun j hj => ?_⟩
  obtain ⟨b, f, ho, hb, c⟩ := hc j hj
  exact ⟨b, f, ho, Nat.lt_of_lt_of_le hb bb.size, fun i hi => (bb.cell (p := ⟨b, f + j * s + i, none⟩) hb).trans (c i hi)⟩
section
variable {P : Program}
/-- A list appended to a list of one's own: nothing of it, too. -/
theorem run_append_list (w : World) (t ty : TypeId) (base : Nat) (e : TypeId) (i : TypeInfo) (z : Value) (size bytes : Nat) (ht : P.underlying t = some (.slice e)) (hi : P.info? e = some i) (hz : i.zero = some z)
    (hsize : i.size = size) (hby : i.bytes = bytes) (hzs : z.cells.size = size) (hsz : 0 < size)
    (v : Value) (n : Nat) (xs : List Value) (hown : w.ownsRow base e size v n xs)
    (vx : Value) (m : Nat) (g : Nat → List Value) (hsrc : ListAt w size vx m g) (hg : ∀ j, (g j).length = size) (h1 : ∀ u ∈ rowVs g m, u.oneCell' = true)
    (h63 : n + m ≤ maxLen) (hbytes : (n + m) * bytes ≤ 140737488355328) (hbase : base ≤ w.heap.size) :
    ∃ v' w', (Builtin.append_ #[t, t] ty #[v, vx]).run P w = .ok v' w' ∧ w'.ownsRow base e size v' (n + m) (xs ++ rowVs g m) ∧ w.grownBy w' v.ownBlock ∧ (v'.ownBlock = v.ownBlock ∨ v'.ownBlock = some w.heap.size) := by
  have hh := hsrc
  obtain ⟨o, cap, rfl, hmc, hcap, hc⟩ := hsrc
  cases o with
  | none =>
    have hm0 : m = 0 := by
      cases m with
      | zero => rfl
      | succ m' => obtain ⟨b, f, ho, _⟩ := hc 0 (by omega); cases ho
    subst hm0
    refine ⟨v, w, ?_, by simpa [rowVs] using hown, World.grownBy.refl _ _, .inl rfl⟩
    rcases hown.2 with ⟨rfl, rfl⟩ | ⟨g', cap', cur, rfl, _, _, hnc, _⟩
    · simp [Builtin.append_, run_underlying ht, sizeOf, typeInfo, hi, Builtin.lenOf, Builtin.firstCells]
    · simp [Builtin.append_, run_underlying ht, sizeOf, typeInfo, hi, Builtin.lenOf, Builtin.firstCells, hnc, storeCells]
  | some ad =>
    have hn : ∀ j u, (rowVs g m)[j]? = some u → w.cell? (ad.add j) = some u := by
      cases m with
      | zero => intro j u hj; simp [rowVs] at hj
      | succ m' =>
        obtain ⟨b, f, ho, _⟩ := hc 0 (by omega)
        injection ho with ho
        subst ho
        exact hh.cells hg hsz
    obtain ⟨v', w', hr, h2, h3, _, h5⟩ := run_append_own_at (P := P) w base t ty e i z size bytes ht hi hz hsize hby hzs hsz v n xs hown ad m cap (rowVs g m) (rowVs_len hg m) hn h1 h63 hbytes hbase
    exact ⟨v', w', hr, h2, h3, h5⟩
theorem wpList_append_list {w : World} {ops : Array Oper} {rest : List Oper} {o : Oper} {a : Act} {Q : Exit → Act → World → Prop} (hgd : o.guard = none) (s x : Operand) (t : TypeId)
    (ho : o.op = .call { callee := .builtin .append, args := #[s, x], argTypes := #[t, t] })
    (base : Nat) (e : TypeId) (i : TypeInfo) (z : Value) (size bytes : Nat) (ht : P.underlying t = some (.slice e)) (hi : P.info? e = some i) (hz : i.zero = some z)
    (hsize : i.size = size) (hby : i.bytes = bytes) (hzs : z.cells.size = size) (hsz : 0 < size)
    (v : Value) (n : Nat) (xs : List Value) (hs : a.eval s = v) (hown : w.ownsRow base e size v n xs)
    (vx : Value) (m : Nat) (g : Nat → List Value) (hx : a.eval x = vx) (hsrc : ListAt w size vx m g) (hg : ∀ j, (g j).length = size) (h1 : ∀ u ∈ rowVs g m, u.oneCell' = true)
    (h63 : n + m ≤ maxLen) (hbytes : (n + m) * bytes ≤ 140737488355328) (hbase : base ≤ w.heap.size) (H : Nat) (hH : w.heap.size = H)
    (h : ∀ oo cc w', w'.ownsRow base e size (.slice oo (n + m) cc) (n + m) (xs ++ rowVs g m) → w.grownBy w' v.ownBlock → ((Value.slice oo (n + m) cc).ownBlock = v.ownBlock ∨ (Value.slice oo (n + m) cc).ownBlock = some H) → wpList P ops Q rest (a.put o.dst (.slice oo (n + m) cc)) w') : wpList P ops Q (o :: rest) a w :=
  wpList_plain hgd fun _ hK => by
    obtain ⟨v', w', hr, h2, h3, h4⟩ := run_append_list (P := P) w t o.type base e i z size bytes ht hi hz hsize hby hzs hsz v n xs hown vx m g hsrc hg h1 h63 hbytes hbase
    unfold Oper.wp execOp
    simp only [ho, resolve, invoke, builtin, Sem.run_bind, Sem.run_pure, Result.andThen_ok, List.map_toArray, List.map_cons, List.map_nil, hs, hx, hr]
    obtain ⟨oo, cc, rfl⟩ : ∃ oo cc, v' = .slice oo (n + m) cc := by
      rcases h2.2 with ⟨e1, e2⟩ | ⟨g', c', cur', e1, _⟩
      · rw [e2]; exact ⟨_, _, e1⟩
      · exact ⟨_, _, e1⟩
    exact hK _ _ (h oo cc w' h2 h3 (by rw [← hH]; exact h4))
end
end Go.Proofs.Ytkmagkpieihcgaa.Hub
