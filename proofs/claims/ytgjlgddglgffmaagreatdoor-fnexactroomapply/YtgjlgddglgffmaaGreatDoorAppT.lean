/-
  spec.l6Apply: a room in which something happened.
-/
import Derived.Test.YtgjlgddglgffmaaGreatDoorRanked
import Derived.Test.YtgjlgddglgffmaaGreatDoorEntrySpec
import Derived.Test.YtgjlgddglgffmaaGreatDoorRoomImplD
namespace Go.Proofs.YtgjlgddglgffmaaGreatDoor.Hub
open Go.RowKit
set_option linter.unusedVariables false

/-- What a room is behind an entry of that kind; k is the user's place, p where their rank stands or would, f whether it does. -/
def aftN (kd : Int) (n : Nat) : Nat := if kd = 1 then n + 1 else if kd = 2 then n - 1 else n
def aftU (kd : Int) (n k : Nat) (x : ByteArray) (U : Nat → ByteArray) : Nat → ByteArray := if kd = 1 then putAt n x U else if kd = 2 then cutAt k U else U
def aftR (kd : Int) (n k : Nat) (m : Int) (R : Nat → Int) : Nat → Int := if kd = 1 then putAt n m R else if kd = 2 then cutAt k R else if kd = 5 then putAt k m R else R
def aftS (kd : Int) (sb t : ByteArray) : ByteArray := if kd = 4 then t else sb
def aftZ (kd : Int) (z p : Nat) (f : Bool) (m : Int) : Nat := if kd = 6 then rankN z p f (decide (m = 1)) else z
def aftKU (kd : Int) (p : Nat) (f : Bool) (u : ByteArray) (m : Int) (KU : Nat → ByteArray) : Nat → ByteArray := if kd = 6 then rankU p f (decide (m = 1)) u KU else KU
def aftKR (kd : Int) (p : Nat) (f : Bool) (m : Int) (KR : Nat → Int) : Nat → Int := if kd = 6 then rankR p f (decide (m = 1)) m KR else KR

theorem nine_at {W : World} {E : Nat} {T : TypeId} {c0 c1 c2 c3 c4 c5 c6 c7 c8 : Value} (h : W.heap[E]? = some (.cells #[c0, c1, c2, c3, c4, c5, c6, c7, c8] T (0, 0))) : W.cell? ⟨E, 0, none⟩ = some c0 ∧ W.cell? ⟨E, 1, none⟩ = some c1 ∧ W.cell? ⟨E, 2, none⟩ = some c2 ∧ W.cell? ⟨E, 3, none⟩ = some c3 ∧ W.cell? ⟨E, 4, none⟩ = some c4 ∧ W.cell? ⟨E, 5, none⟩ = some c5 ∧ W.cell? ⟨E, 6, none⟩ = some c6 ∧ W.cell? ⟨E, 7, none⟩ = some c7 ∧ W.cell? ⟨E, 8, none⟩ = some c8 := by
  simp only [World.cell?, h]
  exact ⟨rfl, rfl, rfl, rfl, rfl, rfl, rfl, rfl, rfl⟩
/-- The answer, stored field by field. -/
theorem fin_room {w W1 : World} {nm sb : ByteArray} {nx : Int} {vm vk : Value} {n : Nat} {U N : Nat → ByteArray} {R : Nat → Int} {z : Nat} {KU : Nat → ByteArray} {KR : Nat → Int} {E base : Nat} {T : TypeId} {c0 c1 c2 c3 c4 : Value} (hE : W1.heap[E]? = some (.cells #[c0, c1, c2, c3, c4] T (0, 0))) (hwE : w.heap.size ≤ E) (hb : E < base) (b1 : Below w.heap.size w W1) (OM : OwnM W1 base vm n U N R) (OK : OwnK W1 base vk z KU KR) (AP : Apart vm vk) :
    NewRoom w (roomW W1 E nm nx vm vk sb) (roomV nm nx vm vk sb) nm nx sb n U N R z KU KR ∧ Below w.heap.size w (roomW W1 E nm nx vm vk sb) ∧ ((roomW W1 E nm nx vm vk sb).cell? ⟨E, 0, none⟩ = some (.string nm) ∧ (roomW W1 E nm nx vm vk sb).cell? ⟨E, 1, none⟩ = some (.int .i64 nx) ∧ (roomW W1 E nm nx vm vk sb).cell? ⟨E, 2, none⟩ = some vm ∧ (roomW W1 E nm nx vm vk sb).cell? ⟨E, 3, none⟩ = some vk ∧ (roomW W1 E nm nx vm vk sb).cell? ⟨E, 4, none⟩ = some (.string sb)) :=
  ⟨⟨_, _, rfl, (OwnL.roomW OM hb _ _ _ _ _).mono (by omega), (OwnL.roomW OK hb _ _ _ _ _).mono (by omega), AP⟩, roomW_below b1 hwE _ _ _ _ _, rm_cells (roomW_heap hE _ _ _ _ _)⟩
theorem three_cells (W : World) (u k : ByteArray) (r : Int) (T : TypeId) : ListAt (W.alloc (.cells #[.string u, .string k, .int .i64 r] T)) 3 (.slice (some ⟨W.heap.size, 0, none⟩) 1 1) 1 (fun _ => [.string u, .string k, .int .i64 r]) := by
  refine ⟨_, _, rfl, Nat.le_refl _, by unfold maxLen; omega, fun j hj => ⟨_, _, rfl, by simp, fun i hi => ?_⟩⟩
  obtain rfl : j = 0 := by omega
  match i, hi with
  | 0, _ => simp
  | 1, _ => simp
  | 2, _ => simp
theorem one_mem (u k : ByteArray) (r : Int) : ∀ x ∈ rowVs (fun _ => [.string u, .string k, .int .i64 r]) 1, x.oneCell' = true := rowVs_mem (fun j x hx => by
  simp at hx
  rcases hx with rfl | rfl | rfl <;> rfl) 1
theorem own_join {W : World} {base : Nat} {v : Value} {n : Nat} {U N : Nat → ByteArray} {R : Nat → Int} {u k : ByteArray} {r : Int} (h : W.ownsRow base 64 3 v (n + 1) (rowVs (memC U N R) n ++ rowVs (fun _ => [.string u, .string k, .int .i64 r]) 1)) : OwnM W base v (n + 1) (putAt n u U) (putAt n k N) (putAt n r R) := by
  have e : rowVs (memC U N R) n = rowVs (memC (putAt n u U) (putAt n k N) (putAt n r R)) n := rowVs_congr n fun j hj => by
    show [Value.string (U j), .string (N j), .int .i64 (R j)] = [.string (putAt n u U j), .string (putAt n k N j), .int .i64 (putAt n r R j)]
    simp only [putAt, if_neg (show ¬ j = n by omega)]
  rw [e] at h
  exact own_push h (by unfold putAt; simp)
theorem World.alloc_two (w : World) (o o2 : Obj) : ((w.alloc o).alloc o2).heap[w.heap.size]? = some o := (Below.heap_alloc _ _ _ (by simp)).trans (World.alloc_heap_new w o)
theorem OwnL.set_away {W : World} {base : Nat} {T : TypeId} {s : Nat} {v : Value} {n : Nat} {g : Nat → List Value} (h : OwnL W base T s v n g) {p : Addr} {x : Value} (hp : v.ownBlock ≠ some p.block) : OwnL (W.setCell p x) base T s v n g := by
  refine ⟨h.1, ?_⟩
  rcases h.2 with h2 | ⟨gg, cap, cur, hv, hb2, hgg, rest⟩
  · exact .inl h2
  · refine .inr ⟨gg, cap, cur, hv, hb2, (Below.heap_setCell _ _ _ _ (fun e => hp (by rw [hv, e]; rfl))).trans hgg, rest⟩
theorem OwnL.row {W : World} {base gg n cap s : Nat} {T : TypeId} {g : Nat → List Value} (h : OwnL W base T s (.slice (some ⟨gg, 0, none⟩) n cap) n g) (hg : ∀ j, (g j).length = s) : ∃ cur, base ≤ gg ∧ W.heap[gg]? = some (.cells cur T (0, 0)) ∧ n ≤ cap ∧ cap ≤ maxLen ∧ cur.size = cap * s ∧ ∀ j, j < n → ∀ i, i < s → cur[j * s + i]? = (g j)[i]? := by
  rcases h.2 with ⟨hv, _⟩ | ⟨g2, cap2, cur, hv, hb, hgg, hc, hM, hs, htk⟩
  · cases hv
  · injection hv with h1 h2 h3
    injection h1 with h1
    injection h1 with h1
    subst h1 h3
    refine ⟨cur, hb, hgg, hc, hM, hs, fun j hj i hi => ?_⟩
    have h4 : j * s + i < n * s := by
      have : (j + 1) * s ≤ n * s := Nat.mul_le_mul_right s hj
      rw [Nat.succ_mul] at this
      omega
    rw [← rowVs_at hg n j i hj hi, ← htk, List.getElem?_take, if_pos h4, Array.getElem?_toList]
theorem OwnL.put {W : World} {base gg n cap s : Nat} {T : TypeId} {g g' : Nat → List Value} (h : OwnL W base T s (.slice (some ⟨gg, 0, none⟩) n cap) n g) (hg : ∀ j, (g j).length = s) (hg' : ∀ j, (g' j).length = s) (hs : 0 < s) {k i0 : Nat} (hk : k < n) (hi0 : i0 < s) (x : Value) (he : ∀ j, j < n → ∀ i, i < s → (g' j)[i]? = if j = k ∧ i = i0 then some x else (g j)[i]?) : OwnL (W.setCell ⟨gg, k * s + i0, none⟩ x) base T s (.slice (some ⟨gg, 0, none⟩) n cap) n g' := by
  obtain ⟨cur, hb, hgg, hc, hM, hsz, hA⟩ := h.row hg
  have hlt : ∀ j i, j < n → i < s → j * s + i < cur.size := fun j i hj hi => by
    have h1 : (j + 1) * s ≤ n * s := Nat.mul_le_mul_right s hj
    have h2 : n * s ≤ cap * s := Nat.mul_le_mul_right s hc
    rw [Nat.succ_mul] at h1
    omega
  refine own_rowL hg' hs hb (set_heap W gg (k * s + i0) cur T (0, 0) x hgg) hc hM (by simp [hsz]) fun j hj i hi => ?_
  rw [at_set _ _ _ _ (hlt k i0 hk hi0), he j hj i hi]
  by_cases hjk : j = k ∧ i = i0
  · rw [if_pos hjk, if_pos (by rw [hjk.1, hjk.2])]
  · rw [if_neg hjk, if_neg ?_]
    · exact hA j hj i hi
    · intro e
      apply hjk
      have h1 : k * s + i0 = j * s + i := e
      rcases Nat.lt_trichotomy k j with h2 | h2 | h2
      · exfalso
        have : (k + 1) * s ≤ j * s := Nat.mul_le_mul_right s h2
        rw [Nat.succ_mul] at this
        omega
      · subst h2; exact ⟨rfl, by omega⟩
      · exfalso
        have : (j + 1) * s ≤ k * s := Nat.mul_le_mul_right s h2
        rw [Nat.succ_mul] at this
        omega
theorem own_role {W : World} {base gg n cap k : Nat} {U N : Nat → ByteArray} {R : Nat → Int} {m : Int} (h : OwnM W base (.slice (some ⟨gg, 0, none⟩) n cap) n U N R) (hk : k < n) : OwnM (W.setCell ⟨gg, k * 3 + 2, none⟩ (.int .i64 m)) base (.slice (some ⟨gg, 0, none⟩) n cap) n U N (putAt k m R) :=
  OwnL.put h (memC_len _ _ _) (memC_len _ _ _) (by omega) hk (by omega) _ fun j hj i hi => by
    match i, hi with
    | 0, _ => simp [memC]
    | 1, _ => simp [memC]
    | 2, _ =>
      by_cases hjk : j = k
      · simp [memC, putAt, hjk]
      · simp [memC, putAt, hjk]
theorem list_front {W : World} {s n k cap : Nat} {o : Option Addr} {g : Nat → List Value} (h : ListAt W s (.slice o n cap) n g) (hk : k ≤ n) : ListAt W s (.slice o k cap) k g := by
  obtain ⟨o9, c9, e9, h1, h2, hc⟩ := h
  injection e9 with e1 e2 e3
  subst e1 e3
  exact ⟨_, _, rfl, by omega, h2, fun j hj => hc j (by omega)⟩
theorem list_back {W : World} {s n k cap b f : Nat} {g : Nat → List Value} (h : ListAt W s (.slice (some ⟨b, f, none⟩) n cap) n g) (hk : k ≤ n) {ao : Option Addr} (ha : (if cap = k then some (⟨b, f, none⟩ : Addr) else some ⟨b, f + k * s, none⟩) = ao) : ListAt W s (.slice ao (n - k) (cap - k)) (n - k) (fun j => g (k + j)) := by
  obtain ⟨o9, c9, e9, h1, h2, hc⟩ := h
  injection e9 with e1 e2 e3
  subst e1 e3
  refine ⟨_, _, rfl, by omega, by omega, fun j hj => ?_⟩
  obtain ⟨b2, f2, e2, hb, c0⟩ := hc (k + j) (by omega)
  injection e2 with e2
  injection e2 with e3 e4
  subst e3 e4
  rw [if_neg (by omega)] at ha
  refine ⟨b, f + k * s, ha.symm, hb, fun i hi => ?_⟩
  have e : f + k * s + j * s + i = f + (k + j) * s + i := by rw [Nat.add_mul]; omega
  rw [e]
  exact c0 i hi
theorem own_leave {W : World} {base : Nat} {v : Value} {n k : Nat} {U N : Nat → ByteArray} {R : Nat → Int} (hk : k < n) (h : W.ownsRow base 64 3 v (k + (n - (k + 1))) (rowVs (memC U N R) k ++ rowVs (fun j => memC U N R (k + 1 + j)) (n - (k + 1)))) : OwnM W base v (n - 1) (cutAt k U) (cutAt k N) (cutAt k R) := by
  have en : k + (n - (k + 1)) = n - 1 := by omega
  have e1 : rowVs (memC U N R) k = rowVs (memC (cutAt k U) (cutAt k N) (cutAt k R)) k := rowVs_congr k fun j hj => by
    show [Value.string (U j), .string (N j), .int .i64 (R j)] = [.string (cutAt k U j), .string (cutAt k N j), .int .i64 (cutAt k R j)]
    simp only [cutAt, if_pos hj]
  have e2 : rowVs (fun j => memC U N R (k + 1 + j)) (n - (k + 1)) = rowVs (fun j => memC (cutAt k U) (cutAt k N) (cutAt k R) (k + j)) (n - (k + 1)) := rowVs_congr _ fun j hj => by
    show [Value.string (U (k + 1 + j)), .string (N (k + 1 + j)), .int .i64 (R (k + 1 + j))] = [.string (cutAt k U (k + j)), .string (cutAt k N (k + j)), .int .i64 (cutAt k R (k + j))]
    have e3 : k + 1 + j = k + j + 1 := by omega
    simp only [cutAt, if_neg (show ¬ k + j < k by omega), e3]
  unfold OwnM OwnL
  rw [e1, e2, ← rowVs_add, en] at h
  exact h
theorem step_append_list {P : Program} {w : World} {ops : Array Oper} {o : Oper} {a : Act} {K : Act → World → Prop} {Q : Exit → Act → World → Prop} {E : Prop} (hgd : o.guard = none) (s x : Operand) (t : TypeId)
    (ho : o.op = .call { callee := .builtin .append, args := #[s, x], argTypes := #[t, t] })
    (base : Nat) (e : TypeId) (i : TypeInfo) (z : Value) (size bytes : Nat) (ht : P.underlying t = some (.slice e)) (hi : P.info? e = some i) (hz : i.zero = some z)
    (hsize : i.size = size) (hby : i.bytes = bytes) (hzs : z.cells.size = size) (hsz : 0 < size)
    (v : Value) (n : Nat) (xs : List Value) (hs : a.eval s = v) (hown : w.ownsRow base e size v n xs)
    (vx : Value) (m : Nat) (g : Nat → List Value) (hx : a.eval x = vx) (hsrc : ListAt w size vx m g) (hg : ∀ j, (g j).length = size) (h1 : ∀ u ∈ rowVs g m, u.oneCell' = true)
    (h63 : n + m ≤ maxLen) (hbytes : (n + m) * bytes ≤ 140737488355328) (hbase : base ≤ w.heap.size) (H : Nat) (hH : w.heap.size = H)
    (h : ∀ oo cc w', w'.ownsRow base e size (.slice oo (n + m) cc) (n + m) (xs ++ rowVs g m) → w.grownBy w' v.ownBlock → ((Value.slice oo (n + m) cc).ownBlock = v.ownBlock ∨ (Value.slice oo (n + m) cc).ownBlock = some H) → K (a.put o.dst (.slice oo (n + m) cc)) w') :
    if Region.wanted o (yielded ops a.tmps) = true then Oper.wp P o a w K Q else E := by
  have hw : Region.wanted o (yielded ops a.tmps) = true := by simp [Region.wanted, hgd]
  rw [if_pos hw]
  obtain ⟨v', w', hr, h2, h3, h4⟩ := run_append_list (P := P) w t o.type base e i z size bytes ht hi hz hsize hby hzs hsz v n xs hown vx m g hsrc hg h1 h63 hbytes hbase
  unfold Oper.wp execOp
  simp only [ho, resolve, invoke, builtin, Sem.run_bind, Sem.run_pure, Result.andThen_ok, List.map_toArray, List.map_cons, List.map_nil, hs, hx, hr]
  obtain ⟨oo, cc, rfl⟩ : ∃ oo cc, v' = .slice oo (n + m) cc := by
    rcases h2.2 with ⟨e1, e2⟩ | ⟨g', c', cur', e1, _⟩
    · rw [e2]; exact ⟨_, _, e1⟩
    · exact ⟨_, _, e1⟩
  exact h oo cc w' h2 h3 (by rw [← hH]; exact h4)
theorem NewRoom.alloc {w W : World} {v : Value} {nm sb : ByteArray} {nx : Int} {n : Nat} {U N : Nat → ByteArray} {R : Nat → Int} {z : Nat} {KU : Nat → ByteArray} {KR : Nat → Int} (h : NewRoom w W v nm nx sb n U N R z KU KR) (o : Obj) : NewRoom w (W.alloc o) v nm nx sb n U N R z KU KR := by
  obtain ⟨vm, vk, e, a, b, c⟩ := h
  exact ⟨vm, vk, e, OwnL.alloc a o, OwnL.alloc b o, c⟩

set_option maxRecDepth 100000 in
set_option maxHeartbeats 8000000 in
theorem l6Apply_any (nm sb : ByteArray) (nx : Int) (vm vk : Value) (n : Nat) (U N : Nat → ByteArray) (R : Nat → Int) (z : Nat) (KU : Nat → ByteArray) (KR : Nat → Int) (r : ByteArray) (q kd : Int) (u nk t i fr : ByteArray) (m : Int) (w : World) (hm : MemAt w vm n U N R) (hk : RankAt w vk z KU KR) (hn : n ≤ 1048500) (hz : z ≤ 1048500) (hq : 0 ≤ q ∧ q ≤ 9998) (k p : Nat) (f : Bool)
    (hkd : kd = 1 ∨ kd = 2 ∨ kd = 3 ∨ kd = 4 ∨ kd = 5 ∨ kd = 6) (hof : kd = 2 ∨ kd = 5 → k < n ∧ firstI n (fun j => (U j).toList == u.toList) = (k : Int)) (hp : p ≤ z)
    (hlt : ∀ t, t < p → Op.bytesLess (KU t).toList u.toList = true) (hge : ∀ t, p ≤ t → t < z → Op.bytesLess (KU t).toList u.toList = false) (hne : ∀ t, t < z → (t ≠ p ∨ f = false) → ((KU t).toList == u.toList) = false) (hf : f = true → p < z ∧ ((KU p).toList == u.toList) = true) :
    Calls Tryz.prog 18 #[roomV nm nx vm vk sb, entV r q kd u nk t i fr m] w fun e w' => (∃ v, e = .returned v ∧ NewRoom w w' v nm (q + 1) (aftS kd sb t) (aftN kd n) (aftU kd n k u U) (aftU kd n k nk N) (aftR kd n k m R) (aftZ kd z p f m) (aftKU kd p f u m KU) (aftKR kd p f m KR)) ∧ Below w.heap.size w w' := by
  have cC := fun (W : World) (bb : Below w.heap.size w W) => l6Copy_any nm sb nx vm vk n U N R z KU KR W (hm.below bb) (hk.below bb) (by omega) (by omega)
  have hm' := hm
  have hk' := hk
  obtain ⟨mo, mc, rfl, -⟩ := hm'
  obtain ⟨ko, kc, rfl, -⟩ := hk'
  have hwq : IntKind.i64.wrap (q + 1) = q + 1 := by rw [IntKind.wrap_i64]; omega
  obtain ⟨W3, hW3⟩ : ∃ W3, W3 = (((w.alloc (.cells #[.string nm, .int .i64 nx, .slice mo n mc, .slice ko z kc, .string sb] 33)).alloc (.cells #[.string r, .int .i64 q, .int .i64 kd, .string u, .string nk, .string t, .string i, .string fr, .int .i64 m] 37)).alloc (.cells #[.string ⟨#[]⟩, .int .i64 0, .slice none 0 0, .slice none 0 0, .string ⟨#[]⟩] 33)) := ⟨_, rfl⟩
  have b3 : Below w.heap.size w W3 := by rw [hW3]; exact (((Below.refl _ w).alloc (Nat.le_refl _) _).alloc (by simp) _).alloc (by simp <;> omega) _
  have s3 : W3.heap.size = w.heap.size + 3 := by rw [hW3]; simp
  have hA : W3.heap[w.heap.size]? = some (.cells #[.string nm, .int .i64 nx, .slice mo n mc, .slice ko z kc, .string sb] 33 (0, 0)) := by
    rw [hW3, Below.heap_alloc _ _ _ (by simp <;> omega), Below.heap_alloc _ _ _ (by simp)]
    exact World.alloc_heap_new w _
  have hE : W3.heap[w.heap.size + 1]? = some (.cells #[.string r, .int .i64 q, .int .i64 kd, .string u, .string nk, .string t, .string i, .string fr, .int .i64 m] 37 (0, 0)) := by
    rw [hW3, Below.heap_alloc _ _ _ (by simp)]
    have := World.alloc_heap_new (w.alloc (.cells #[.string nm, .int .i64 nx, .slice mo n mc, .slice ko z kc, .string sb] 33)) (.cells #[.string r, .int .i64 q, .int .i64 kd, .string u, .string nk, .string t, .string i, .string fr, .int .i64 m] 37)
    simpa using this
  have hZ : W3.heap[w.heap.size + 1 + 1]? = some (.cells #[.string ⟨#[]⟩, .int .i64 0, .slice none 0 0, .slice none 0 0, .string ⟨#[]⟩] 33 (0, 0)) := by
    rw [hW3]
    have := World.alloc_heap_new ((w.alloc (.cells #[.string nm, .int .i64 nx, .slice mo n mc, .slice ko z kc, .string sb] 33)).alloc (.cells #[.string r, .int .i64 q, .int .i64 kd, .string u, .string nk, .string t, .string i, .string fr, .int .i64 m] 37)) (.cells #[.string ⟨#[]⟩, .int .i64 0, .slice none 0 0, .slice none 0 0, .string ⟨#[]⟩] 33)
    simpa using this
  have BA : Hid (∀ W, Below W3.heap.size W3 W → W.heap[w.heap.size]? = some (.cells #[.string nm, .int .i64 nx, .slice mo n mc, .slice ko z kc, .string sb] 33 (0, 0))) := fun W bb => (bb.block _ (by omega)).trans hA
  have BE : Hid (∀ W, Below W3.heap.size W3 W → W.heap[w.heap.size + 1]? = some (.cells #[.string r, .int .i64 q, .int .i64 kd, .string u, .string nk, .string t, .string i, .string fr, .int .i64 m] 37 (0, 0))) := fun W bb => (bb.block _ (by omega)).trans hE
  have BZ : Hid (∀ W, Below W3.heap.size W3 W → W.heap[w.heap.size + 1 + 1]? = some (.cells #[.string ⟨#[]⟩, .int .i64 0, .slice none 0 0, .slice none 0 0, .string ⟨#[]⟩] 33 (0, 0))) := fun W bb => (bb.block _ (by omega)).trans hZ
  have cC3 := cC W3 b3
  have HW3 : Hid (W3 = (((w.alloc (.cells #[.string nm, .int .i64 nx, .slice mo n mc, .slice ko z kc, .string sb] 33)).alloc (.cells #[.string r, .int .i64 q, .int .i64 kd, .string u, .string nk, .string t, .string i, .string fr, .int .i64 m] 37)).alloc (.cells #[.string ⟨#[]⟩, .int .i64 0, .slice none 0 0, .slice none 0 0, .string ⟨#[]⟩] 33))) := hW3
  clear hW3 hA hE hZ cC
  rcases hkd with rfl | rfl | rfl | rfl | rfl | rfl
  · skip
    rw [show aftS 1 sb t = sb by simp [aftS]]
    rw [show aftN 1 n = n + 1 by simp [aftN]]
    rw [show aftU 1 n k u U = putAt n u U by simp [aftU]]
    rw [show aftU 1 n k nk N = putAt n nk N by simp [aftU]]
    rw [show aftR 1 n k m R = putAt n m R by simp [aftR]]
    rw [show aftZ 1 z p f m = z by simp [aftZ]]
    rw [show aftKU 1 p f u m KU = KU by simp [aftKU]]
    rw [show aftKR 1 p f m KR = KR by simp [aftKR]]
    obtain ⟨i0, hi0, hy0, hy1, hy2⟩ := info_parts info_mem
    go_enter Tryz.func18, Tryz.ntmps18
    go_wp2_with first
      | (at_builtin; refine wpList_append_list rfl _ _ _ rfl W3.heap.size 64 i0 _ 3 40 Tryz.underlying30 hi0 hy0 hy1 hy2 rfl (by omega) (.slice oo n oc) n (rowVs (memC U N R) n) rfl OX.out (.slice (some ⟨w1.heap.size + 1, 0, none⟩) 1 1) 1 (fun _ => [.string u, .string nk, .int .i64 m]) rfl SX.out (fun _ => rfl) (one_mem _ _ _) (by unfold maxLen; omega) (by omega) (by simp <;> omega) (w1.heap.size + 1 + 1) (by simp) ?_; intro o4 c4 w4 hown4 hgrow4 hat4; have l4 := hgrow4.size; simp at l4; have OM4 : Hid (OwnM w4 W3.heap.size (.slice o4 (n + 1) c4) (n + 1) (putAt n u U) (putAt n nk N) (putAt n m R)) := own_join hown4; have eC := (hgrow4.block w1.heap.size (by simp <;> omega) (fun e => by have h := (OwnL.lt OM _ e.symm).2; omega)).trans (World.alloc_two w1 _ _); have eZ := (hgrow4.block (w.heap.size + 1 + 1) (by simp <;> omega) (fun e => by have h := (OwnL.lt OM _ e.symm).1; omega)).trans ((Below.heap_alloc _ _ _ (by simp; omega)).trans ((Below.heap_alloc _ _ _ lZ).trans HZ1.out)); have HZ4 : Hid (w4.heap[w.heap.size + 1 + 1]? = _) := eZ; have HC4 : Hid (w4.heap[w1.heap.size]? = _) := eC; obtain ⟨r0, r1, r2, r3, r4⟩ := rm_cells eC; obtain ⟨s0, s1, s2, s3, s4⟩ := rm_cells eZ; have f1 : ∀ i, w4.frozen? ⟨w1.heap.size, i, none⟩ = false := (fun i => (by simp [World.frozen?, eC])); have f2 : ∀ i, w4.frozen? ⟨w.heap.size + 1 + 1, i, none⟩ = false := (fun i => (by simp [World.frozen?, eZ])); clear eC eZ)
      | (go_at_call 17; rw [← HW3.out]; go_fit cC3; rintro e w1 ⟨⟨v1, rfl, vm1, vk1, rfl, OM, OK, AP⟩, b1⟩; obtain ⟨oo, oc, rfl⟩ := OwnL.shape OM; obtain ⟨po, pc, rfl⟩ := OwnL.shape OK; have eA := BA.out w1 b1; have eE := BE.out w1 b1; have eZ := BZ.out w1 b1; obtain ⟨a0, a1, a2, a3, a4⟩ := rm_cells eA; obtain ⟨n0, n1, n2, n3, n4, n5, n6, n7, n8⟩ := nine_at eE; obtain ⟨z0, z1, z2, z3, z4⟩ := rm_cells eZ; have zf : ∀ j, w1.frozen? ⟨w.heap.size + 1 + 1, j, none⟩ = false := (fun j => (by simp [World.frozen?, eZ])); have l1 := b1.size; have lA : w.heap.size < w1.heap.size := (by omega); have lE : w.heap.size + 1 < w1.heap.size := (by omega); have lZ : w.heap.size + 1 + 1 < w1.heap.size := (by omega); have HZ1 : Hid (w1.heap[w.heap.size + 1 + 1]? = _) := eZ; clear eA eE eZ; have OX : Hid (((w1.alloc (.cells #[.string nm, .int .i64 (q + 1), .slice oo n oc, .slice po z pc, .string sb] 33)).alloc (.cells #[.string u, .string nk, .int .i64 m] 64)).ownsRow W3.heap.size 64 3 (.slice oo n oc) n (rowVs (memC U N R) n)) := (OwnL.alloc (OwnL.alloc OM _) _); have SX : Hid (ListAt ((w1.alloc (.cells #[.string nm, .int .i64 (q + 1), .slice oo n oc, .slice po z pc, .string sb] 33)).alloc (.cells #[.string u, .string nk, .int .i64 m] 64)) 3 (.slice (some ⟨w1.heap.size + 1, 0, none⟩) 1 1) 1 (fun _ => [.string u, .string nk, .int .i64 m])) := (by have h := three_cells (w1.alloc (.cells #[.string nm, .int .i64 (q + 1), .slice oo n oc, .slice po z pc, .string sb] 33)) u nk m 64; have e : (w1.alloc (.cells #[.string nm, .int .i64 (q + 1), .slice oo n oc, .slice po z pc, .string sb] 33)).heap.size = w1.heap.size + 1 := (by simp); rw [e] at h; exact h))
    have KK4 : OwnK w4 W3.heap.size (.slice po z pc) z KU KR := OwnL.kept (OwnL.alloc (OwnL.alloc OK _) _) hgrow4 (by
      cases hc : (Value.slice po z pc).ownBlock with
      | none => exact .inl rfl
      | some q2 => right; intro e; exact AP q2 e.symm hc)
    have B4 : Below w.heap.size w w4 := (((b3.trans (b1.mono b3.size)).alloc (by omega) _).alloc (by simp; omega) _).grown hgrow4 (by simp; omega) (fun q2 hq2 => by have h := (OwnL.lt OM q2 hq2).1; omega)
    have KL := OwnL.lt OK
    have FZ : Hid ((w4.setCell ⟨w1.heap.size, 2, none⟩ (.slice o4 (n + 1) c4)).heap[w.heap.size + 1 + 1]? = _) := (Below.heap_setCell _ _ _ _ (by simp; omega)).trans HZ4.out
    have FB : Below w.heap.size w (w4.setCell ⟨w1.heap.size, 2, none⟩ (.slice o4 (n + 1) c4)) := B4.setCell (p := ⟨w1.heap.size, 2, none⟩) (by show w.heap.size ≤ w1.heap.size; omega) _
    have FM : OwnM (w4.setCell ⟨w1.heap.size, 2, none⟩ (.slice o4 (n + 1) c4)) W3.heap.size (.slice o4 (n + 1) c4) (n + 1) (putAt n u U) (putAt n nk N) (putAt n m R) := OwnL.set_away OM4.out (fun e => by
      rcases hat4 with h | h
      · have h2 := (OwnL.lt OM _ (h.symm.trans e)).2; simp at h2
      · have h2 := Option.some.inj (e.symm.trans h); dsimp only at h2; omega)
    have FK : OwnK (w4.setCell ⟨w1.heap.size, 2, none⟩ (.slice o4 (n + 1) c4)) W3.heap.size (.slice po z pc) z KU KR := OwnL.set_away KK4 (fun e => by have h2 := (KL _ e).2; simp at h2)
    have FA : Apart (.slice o4 (n + 1) c4) (.slice po z pc) := fun q2 g1 g2 => by
      rcases hat4 with h | h
      · exact AP q2 (h.symm.trans g1) g2
      · have h2 := Option.some.inj (g1.symm.trans h); have h3 := (KL _ g2).2; omega
    obtain ⟨NR, bl, k0, k1, k2, k3, k4⟩ := fin_room (nm := nm) (nx := q + 1) (sb := sb) FZ.out (by omega) (by omega) FB FM FK FA
    obtain ⟨W9, hW9⟩ : ∃ W9, roomW (w4.setCell ⟨w1.heap.size, 2, none⟩ (.slice o4 (n + 1) c4)) (w.heap.size + 1 + 1) nm (q + 1) (.slice o4 (n + 1) c4) (.slice po z pc) sb = W9 := ⟨_, rfl⟩
    rw [hW9] at NR bl k0 k1 k2 k3 k4
    unfold roomW at hW9
    rw [hW9]
    exact bodyPost_ret (v := roomV nm (q + 1) (.slice o4 (n + 1) c4) (.slice po z pc) sb) (by simp [results, Tryz.results18, go_sem, k0, k1, k2, k3, k4]) rfl ⟨⟨_, rfl, NR⟩, bl⟩
  · skip
    rw [show aftS 2 sb t = sb by simp [aftS]]
    rw [show aftN 2 n = n - 1 by simp [aftN]]
    rw [show aftU 2 n k u U = cutAt k U by simp [aftU]]
    rw [show aftU 2 n k nk N = cutAt k N by simp [aftU]]
    rw [show aftR 2 n k m R = cutAt k R by simp [aftR]]
    rw [show aftZ 2 z p f m = z by simp [aftZ]]
    rw [show aftKU 2 p f u m KU = KU by simp [aftKU]]
    rw [show aftKR 2 p f m KR = KR by simp [aftKR]]
    obtain ⟨i0, hi0, hy0, hy1, hy2⟩ := info_parts info_mem
    obtain ⟨hkn, hof⟩ := hof (by decide)
    have cO := fun (W : World) (bb : Below w.heap.size w W) => l6Of_any nm sb u nx (.slice mo n mc) (.slice ko z kc) n U N R W (hm.below bb)
    rw [hof] at cO
    have hk0 : (0 : Int) ≤ (k : Int) := by omega
    have hkI : (k : Int) < (n : Int) := by omega
    have hmr : mc ≤ 9223372036854775807 ∧ n ≤ mc := by
      obtain ⟨o9, c9, e9, h9, h8, -⟩ := hm
      injection e9 with e1 e2 e3
      subst e3
      exact ⟨h8, h9⟩
    clear hof
    obtain ⟨mb, mf, hmo⟩ : ∃ mb mf, mo = some ⟨mb, mf, none⟩ := by
      obtain ⟨o9, c9, e9, -, -, h8⟩ := hm
      obtain ⟨b8, f8, h7, -⟩ := h8 k hkn
      injection e9 with e1
      exact ⟨b8, f8, e1.trans h7⟩
    subst hmo
    have HMK : Hid (MemAt w (.slice (some ⟨mb, mf, none⟩) n mc) n U N R) := hm
    clear hm hk hlt hge hne hf
    go_enter Tryz.func18, Tryz.ntmps18
    go_wp2_with first
      | (go_at_call 41; rw [← HW4.out]; go_fit cO4; rintro e w5 ⟨rfl, b5⟩; have l5 := b5.size; have BW5 : Below W3.heap.size W3 w5 := b1.trans ((b4.trans (b5.mono b4.size)).mono b1.size); obtain ⟨e0, e1, e2, e3, e4, e5, e6, e7, e8⟩ := nine_at (BE.out w5 BW5); obtain ⟨d0, d1, d2, d3, d4⟩ := rm_cells (BA.out w5 BW5); have eC := (b5.block w1.heap.size (by omega)).trans HC4.out; have eZ := (b5.block (w.heap.size + 1 + 1) (by omega)).trans ((b4.block (w.heap.size + 1 + 1) (by omega)).trans HZ1.out); have HZ5 : Hid (w5.heap[w.heap.size + 1 + 1]? = _) := eZ; have HC5 : Hid (w5.heap[w1.heap.size]? = _) := eC; obtain ⟨r0, r1, r2, r3, r4⟩ := rm_cells eC; obtain ⟨t0, t1, t2, t3, t4⟩ := rm_cells eZ; have f1 : ∀ i, w5.frozen? ⟨w1.heap.size, i, none⟩ = false := (fun i => (by simp [World.frozen?, eC])); have f2 : ∀ i, w5.frozen? ⟨w.heap.size + 1 + 1, i, none⟩ = false := (fun i => (by simp [World.frozen?, eZ])); clear eC eZ)
      | (go_at_call 17; rw [← HW3.out]; go_fit cC3; rintro e w1 ⟨⟨v1, rfl, vm1, vk1, rfl, OM, OK, AP⟩, b1⟩; obtain ⟨oo, oc, rfl⟩ := OwnL.shape OM; obtain ⟨po, pc, rfl⟩ := OwnL.shape OK; have eA := BA.out w1 b1; have eE := BE.out w1 b1; have eZ := BZ.out w1 b1; obtain ⟨a0, a1, a2, a3, a4⟩ := rm_cells eA; obtain ⟨n0, n1, n2, n3, n4, n5, n6, n7, n8⟩ := nine_at eE; obtain ⟨z0, z1, z2, z3, z4⟩ := rm_cells eZ; have zf : ∀ j, w1.frozen? ⟨w.heap.size + 1 + 1, j, none⟩ = false := (fun j => (by simp [World.frozen?, eZ])); have l1 := b1.size; have lA : w.heap.size < w1.heap.size := (by omega); have lE : w.heap.size + 1 < w1.heap.size := (by omega); have lZ : w.heap.size + 1 + 1 < w1.heap.size := (by omega); have HZ1 : Hid (w1.heap[w.heap.size + 1 + 1]? = _) := eZ; clear eA eE eZ; obtain ⟨W4, hW4⟩ : ∃ W4, W4 = (w1.alloc (.cells #[.string nm, .int .i64 (q + 1), .slice oo n oc, .slice po z pc, .string sb] 33)) := ⟨_, rfl⟩; have b4 : Below w1.heap.size w1 W4 := (by rw [hW4]; exact (Below.refl _ w1).alloc (Nat.le_refl _) _); have s4 : W4.heap.size = w1.heap.size + 1 := (by rw [hW4]; simp); have hC4 : W4.heap[w1.heap.size]? = some (.cells #[.string nm, .int .i64 (q + 1), .slice oo n oc, .slice po z pc, .string sb] 33 (0, 0)) := (by rw [hW4]; exact World.alloc_heap_new w1 _); have HW4 : Hid (W4 = (w1.alloc (.cells #[.string nm, .int .i64 (q + 1), .slice oo n oc, .slice po z pc, .string sb] 33))) := hW4; have HC4 : Hid (W4.heap[w1.heap.size]? = some (.cells #[.string nm, .int .i64 (q + 1), .slice oo n oc, .slice po z pc, .string sb] 33 (0, 0))) := hC4; clear hW4 hC4; have cO4 := cO W4 (b3.trans ((b1.trans (b4.mono b1.size)).mono b3.size)))
    have S5 : w5.drew.cell? ⟨w.heap.size, 2, none⟩ = some (.slice (some ⟨mb, mf, none⟩) n mc) := d2
    have BD5 : Below w.heap.size w w5.drew := (b3.trans (BW5.mono b3.size)).drew
    have sD : w5.drew.heap.size = w5.heap.size := rfl
    have hkm : (k : Int) ≤ (mc : Int) := by omega
    have hk1m : (k : Int) + 1 ≤ (n : Int) := by omega
    have hk10 : (0 : Int) ≤ (k : Int) + 1 := by omega
    obtain ⟨ao, hao⟩ : ∃ ao, (if mc = k + 1 then some (⟨mb, mf, none⟩ : Addr) else some ⟨mb, mf + (k + 1) * 3, none⟩) = ao := ⟨_, rfl⟩
    have hkw : IntKind.i64.wrap ((k : Int) + 1) = (k : Int) + 1 := by rw [IntKind.wrap_i64]; omega
    refine wp_region_held_drew (S := fun W => W.cell? ⟨w.heap.size, 2, none⟩ = some (.slice (some ⟨mb, mf, none⟩) n mc)) (by kernel_rfl) S5 (fun hHeld => ?_)
    refine wpAnyH_take (i := 1) (v := ?_) rfl (by kernel_rfl) (by kernel_rfl) (by kernel_rfl) (fun _ _ _ h => h) (Or.inl ⟨by rfl, ?takeY1⟩) S5 ?takeR1
    case takeY1 => (intro w hSw; (try dsimp only at hSw); go_simp; try (with_reducible rfl))
    simp only [Act.put, List.setIfInBounds_toArray, List.set_cons_zero, List.set_cons_succ, List.getElem_toArray, List.getElem_cons_zero, List.getElem_cons_succ]
    refine wpAnyH_take (i := 2) (v := ?_) rfl (by kernel_rfl) (by kernel_rfl) (by kernel_rfl) (fun _ _ _ h => h) (Or.inl ⟨by rfl, ?takeY2⟩) S5 ?takeR2
    case takeY2 => (intro w hSw; (try dsimp only at hSw); go_simp; try (with_reducible rfl))
    simp only [Act.put, List.setIfInBounds_toArray, List.set_cons_zero, List.set_cons_succ, List.getElem_toArray, List.getElem_cons_zero, List.getElem_cons_succ]
    refine wpAnyH_take (i := 3) (v := ?_) rfl (by kernel_rfl) (by kernel_rfl) (by kernel_rfl) (fun _ _ _ h => h) (Or.inl ⟨by rfl, ?takeY3⟩) S5 ?takeR3
    case takeY3 => (intro w hSw; (try dsimp only at hSw); go_simp; try (with_reducible rfl))
    simp only [Act.put, List.setIfInBounds_toArray, List.set_cons_zero, List.set_cons_succ, List.getElem_toArray, List.getElem_cons_zero, List.getElem_cons_succ]
    refine wpAnyH_take (i := 4) (v := ?_) rfl (by kernel_rfl) (by kernel_rfl) (by kernel_rfl) (fun _ _ _ h => h) (Or.inl ⟨by rfl, ?takeY4⟩) S5 ?takeR4
    case takeY4 => (intro w hSw; (try dsimp only at hSw); go_simp; try (with_reducible rfl))
    simp only [Act.put, List.setIfInBounds_toArray, List.set_cons_zero, List.set_cons_succ, List.getElem_toArray, List.getElem_cons_zero, List.getElem_cons_succ]
    refine wpAnyH_take (i := 6) (v := ?_) rfl (by kernel_rfl) (by kernel_rfl) (by kernel_rfl) (fun _ _ _ h => h) (Or.inl ⟨by rfl, ?takeY6⟩) S5 ?takeR6
    case takeY6 => (intro w hSw; (try dsimp only at hSw); go_simp; try (with_reducible rfl))
    simp only [Act.put, List.setIfInBounds_toArray, List.set_cons_zero, List.set_cons_succ, List.getElem_toArray, List.getElem_cons_zero, List.getElem_cons_succ]
    refine wpAnyH_take (i := 7) (v := ?_) rfl (by kernel_rfl) (by kernel_rfl) (by kernel_rfl) (fun _ _ _ h => h) (Or.inl ⟨by rfl, ?takeY7⟩) S5 ?takeR7
    case takeY7 => (intro w hSw; (try dsimp only at hSw); go_simp; try (with_reducible rfl))
    simp only [Act.put, List.setIfInBounds_toArray, List.set_cons_zero, List.set_cons_succ, List.getElem_toArray, List.getElem_cons_zero, List.getElem_cons_succ]
    refine wpAnyH_take (i := 8) (v := ?_) rfl (by kernel_rfl) (by kernel_rfl) (by kernel_rfl) (fun _ _ _ h => h) (Or.inl ⟨by rfl, ?takeY8⟩) S5 ?takeR8
    case takeY8 => (intro w hSw; (try dsimp only at hSw); go_simp; try (with_reducible rfl))
    simp only [Act.put, List.setIfInBounds_toArray, List.set_cons_zero, List.set_cons_succ, List.getElem_toArray, List.getElem_cons_zero, List.getElem_cons_succ]
    refine wpAnyH_take (i := 9) (v := ?_) rfl (by kernel_rfl) (by kernel_rfl) (by kernel_rfl) (fun _ _ _ h => h) (Or.inl ⟨by rfl, ?takeY9⟩) S5 ?takeR9
    case takeY9 => (intro w hSw; (try dsimp only at hSw); go_simp; try (with_reducible rfl))
    simp only [Act.put, List.setIfInBounds_toArray, List.set_cons_zero, List.set_cons_succ, List.getElem_toArray, List.getElem_cons_zero, List.getElem_cons_succ]
    refine wpAnyH_take (i := 10) (v := ?_) rfl (by kernel_rfl) (by kernel_rfl) (by kernel_rfl) (fun _ _ _ h => h) (Or.inl ⟨by rfl, ?takeY10⟩) S5 ?takeR10
    case takeY10 => (intro w hSw; (try dsimp only at hSw); go_simp; try (with_reducible rfl))
    simp only [Act.put, List.setIfInBounds_toArray, List.set_cons_zero, List.set_cons_succ, List.getElem_toArray, List.getElem_cons_zero, List.getElem_cons_succ]
    have HAO : Hid (_ = ao) := hao
    clear hao
    have bX6 : Below w.heap.size w (w5.drew.alloc (.cells #[] 64)) := BD5.alloc BD5.size _
    have OW6 : (w5.drew.alloc (.cells #[] 64)).ownsRow w5.heap.size 64 3 (.slice (some ⟨w5.heap.size, 0, none⟩) 0 0) 0 [] := World.ownsRow_made w5.drew #[] 0 (Nat.le_refl _) (Nat.zero_le _) rfl
    have SR6 := list_front (mem_list.1 (HMK.out.below bX6)) (Nat.le_of_lt hkn)
    have wl : w.heap.size < w5.heap.size := by omega
    have SX6 : (w5.drew.alloc (.cells #[] 64)).cell? ⟨w.heap.size, 2, none⟩ = some (.slice (some ⟨mb, mf, none⟩) n mc) := (World.cell?_of_block (Below.heap_alloc _ _ _ wl)).trans S5
    refine wpAnyH_ready (rs := [0]) (by kernel_rfl) (by simp) ?_
    refine AllReadyH.cons rfl (fun K hK => ?_) AllReadyH.nil
    go_simp
    refine hK.out _ _ SX6 (fun _ => ?_)
    clear hK K
    try simp only [Act.put, List.setIfInBounds_toArray, List.set_cons_zero, List.set_cons_succ, List.getElem_toArray, List.getElem_cons_zero, List.getElem_cons_succ]
    refine wpAnyH_ready (rs := [5]) (by kernel_rfl) (by simp) ?_
    refine AllReadyH.cons rfl (fun K hK => ?_) AllReadyH.nil
    refine step_append_list (by rfl) _ _ _ (by rfl) w5.heap.size 64 i0 _ 3 40 Tryz.underlying30 hi0 hy0 hy1 hy2 rfl (by omega) (.slice (some ⟨w5.heap.size, 0, none⟩) 0 0) 0 [] (by rfl) OW6 (.slice (some ⟨mb, mf, none⟩) k mc) k (memC U N R) (by rfl) SR6 (memC_len _ _ _) (memC_one _ _ _ _) (by unfold maxLen; omega) (by omega) (by simp) (w5.heap.size + 1) (by simp) ?_
    intro o6 c6 w6 hown6 hgrow6 hat6
    have l6 := hgrow6.size
    simp at l6
    have l6' : w5.heap.size + 1 ≤ w6.heap.size := l6
    rw [Nat.zero_add, List.nil_append] at hown6
    rw [Nat.zero_add] at hat6
    have row6 : ∀ q2 : Nat, q2 ≠ w5.heap.size → some q2 ≠ (Value.slice (some ⟨w5.heap.size, 0, none⟩) 0 0).ownBlock := fun q2 hq2 e => hq2 (Option.some.inj e)
    have b6 : Below w.heap.size w w6 := bX6.grown hgrow6 bX6.size (fun q2 hq2 => by have h := Option.some.inj hq2; dsimp only at h; omega)
    have S6 : w6.cell? ⟨w.heap.size, 2, none⟩ = some (.slice (some ⟨mb, mf, none⟩) n mc) := (World.cell?_of_block (hgrow6.block w.heap.size (by simp; omega) (row6 _ (by omega)))).trans SX6
    have SR7 := list_back (mem_list.1 (HMK.out.below b6)) hkn HAO.out
    have OL6 := World.ownsRow.lt hown6
    refine hK.out _ _ S6 (fun _ => ?_)
    clear hK K
    try simp only [Act.put, List.setIfInBounds_toArray, List.set_cons_zero, List.set_cons_succ, List.getElem_toArray, List.getElem_cons_zero, List.getElem_cons_succ]
    simp only [Nat.zero_add]
    refine wpAnyH_ready (rs := [11]) (by kernel_rfl) (by simp) ?_
    refine AllReadyH.cons rfl (fun K hK => ?_) AllReadyH.nil
    refine step_append_list (by rfl) _ _ _ (by rfl) w5.heap.size 64 i0 _ 3 40 Tryz.underlying30 hi0 hy0 hy1 hy2 rfl (by omega) (.slice o6 k c6) k (rowVs (memC U N R) k) (by rfl) hown6 (.slice ao (n - (k + 1)) (mc - (k + 1))) (n - (k + 1)) (fun j => memC U N R (k + 1 + j)) (by rfl) SR7 (fun _ => rfl) (rowVs_mem (fun j x hx => by simp at hx; rcases hx with rfl | rfl | rfl <;> rfl) _) (by unfold maxLen; omega) (by omega) (by omega) w6.heap.size rfl ?_
    intro o7 c7 w7 hown7 hgrow7 hat7
    have l7 := hgrow7.size
    have row7 : ∀ q2 : Nat, q2 < w5.heap.size → some q2 ≠ (Value.slice o6 k c6).ownBlock := fun q2 hq2 e => by have := (OL6 q2 e.symm).1; omega
    have b7 : Below w.heap.size w w7 := b6.grown hgrow7 b6.size (fun q2 hq2 => by have := (OL6 q2 hq2).1; omega)
    have S7 : w7.cell? ⟨w.heap.size, 2, none⟩ = some (.slice (some ⟨mb, mf, none⟩) n mc) := (World.cell?_of_block (hgrow7.block w.heap.size (by omega) (row7 _ (by omega)))).trans S6
    have keep : ∀ q2, q2 < w5.heap.size → w7.heap[q2]? = w5.heap[q2]? := fun q2 hq2 => (hgrow7.block q2 (by omega) (row7 q2 hq2)).trans ((hgrow6.block q2 (by simp; omega) (row6 q2 (by omega))).trans (Below.heap_alloc _ _ _ hq2))
    have OM7 := own_leave hkn hown7
    have eC := (keep w1.heap.size (by omega)).trans HC5.out
    have eZ := (keep (w.heap.size + 1 + 1) (by omega)).trans HZ5.out
    have HZ7 : Hid (w7.heap[w.heap.size + 1 + 1]? = _) := eZ
    obtain ⟨g0, g1, g2, g3, g4⟩ := rm_cells eC
    obtain ⟨j0, j1, j2, j3, j4⟩ := rm_cells eZ
    have fC7 : ∀ i, w7.frozen? ⟨w1.heap.size, i, none⟩ = false := fun i => by simp [World.frozen?, eC]
    have fZ7 : ∀ i, w7.frozen? ⟨w.heap.size + 1 + 1, i, none⟩ = false := fun i => by simp [World.frozen?, eZ]
    have OK7 : OwnK w7 W3.heap.size (.slice po z pc) z KU KR := by
      have KL := OwnL.lt OK
      refine ⟨OK.1, ?_⟩
      rcases OK.2 with h2 | ⟨gg, cap9, cur9, hv9, hb9, hg9, rest⟩
      · exact .inl h2
      · refine .inr ⟨gg, cap9, cur9, hv9, hb9, ?_, rest⟩
        have hl9 : gg < w1.heap.size := (Array.getElem?_eq_some_iff.1 hg9).1
        exact (keep gg (by omega)).trans ((b5.block gg (by omega)).trans ((b4.block gg hl9).trans hg9))
    clear eC eZ
    refine hK.out _ _ S7 (fun _ => ?_)
    clear hK K
    try simp only [Act.put, List.setIfInBounds_toArray, List.set_cons_zero, List.set_cons_succ, List.getElem_toArray, List.getElem_cons_zero, List.getElem_cons_succ]
    refine wpAnyH_take (i := 12) (v := ?_) rfl (by kernel_rfl) (by kernel_rfl) (by kernel_rfl) (fun _ _ _ h => h) (Or.inl ⟨by rfl, ?takeY12⟩) S7 ?takeR12
    case takeY12 => (intro w hSw; (try dsimp only at hSw); go_simp; try (with_reducible rfl))
    simp only [Act.put, List.setIfInBounds_toArray, List.set_cons_zero, List.set_cons_succ, List.getElem_toArray, List.getElem_cons_zero, List.getElem_cons_succ]

    refine wpAnyH_ready (rs := [13]) (by kernel_rfl) (by simp) ?_
    refine AllReadyH.cons rfl (fun K hK => ?_) AllReadyH.nil
    go_simp
    have S8 : (w7.setCell ⟨w1.heap.size, 2, none⟩ (.slice o7 (k + (n - (k + 1))) c7)).cell? ⟨w.heap.size, 2, none⟩ = some (.slice (some ⟨mb, mf, none⟩) n mc) := (World.cell?_setCell_other _ _ _ _ (fun e => by have e9 := congrArg Addr.block e; simp at e9; omega)).trans S7
    refine hK.out _ _ S8 (fun _ => ?_)
    clear hK K
    try simp only [Act.put, List.setIfInBounds_toArray, List.set_cons_zero, List.set_cons_succ, List.getElem_toArray, List.getElem_cons_zero, List.getElem_cons_succ]
    refine wpAnyH_done (by kernel_rfl) ?_ _
    go_wp2_with fail
    have ML7 := OwnL.lt OM7
    have KL7 := OwnL.lt OK
    have FZ : Hid ((w7.setCell ⟨w1.heap.size, 2, none⟩ (.slice o7 (k + (n - (k + 1))) c7)).heap[w.heap.size + 1 + 1]? = _) := (Below.heap_setCell _ _ _ _ (by simp; omega)).trans HZ7.out
    have FB : Below w.heap.size w (w7.setCell ⟨w1.heap.size, 2, none⟩ (.slice o7 (k + (n - (k + 1))) c7)) := b7.setCell (p := ⟨w1.heap.size, 2, none⟩) (by show w.heap.size ≤ w1.heap.size; omega) _
    have FM : OwnM (w7.setCell ⟨w1.heap.size, 2, none⟩ (.slice o7 (k + (n - (k + 1))) c7)) W3.heap.size (.slice o7 (k + (n - (k + 1))) c7) (n - 1) (cutAt k U) (cutAt k N) (cutAt k R) := OwnL.mono (OwnL.set OM7 ⟨w1.heap.size, 2, none⟩ _ (by show w1.heap.size < w5.heap.size; omega)) (by omega)
    have FK : OwnK (w7.setCell ⟨w1.heap.size, 2, none⟩ (.slice o7 (k + (n - (k + 1))) c7)) W3.heap.size (.slice po z pc) z KU KR := OwnL.set_away OK7 (fun e => by have h2 := (KL7 _ e).2; simp at h2)
    have FA : Apart (.slice o7 (k + (n - (k + 1))) c7) (.slice po z pc) := fun q2 h1 h2 => by
      have h3 := (ML7 _ h1).1
      have h4 := (KL7 _ h2).2
      omega
    obtain ⟨NR, bl, k0, k1, k2, k3, k4⟩ := fin_room (nm := nm) (nx := q + 1) (sb := sb) FZ.out (by omega) (by omega) FB FM FK FA
    obtain ⟨W9, hW9⟩ : ∃ W9, roomW (w7.setCell ⟨w1.heap.size, 2, none⟩ (.slice o7 (k + (n - (k + 1))) c7)) (w.heap.size + 1 + 1) nm (q + 1) (.slice o7 (k + (n - (k + 1))) c7) (.slice po z pc) sb = W9 := ⟨_, rfl⟩
    rw [hW9] at NR bl k0 k1 k2 k3 k4
    unfold roomW at hW9
    rw [hW9]
    exact bodyPost_ret (v := roomV nm (q + 1) (.slice o7 (k + (n - (k + 1))) c7) (.slice po z pc) sb) (by simp [results, Tryz.results18, go_sem, k0, k1, k2, k3, k4]) rfl ⟨⟨_, rfl, NR⟩, bl⟩

  · skip
    rw [show aftS 3 sb t = sb by simp [aftS]]
    rw [show aftN 3 n = n by simp [aftN]]
    rw [show aftU 3 n k u U = U by simp [aftU]]
    rw [show aftU 3 n k nk N = N by simp [aftU]]
    rw [show aftR 3 n k m R = R by simp [aftR]]
    rw [show aftZ 3 z p f m = z by simp [aftZ]]
    rw [show aftKU 3 p f u m KU = KU by simp [aftKU]]
    rw [show aftKR 3 p f m KR = KR by simp [aftKR]]
    go_enter Tryz.func18, Tryz.ntmps18
    go_wp2_with (go_at_call 17; rw [← HW3.out]; go_fit cC3; rintro e w1 ⟨⟨v1, rfl, vm1, vk1, rfl, OM, OK, AP⟩, b1⟩; obtain ⟨oo, oc, rfl⟩ := OwnL.shape OM; obtain ⟨po, pc, rfl⟩ := OwnL.shape OK; have eA := BA.out w1 b1; have eE := BE.out w1 b1; have eZ := BZ.out w1 b1; obtain ⟨a0, a1, a2, a3, a4⟩ := rm_cells eA; obtain ⟨n0, n1, n2, n3, n4, n5, n6, n7, n8⟩ := nine_at eE; obtain ⟨z0, z1, z2, z3, z4⟩ := rm_cells eZ; have zf : ∀ j, w1.frozen? ⟨w.heap.size + 1 + 1, j, none⟩ = false := (fun j => (by simp [World.frozen?, eZ])); have l1 := b1.size; have lA : w.heap.size < w1.heap.size := (by omega); have lE : w.heap.size + 1 < w1.heap.size := (by omega); have lZ : w.heap.size + 1 + 1 < w1.heap.size := (by omega); have HZ1 : Hid (w1.heap[w.heap.size + 1 + 1]? = _) := eZ; clear eA eE eZ)
    have FZ := HZ1
    have FB := b3.trans (b1.mono b3.size)
    have FM := OM
    have FK := OK
    have FA := AP
    obtain ⟨NR, bl, k0, k1, k2, k3, k4⟩ := fin_room (nm := nm) (nx := q + 1) (sb := sb) FZ.out (by omega) (by omega) FB FM FK FA
    obtain ⟨W9, hW9⟩ : ∃ W9, roomW w1 (w.heap.size + 1 + 1) nm (q + 1) (.slice oo n oc) (.slice po z pc) sb = W9 := ⟨_, rfl⟩
    rw [hW9] at NR bl k0 k1 k2 k3 k4
    unfold roomW at hW9
    rw [hW9]
    have lz : w.heap.size + 1 + 1 < W9.heap.size := by have := bl.size; rw [← hW9]; simp; omega
    exact bodyPost_ret (v := roomV nm (q + 1) (.slice oo n oc) (.slice po z pc) sb) (by simp [results, Tryz.results18, go_sem, k0, k1, k2, k3, k4, World.cell?_alloc_past, lz]) rfl ⟨⟨_, rfl, NR.alloc _⟩, bl.alloc bl.size _⟩
  · skip
    rw [show aftS 4 sb t = t by simp [aftS]]
    rw [show aftN 4 n = n by simp [aftN]]
    rw [show aftU 4 n k u U = U by simp [aftU]]
    rw [show aftU 4 n k nk N = N by simp [aftU]]
    rw [show aftR 4 n k m R = R by simp [aftR]]
    rw [show aftZ 4 z p f m = z by simp [aftZ]]
    rw [show aftKU 4 p f u m KU = KU by simp [aftKU]]
    rw [show aftKR 4 p f m KR = KR by simp [aftKR]]
    go_enter Tryz.func18, Tryz.ntmps18
    go_wp2_with (go_at_call 17; rw [← HW3.out]; go_fit cC3; rintro e w1 ⟨⟨v1, rfl, vm1, vk1, rfl, OM, OK, AP⟩, b1⟩; obtain ⟨oo, oc, rfl⟩ := OwnL.shape OM; obtain ⟨po, pc, rfl⟩ := OwnL.shape OK; have eA := BA.out w1 b1; have eE := BE.out w1 b1; have eZ := BZ.out w1 b1; obtain ⟨a0, a1, a2, a3, a4⟩ := rm_cells eA; obtain ⟨n0, n1, n2, n3, n4, n5, n6, n7, n8⟩ := nine_at eE; obtain ⟨z0, z1, z2, z3, z4⟩ := rm_cells eZ; have zf : ∀ j, w1.frozen? ⟨w.heap.size + 1 + 1, j, none⟩ = false := (fun j => (by simp [World.frozen?, eZ])); have l1 := b1.size; have lA : w.heap.size < w1.heap.size := (by omega); have lE : w.heap.size + 1 < w1.heap.size := (by omega); have lZ : w.heap.size + 1 + 1 < w1.heap.size := (by omega); have HZ1 : Hid (w1.heap[w.heap.size + 1 + 1]? = _) := eZ; clear eA eE eZ)
    have FZ := HZ1
    have FB := b3.trans (b1.mono b3.size)
    have FM := OM
    have FK := OK
    have FA := AP
    obtain ⟨NR, bl, k0, k1, k2, k3, k4⟩ := fin_room (nm := nm) (nx := q + 1) (sb := t) FZ.out (by omega) (by omega) FB FM FK FA
    obtain ⟨W9, hW9⟩ : ∃ W9, roomW w1 (w.heap.size + 1 + 1) nm (q + 1) (.slice oo n oc) (.slice po z pc) t = W9 := ⟨_, rfl⟩
    rw [hW9] at NR bl k0 k1 k2 k3 k4
    unfold roomW at hW9
    rw [hW9]
    have lz : w.heap.size + 1 + 1 < W9.heap.size := by have := bl.size; rw [← hW9]; simp; omega
    exact bodyPost_ret (v := roomV nm (q + 1) (.slice oo n oc) (.slice po z pc) t) (by simp [results, Tryz.results18, go_sem, k0, k1, k2, k3, k4, World.cell?_alloc_past, lz]) rfl ⟨⟨_, rfl, NR.alloc _⟩, bl.alloc bl.size _⟩
  · skip
    rw [show aftS 5 sb t = sb by simp [aftS]]
    rw [show aftN 5 n = n by simp [aftN]]
    rw [show aftU 5 n k u U = U by simp [aftU]]
    rw [show aftU 5 n k nk N = N by simp [aftU]]
    rw [show aftR 5 n k m R = putAt k m R by simp [aftR]]
    rw [show aftZ 5 z p f m = z by simp [aftZ]]
    rw [show aftKU 5 p f u m KU = KU by simp [aftKU]]
    rw [show aftKR 5 p f m KR = KR by simp [aftKR]]
    obtain ⟨hkn, hof⟩ := hof (by decide)
    have cO := fun (W : World) (bb : Below w.heap.size w W) => l6Of_any nm sb u nx (.slice mo n mc) (.slice ko z kc) n U N R W (hm.below bb)
    rw [hof] at cO
    have hk0 : (0 : Int) ≤ (k : Int) := by omega
    have hkI : (k : Int) < (n : Int) := by omega
    have hmr : mc ≤ 9223372036854775807 ∧ n ≤ mc := by
      obtain ⟨o9, c9, e9, h9, h8, -⟩ := hm
      injection e9 with e1 e2 e3
      subst e3
      exact ⟨h8, h9⟩
    clear hof
    go_enter Tryz.func18, Tryz.ntmps18
    go_wp2_with first
      | (go_at_call 41; rw [← HW4.out]; go_fit cO4; rintro e w5 ⟨rfl, b5⟩; have l5 := b5.size; have BW5 : Below W3.heap.size W3 w5 := b1.trans ((b4.trans (b5.mono b4.size)).mono b1.size); obtain ⟨e0, e1, e2, e3, e4, e5, e6, e7, e8⟩ := nine_at (BE.out w5 BW5); obtain ⟨d0, d1, d2, d3, d4⟩ := rm_cells (BA.out w5 BW5); have eC := (b5.block w1.heap.size (by omega)).trans HC4.out; have eZ := (b5.block (w.heap.size + 1 + 1) (by omega)).trans ((b4.block (w.heap.size + 1 + 1) (by omega)).trans HZ1.out); have HZ5 : Hid (w5.heap[w.heap.size + 1 + 1]? = _) := eZ; have HC5 : Hid (w5.heap[w1.heap.size]? = _) := eC; obtain ⟨r0, r1, r2, r3, r4⟩ := rm_cells eC; obtain ⟨t0, t1, t2, t3, t4⟩ := rm_cells eZ; have f1 : ∀ i, w5.frozen? ⟨w1.heap.size, i, none⟩ = false := (fun i => (by simp [World.frozen?, eC])); have f2 : ∀ i, w5.frozen? ⟨w.heap.size + 1 + 1, i, none⟩ = false := (fun i => (by simp [World.frozen?, eZ])); clear eC eZ; have G5 := b5.block g (by omega); have eg := (G5.trans (b4.block g (by omega))).trans hgg; have g5 : w5.cell? ⟨g, k * 3 + 2, none⟩ = some (.int .i64 (R k)) := (by rw [cell_of w5 _ _ cur _ eg]; exact hcur k hkn 2 (by omega)); have g6 : w5.frozen? ⟨g, k * 3 + 2, none⟩ = false := (by simp [World.frozen?, eg]); have hcl : n ≤ oc := hnc; have hcM : oc ≤ 9223372036854775807 := hocM; clear eg G5)
      | (go_at_call 17; rw [← HW3.out]; go_fit cC3; rintro e w1 ⟨⟨v1, rfl, vm1, vk1, rfl, OM, OK, AP⟩, b1⟩; obtain ⟨oo, oc, rfl⟩ := OwnL.shape OM; obtain ⟨po, pc, rfl⟩ := OwnL.shape OK; have eA := BA.out w1 b1; have eE := BE.out w1 b1; have eZ := BZ.out w1 b1; obtain ⟨a0, a1, a2, a3, a4⟩ := rm_cells eA; obtain ⟨n0, n1, n2, n3, n4, n5, n6, n7, n8⟩ := nine_at eE; obtain ⟨z0, z1, z2, z3, z4⟩ := rm_cells eZ; have zf : ∀ j, w1.frozen? ⟨w.heap.size + 1 + 1, j, none⟩ = false := (fun j => (by simp [World.frozen?, eZ])); have l1 := b1.size; have lA : w.heap.size < w1.heap.size := (by omega); have lE : w.heap.size + 1 < w1.heap.size := (by omega); have lZ : w.heap.size + 1 + 1 < w1.heap.size := (by omega); have HZ1 : Hid (w1.heap[w.heap.size + 1 + 1]? = _) := eZ; clear eA eE eZ; obtain ⟨W4, hW4⟩ : ∃ W4, W4 = (w1.alloc (.cells #[.string nm, .int .i64 (q + 1), .slice oo n oc, .slice po z pc, .string sb] 33)) := ⟨_, rfl⟩; have b4 : Below w1.heap.size w1 W4 := (by rw [hW4]; exact (Below.refl _ w1).alloc (Nat.le_refl _) _); have s4 : W4.heap.size = w1.heap.size + 1 := (by rw [hW4]; simp); have hC4 : W4.heap[w1.heap.size]? = some (.cells #[.string nm, .int .i64 (q + 1), .slice oo n oc, .slice po z pc, .string sb] 33 (0, 0)) := (by rw [hW4]; exact World.alloc_heap_new w1 _); have HW4 : Hid (W4 = (w1.alloc (.cells #[.string nm, .int .i64 (q + 1), .slice oo n oc, .slice po z pc, .string sb] 33))) := hW4; have HC4 : Hid (W4.heap[w1.heap.size]? = some (.cells #[.string nm, .int .i64 (q + 1), .slice oo n oc, .slice po z pc, .string sb] 33 (0, 0))) := hC4; clear hW4 hC4; have cO4 := cO W4 (b3.trans ((b1.trans (b4.mono b1.size)).mono b3.size)); obtain ⟨g, hgo⟩ : ∃ g, oo = some ⟨g, 0, none⟩ := (by obtain ⟨g, c9, e9, -⟩ := World.ownsRow.form OM (by omega); injection e9 with e1; exact ⟨g, e1⟩); subst hgo; obtain ⟨cur, hbg, hgg, hnc, hocM, hcs, hcur⟩ := OwnL.row OM (memC_len _ _ _); have hgl := (OwnL.lt OM g rfl).2)
    have ML := OwnL.lt OM
    have KL := OwnL.lt OK
    have FZ : Hid ((w5.setCell ⟨g, k * 3 + 2, none⟩ (.int .i64 m)).heap[w.heap.size + 1 + 1]? = _) := (Below.heap_setCell _ _ _ _ (by simp; omega)).trans HZ5.out
    have FB : Below w.heap.size w (w5.setCell ⟨g, k * 3 + 2, none⟩ (.int .i64 m)) := ((b3.trans (b1.mono b3.size)).trans ((b4.trans (b5.mono b4.size)).mono (by omega))).setCell (p := ⟨g, k * 3 + 2, none⟩) (by show w.heap.size ≤ g; omega) _
    have FM : OwnM (w5.setCell ⟨g, k * 3 + 2, none⟩ (.int .i64 m)) W3.heap.size (.slice (some ⟨g, 0, none⟩) n oc) n U N (putAt k m R) := own_role (OwnL.below OM (b4.trans (b5.mono b4.size))) hkn
    have FK : OwnK (w5.setCell ⟨g, k * 3 + 2, none⟩ (.int .i64 m)) W3.heap.size (.slice po z pc) z KU KR := OwnL.set_away (OwnL.below OK (b4.trans (b5.mono b4.size))) (fun e => AP g rfl e)
    have FA := AP
    obtain ⟨NR, bl, k0, k1, k2, k3, k4⟩ := fin_room (nm := nm) (nx := q + 1) (sb := sb) FZ.out (by omega) (by omega) FB FM FK FA
    obtain ⟨W9, hW9⟩ : ∃ W9, roomW (w5.setCell ⟨g, k * 3 + 2, none⟩ (.int .i64 m)) (w.heap.size + 1 + 1) nm (q + 1) (.slice (some ⟨g, 0, none⟩) n oc) (.slice po z pc) sb = W9 := ⟨_, rfl⟩
    rw [hW9] at NR bl k0 k1 k2 k3 k4
    unfold roomW at hW9
    rw [hW9]
    exact bodyPost_ret (v := roomV nm (q + 1) (.slice (some ⟨g, 0, none⟩) n oc) (.slice po z pc) sb) (by simp [results, Tryz.results18, go_sem, k0, k1, k2, k3, k4]) rfl ⟨⟨_, rfl, NR⟩, bl⟩

  · skip
    rw [show aftS 6 sb t = sb by simp [aftS]]
    rw [show aftN 6 n = n by simp [aftN]]
    rw [show aftU 6 n k u U = U by simp [aftU]]
    rw [show aftU 6 n k nk N = N by simp [aftU]]
    rw [show aftR 6 n k m R = R by simp [aftR]]
    rw [show aftZ 6 z p f m = rankN z p f (decide (m = 1)) by simp [aftZ]]
    rw [show aftKU 6 p f u m KU = rankU p f (decide (m = 1)) u KU by simp [aftKU]]
    rw [show aftKR 6 p f m KR = rankR p f (decide (m = 1)) m KR by simp [aftKR]]
    have cR := fun (W : World) (bb : Below w.heap.size w W) => l6Ranked_any (.slice ko z kc) z KU KR u m p f W (hk.below bb) (by omega) hp hlt hge hne hf
    obtain ⟨ZZ, hZZ⟩ : ∃ ZZ, rankN z p f (decide (m = 1)) = ZZ := ⟨_, rfl⟩
    obtain ⟨KU2, hKU2⟩ : ∃ KU2, rankU p f (decide (m = 1)) u KU = KU2 := ⟨_, rfl⟩
    obtain ⟨KR2, hKR2⟩ : ∃ KR2, rankR p f (decide (m = 1)) m KR = KR2 := ⟨_, rfl⟩
    rw [hZZ, hKU2, hKR2]
    simp only [hZZ, hKU2, hKR2] at cR
    clear hZZ hKU2 hKR2 hlt hge hne hf hk hm
    go_enter Tryz.func18, Tryz.ntmps18
    go_wp2_with first
      | (go_at_call 42; rw [← HW4.out]; go_fit cR4; rintro e w5 ⟨⟨v5, rfl, OR⟩, b5⟩; obtain ⟨o5, c5, rfl⟩ := OwnL.shape OR; have l5 := b5.size; have BW5 : Below W3.heap.size W3 w5 := b1.trans ((b4.trans (b5.mono b4.size)).mono b1.size); obtain ⟨e0, e1, e2, e3, e4, e5, e6, e7, e8⟩ := nine_at (BE.out w5 BW5); obtain ⟨d0, d1, d2, d3, d4⟩ := rm_cells (BA.out w5 BW5); have eC := (b5.block w1.heap.size (by omega)).trans HC4.out; have eZ := (b5.block (w.heap.size + 1 + 1) (by omega)).trans ((b4.block (w.heap.size + 1 + 1) (by omega)).trans HZ1.out); have HZ5 : Hid (w5.heap[w.heap.size + 1 + 1]? = _) := eZ; have HC5 : Hid (w5.heap[w1.heap.size]? = _) := eC; obtain ⟨r0, r1, r2, r3, r4⟩ := rm_cells eC; obtain ⟨t0, t1, t2, t3, t4⟩ := rm_cells eZ; have f1 : ∀ i, w5.frozen? ⟨w1.heap.size, i, none⟩ = false := (fun i => (by simp [World.frozen?, eC])); have f2 : ∀ i, w5.frozen? ⟨w.heap.size + 1 + 1, i, none⟩ = false := (fun i => (by simp [World.frozen?, eZ])); clear eC eZ)
      | (go_at_call 17; rw [← HW3.out]; go_fit cC3; rintro e w1 ⟨⟨v1, rfl, vm1, vk1, rfl, OM, OK, AP⟩, b1⟩; obtain ⟨oo, oc, rfl⟩ := OwnL.shape OM; obtain ⟨po, pc, rfl⟩ := OwnL.shape OK; have eA := BA.out w1 b1; have eE := BE.out w1 b1; have eZ := BZ.out w1 b1; obtain ⟨a0, a1, a2, a3, a4⟩ := rm_cells eA; obtain ⟨n0, n1, n2, n3, n4, n5, n6, n7, n8⟩ := nine_at eE; obtain ⟨z0, z1, z2, z3, z4⟩ := rm_cells eZ; have zf : ∀ j, w1.frozen? ⟨w.heap.size + 1 + 1, j, none⟩ = false := (fun j => (by simp [World.frozen?, eZ])); have l1 := b1.size; have lA : w.heap.size < w1.heap.size := (by omega); have lE : w.heap.size + 1 < w1.heap.size := (by omega); have lZ : w.heap.size + 1 + 1 < w1.heap.size := (by omega); have HZ1 : Hid (w1.heap[w.heap.size + 1 + 1]? = _) := eZ; clear eA eE eZ; obtain ⟨W4, hW4⟩ : ∃ W4, W4 = (w1.alloc (.cells #[.string nm, .int .i64 (q + 1), .slice oo n oc, .slice po z pc, .string sb] 33)) := ⟨_, rfl⟩; have b4 : Below w1.heap.size w1 W4 := (by rw [hW4]; exact (Below.refl _ w1).alloc (Nat.le_refl _) _); have s4 : W4.heap.size = w1.heap.size + 1 := (by rw [hW4]; simp); have hC4 : W4.heap[w1.heap.size]? = some (.cells #[.string nm, .int .i64 (q + 1), .slice oo n oc, .slice po z pc, .string sb] 33 (0, 0)) := (by rw [hW4]; exact World.alloc_heap_new w1 _); have HW4 : Hid (W4 = (w1.alloc (.cells #[.string nm, .int .i64 (q + 1), .slice oo n oc, .slice po z pc, .string sb] 33))) := hW4; have HC4 : Hid (W4.heap[w1.heap.size]? = some (.cells #[.string nm, .int .i64 (q + 1), .slice oo n oc, .slice po z pc, .string sb] 33 (0, 0))) := hC4; clear hW4 hC4; have cR4 := cR W4 (b3.trans ((b1.trans (b4.mono b1.size)).mono b3.size)))
    have FZ : Hid ((w5.setCell ⟨w1.heap.size, 3, none⟩ (.slice o5 ZZ c5)).heap[w.heap.size + 1 + 1]? = _) := (Below.heap_setCell _ _ _ _ (by simp; omega)).trans HZ5.out
    have FB : Below w.heap.size w (w5.setCell ⟨w1.heap.size, 3, none⟩ (.slice o5 ZZ c5)) := ((b3.trans (b1.mono b3.size)).trans ((b4.trans (b5.mono b4.size)).mono (by omega))).setCell (p := ⟨w1.heap.size, 3, none⟩) (by show w.heap.size ≤ w1.heap.size; omega) _
    have ML := OwnL.lt OM
    have RL := OwnL.lt OR
    have FM : OwnM (w5.setCell ⟨w1.heap.size, 3, none⟩ (.slice o5 ZZ c5)) W3.heap.size (.slice oo n oc) n U N R := OwnL.set_away (OwnL.below OM (b4.trans (b5.mono b4.size))) (fun e => by have h2 := (ML _ e).2; simp at h2)
    have FK : OwnK (w5.setCell ⟨w1.heap.size, 3, none⟩ (.slice o5 ZZ c5)) W3.heap.size (.slice o5 ZZ c5) ZZ KU2 KR2 := OwnL.mono (OwnL.set OR ⟨w1.heap.size, 3, none⟩ _ (by show w1.heap.size < W4.heap.size; omega)) (by omega)
    have FA : Apart (.slice oo n oc) (.slice o5 ZZ c5) := fun q2 g1 g2 => by
      have h1 := (ML _ g1).2
      have h2 := (RL _ g2).1
      omega
    obtain ⟨NR, bl, k0, k1, k2, k3, k4⟩ := fin_room (nm := nm) (nx := q + 1) (sb := sb) FZ.out (by omega) (by omega) FB FM FK FA
    obtain ⟨W9, hW9⟩ : ∃ W9, roomW (w5.setCell ⟨w1.heap.size, 3, none⟩ (.slice o5 ZZ c5)) (w.heap.size + 1 + 1) nm (q + 1) (.slice oo n oc) (.slice o5 ZZ c5) sb = W9 := ⟨_, rfl⟩
    rw [hW9] at NR bl k0 k1 k2 k3 k4
    unfold roomW at hW9
    rw [hW9]
    exact bodyPost_ret (v := roomV nm (q + 1) (.slice oo n oc) (.slice o5 ZZ c5) sb) (by simp [results, Tryz.results18, go_sem, k0, k1, k2, k3, k4]) rfl ⟨⟨_, rfl, NR⟩, bl⟩
end Go.Proofs.YtgjlgddglgffmaaGreatDoor.Hub
