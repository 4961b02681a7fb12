/-
  impl's rankPlace and rankOf, among ranks that ascend.
-/
import Derived.Test.YtglbjibilllopaaDoorRoomImplB
namespace Go.Proofs.YtglbjibilllopaaDoor.Hub
open Go.RowKit
set_option linter.unusedVariables false

theorem cmp_less : ∀ (a b : List UInt8), decide (Lib.compareBytes a b < 0) = Op.bytesLess a b
  | [], [] => rfl
  | [], y :: ys => rfl
  | x :: xs, [] => rfl
  | x :: xs, y :: ys => by
    have ih := cmp_less xs ys
    rw [Lib.compareBytes, Op.bytesLess]
    rcases Nat.lt_trichotomy x.toNat y.toNat with h | h | h
    · have h1 : x < y := UInt8.lt_iff_toNat_lt.2 h
      rw [if_pos h1, decide_eq_true h1]; rfl
    · have h1 : x = y := UInt8.toNat_inj.1 h
      subst h1
      have h2 : ¬ x < x := fun c => by have := UInt8.lt_iff_toNat_lt.1 c; omega
      rw [if_neg h2, if_neg h2, ih, decide_eq_false h2]; simp
    · have h1 : y < x := UInt8.lt_iff_toNat_lt.2 h
      have h2 : ¬ x < y := fun c => by have := UInt8.lt_iff_toNat_lt.1 c; omega
      have h3 : (x == y) = false := beq_eq_false_iff_ne.2 (fun c => by subst c; omega)
      rw [if_neg h2, if_pos h1, decide_eq_false h2, h3]; rfl
theorem cmp_same : ∀ (a b : List UInt8), decide (Lib.compareBytes a b = 0) = (a == b)
  | [], [] => rfl
  | [], y :: ys => rfl
  | x :: xs, [] => rfl
  | x :: xs, y :: ys => by
    have ih := cmp_same xs ys
    rw [Lib.compareBytes]
    rcases Nat.lt_trichotomy x.toNat y.toNat with h | h | h
    · have h1 : x < y := UInt8.lt_iff_toNat_lt.2 h
      have h3 : x ≠ y := fun c => by subst c; omega
      rw [if_pos h1]; simp [h3]
    · have h1 : x = y := UInt8.toNat_inj.1 h
      subst h1
      have h2 : ¬ x < x := fun c => by have := UInt8.lt_iff_toNat_lt.1 c; omega
      rw [if_neg h2, if_neg h2, ih]; simp
    · have h1 : y < x := UInt8.lt_iff_toNat_lt.2 h
      have h2 : ¬ x < y := fun c => by have := UInt8.lt_iff_toNat_lt.1 c; omega
      have h3 : x ≠ y := fun c => by subst c; omega
      rw [if_neg h2, if_pos h1]; simp [h3]
theorem less_trans : ∀ (a b c : List UInt8), Op.bytesLess a b = true → Op.bytesLess b c = true → Op.bytesLess a c = true
  | [], _, [], _, h => by cases ‹List UInt8› <;> simp [Op.bytesLess] at h
  | [], _, _ :: _, _, _ => rfl
  | x :: xs, [], _, h, _ => by simp [Op.bytesLess] at h
  | x :: xs, y :: ys, [], _, h => by simp [Op.bytesLess] at h
  | x :: xs, y :: ys, z :: zs, h, g => by
    have ih := less_trans xs ys zs
    rw [Op.bytesLess] at h g ⊢
    simp only [Bool.or_eq_true, Bool.and_eq_true, decide_eq_true_eq, beq_iff_eq, UInt8.lt_iff_toNat_lt] at h g ⊢
    rcases h with h | ⟨h, h'⟩
    · rcases g with g | ⟨g, g'⟩
      · exact .inl (by omega)
      · subst g; exact .inl h
    · subst h
      rcases g with g | ⟨g, g'⟩
      · exact .inl g
      · exact .inr ⟨g, ih h' g'⟩
/-- Each is less than all behind it. -/
def Asc (n : Nat) (U : Nat → ByteArray) : Prop := ∀ i j, i < j → j < n → Op.bytesLess (U i).toList (U j).toList = true
theorem asc_of (n : Nat) (U : Nat → ByteArray) (R : Nat → Int) (h : ranksT n U R = true) : Asc n U := by
  unfold ranksT at h
  rw [Bool.and_eq_true] at h
  have h1 := allTo_at _ n h.1
  intro i j hij hj
  induction j with
  | zero => omega
  | succ j ih =>
    have hs : Op.bytesLess (U j).toList (U (j + 1)).toList = true := by
      have h2 := h1 (j + 1) hj
      unfold rankOne at h2
      simp only [Bool.and_eq_true] at h2
      have h3 := h2.2.2.2
      rw [decide_eq_false (by omega), Bool.false_or] at h3
      exact h3
    by_cases e : i = j
    · subst e; exact hs
    · exact less_trans _ _ _ (ih (by omega) (by omega)) hs

/-- How many are less than the user. -/
def lessTo (U : Nat → ByteArray) (u : ByteArray) : Nat → Nat
  | 0 => 0
  | k + 1 => lessTo U u k + if Op.bytesLess (U k).toList u.toList then 1 else 0
theorem lessTo_all (U : Nat → ByteArray) (u : ByteArray) : ∀ k, (∀ t, t < k → Op.bytesLess (U t).toList u.toList = true) → lessTo U u k = k
  | 0, _ => rfl
  | k + 1, h => by rw [lessTo, lessTo_all U u k (fun t ht => h t (by omega)), if_pos (h k (by omega))]
theorem lessTo_at (U : Nat → ByteArray) (u : ByteArray) (i : Nat) (h1 : ∀ t, t < i → Op.bytesLess (U t).toList u.toList = true) : ∀ n, i ≤ n → (∀ t, i ≤ t → t < n → Op.bytesLess (U t).toList u.toList = false) → lessTo U u n = i
  | 0, h, _ => by obtain rfl : i = 0 := by omega
                  rfl
  | n + 1, h, h2 => by
    by_cases e : i = n + 1
    · subst e; exact lessTo_all U u _ h1
    · rw [lessTo, lessTo_at U u i h1 n (by omega) (fun t h3 h4 => h2 t h3 (by omega)), h2 n (by omega) (by omega)]; rfl
/-- Where the user's rank stands, or would. -/
def foundT (n : Nat) (U : Nat → ByteArray) (u : ByteArray) : Bool := decide (lessTo U u n < n) && ((U (lessTo U u n)).toList == u.toList)
theorem rank_none (n : Nat) (U : Nat → ByteArray) (R : Nat → Int) (u : ByteArray) : ∀ f k, k + f = n → (∀ t, k ≤ t → t < n → ((U t).toList == u.toList) = false) → rankFrom U R u f k = 1
  | 0, _, _, _ => rfl
  | f + 1, k, hk, h => by rw [rankFrom, h k (by omega) (by omega)]; exact rank_none n U R u f (k + 1) (by omega) (fun t h1 h2 => h t (by omega) h2)
theorem rank_at (n : Nat) (U : Nat → ByteArray) (R : Nat → Int) (u : ByteArray) (i : Nat) (hi : i < n) (he : ((U i).toList == u.toList) = true) (hb : ∀ t, t < i → ((U t).toList == u.toList) = false) : ∀ f k, k + f = n → k ≤ i → rankFrom U R u f k = R i
  | 0, k, h, g => absurd hi (by omega)
  | f + 1, k, h, g => by
    rw [rankFrom]
    by_cases e : k = i
    · subst e; rw [if_pos he]
    · rw [hb k (by omega)]; exact rank_at n U R u i hi he hb f (k + 1) (by omega) (by omega)
theorem less_ne (a b : List UInt8) (h : Op.bytesLess a b = true) : (a == b) = false := by
  rw [beq_eq_false_iff_ne]; intro e; subst e; rw [less_irr] at h; cases h
theorem rank_found (n : Nat) (U : Nat → ByteArray) (R : Nat → Int) (u : ByteArray) (hA : Asc n U) (i : Nat) (hin : i ≤ n) (h1 : ∀ t, t < i → Op.bytesLess (U t).toList u.toList = true) (h2 : ∀ t, i ≤ t → t < n → Op.bytesLess (U t).toList u.toList = false) :
    rankI n U R u = if foundT n U u then R (lessTo U u n) else 1 := by
  have e := lessTo_at U u i h1 n hin h2
  unfold foundT rankI
  rw [e]
  by_cases hi : i < n
  · rw [decide_eq_true hi, Bool.true_and]
    cases he : ((U i).toList == u.toList)
    · rw [if_neg (by decide)]
      refine rank_none n U R u n 0 (by omega) (fun t _ ht => ?_)
      rcases Nat.lt_trichotomy t i with c | c | c
      · exact less_ne _ _ (h1 t c)
      · subst c; exact he
      · have l1 := hA i t c ht
        have l2 := h2 i (Nat.le_refl _) hi
        rw [beq_eq_false_iff_ne]
        intro q
        rw [← q] at l2
        rw [l2] at l1
        cases l1
    · rw [if_pos rfl]
      exact rank_at n U R u i hi he (fun t ht => less_ne _ _ (h1 t ht)) n 0 (by omega) (by omega)
  · rw [decide_eq_false hi, Bool.false_and, if_neg (by decide)]
    exact rank_none n U R u n 0 (by omega) (fun t _ ht => less_ne _ _ (h1 t (by omega)))

set_option maxRecDepth 100000 in
theorem compare_any (a b : ByteArray) (w : World) :
    Calls Tryd.prog 91 #[.string a, .string b] w fun e w' => e = .returned (.int .i64 (Lib.compareBytes a.data.toList b.data.toList)) ∧ w' = w := by
  have inner : ∀ w, Calls Tryd.prog 98 #[.string a, .string b] w fun e w' => e = .returned (.int .i64 (Lib.compareBytes a.data.toList b.data.toList)) ∧ w' = w := fun w => by
    go_enter Tryd.func98, Tryd.ntmps98
    go_wp2_with fail
    rw [run_callFunc_extern Tryd.func103 (by kernel_rfl) (by kernel_rfl) (by kernel_rfl) (e := Extern.BytealgCompare.compare) (by kernel_rfl), Lib.run_compareString]
    simp only [Result.andThen]
    rw [Oper.upon_value]
    go_wp2_with fail
    go_ret
    exact ⟨rfl, rfl⟩
  go_enter Tryd.func91, Tryd.ntmps91
  go_wp2_with fail
  refine (inner _).mono ?_
  rintro e w' ⟨rfl, rfl⟩
  go_wp2_with fail
  go_ret
  exact ⟨rfl, rfl⟩

theorem rankPlace_one (a u : ByteArray) (r : Int) (W : World) :
    Calls Tryd.prog 90 #[.agg #[.string a, .int .i64 r], .string u] W fun e w' => e = .returned (.int .i64 (Lib.compareBytes a.data.toList u.data.toList)) ∧ Below W.heap.size W w' := by
  have b0 := below_alloc W (.cells #[.string a, .int .i64 r] 58)
  go_enter Tryd.func90, Tryd.ntmps90
  go_wp2_with fail
  refine (compare_any a u _).mono ?_
  rintro e w1 ⟨rfl, rfl⟩
  go_wp2_with fail
  go_ret
  exact ⟨rfl, b0⟩

set_option maxRecDepth 100000 in
set_option maxHeartbeats 4000000 in
theorem search_any (u : ByteArray) (o : Option Addr) (cap n : Nat) (U : Nat → ByteArray) (R : Nat → Int) (w : World) (hm : RankAt w (.slice o n cap) n U R) (hA : Asc n U) (h6 : n ≤ 6) :
    Calls Tryd.prog 89 #[.slice o n cap, .string u, .func (.func 90) #[] #[]] w fun e w' => (∃ i : Nat, e = .returned (.tuple #[.int .i64 i, .bool (foundT n U u)]) ∧ i = lessTo U u n ∧ i ≤ n ∧ (∀ t, t < i → Op.bytesLess (U t).toList u.toList = true) ∧ (∀ t, i ≤ t → t < n → Op.bytesLess (U t).toList u.toList = false)) ∧ Below w.heap.size w w' := by
  have eg : ∀ args w, (callFunc 90 args).run Tryd.prog w = .ok (.enter 90 args) w := enters_of Tryd.func90 (by kernel_rfl) rfl
  obtain ⟨o', cap', hv, h1, h2', hc⟩ := hm
  injection hv with hv1 hv2 hv3
  subst hv1 hv3
  have h2 : cap ≤ 9223372036854775807 := h2'
  clear h2' hv2
  have HC : Hid (∀ j, j < n → ∃ b f : Nat, o = some ⟨b, f, none⟩ ∧ b < w.heap.size ∧ w.cell? ⟨b, f + j * 2, none⟩ = some (.string (U j)) ∧ w.cell? ⟨b, f + j * 2 + 1, none⟩ = some (.int .i64 (R j))) := hc
  clear hc
  have HA : Hid (Asc n U) := hA
  clear hA
  have HM : Hid (∀ a b, a ≤ b → b < n → Op.bytesLess (U b).toList u.toList = true → Op.bytesLess (U a).toList u.toList = true) := fun a b hab hb h => by
    by_cases e : a = b
    · subst e; exact h
    · exact less_trans _ _ _ (HA.out a b (by omega) hb) h
  go_enter Tryd.func89, Tryd.ntmps89
  go_wp2_with fail
  go_loopw [9, 10] (fun x y wr => ∃ lo hi : Nat, x = .int .i64 lo ∧ y = .int .i64 hi ∧ lo ≤ hi ∧ hi ≤ n ∧ Below w.heap.size w wr ∧ Hid ((∀ t, t < lo → Op.bytesLess (U t).toList u.toList = true) ∧ (∀ t, hi ≤ t → t < n → Op.bytesLess (U t).toList u.toList = false))) (fun x y _ => (intOf y).toNat - (intOf x).toNat)
  case atStart => exact ⟨0, n, rfl, rfl, Nat.zero_le _, Nat.le_refl _, Below.refl _ _, (⟨fun t ht => absurd ht (Nat.not_lt_zero _), fun t h1 h2 => by omega⟩ : (∀ t, t < 0 → Op.bytesLess (U t).toList u.toList = true) ∧ (∀ t, n ≤ t → t < n → Op.bytesLess (U t).toList u.toList = false))⟩
  case round =>
    obtain ⟨lo, hi, rfl, rfl, hlh, hin, bw, I⟩ := hrel
    by_cases hlt : lo < hi
    · obtain ⟨m, hmd⟩ : ∃ m, m = (lo + hi) / 2 := ⟨_, rfl⟩
      obtain ⟨b, f, ho, hb, c0, c1⟩ := HC.out ((lo + hi) / 2) (by omega)
      subst ho
      have d0 := (bw.cell (p := ⟨b, f + (lo + hi) / 2 * 2, none⟩) hb).trans c0
      have d1 := (bw.cell (p := ⟨b, f + (lo + hi) / 2 * 2 + 1, none⟩) hb).trans c1
      have hl1 : (lo : Int) < (hi : Int) := by omega
      have hcmp := rankPlace_one (U ((lo + hi) / 2)) u (R ((lo + hi) / 2)) wr
      have hle := cmp_less (U ((lo + hi) / 2)).data.toList u.data.toList
      rw [← ByteArray.toList_eq, ← ByteArray.toList_eq] at hle
      rw [← ByteArray.toList_eq, ← ByteArray.toList_eq] at hcmp
      obtain ⟨cv, hcv⟩ : ∃ cv, Lib.compareBytes (U ((lo + hi) / 2)).toList u.toList = cv := ⟨_, rfl⟩
      rw [hcv] at hle hcmp
      clear hcv c0 c1
      by_cases hneg : cv < 0
      · rw [decide_eq_true hneg] at hle
        have I2 : Hid ((∀ t, t < (lo + hi) / 2 + 1 → Op.bytesLess (U t).toList u.toList = true) ∧ (∀ t, hi ≤ t → t < n → Op.bytesLess (U t).toList u.toList = false)) := ⟨fun t ht => HM.out t ((lo + hi) / 2) (by omega) (by omega) hle.symm, I.out.2⟩
        clear hle I
        go_wp2_with (go_at_fn 90; refine hcmp.mono ?_; rintro e w1 ⟨rfl, b1⟩)
        go_round
        case rel => exact ⟨(lo + hi) / 2 + 1, hi, by rw [show ((lo : Int) + (hi : Int)) / 2 + 1 = (((lo + hi) / 2 + 1 : Nat) : Int) by omega], rfl, by omega, hin, bw.trans (b1.mono bw.size), I2⟩
        case measure => simp [intOf]; omega
      · rw [decide_eq_false hneg] at hle
        have I2 : Hid ((∀ t, t < lo → Op.bytesLess (U t).toList u.toList = true) ∧ (∀ t, (lo + hi) / 2 ≤ t → t < n → Op.bytesLess (U t).toList u.toList = false)) := ⟨I.out.1, fun t ht htn => by
          cases hq : Op.bytesLess (U t).toList u.toList
          · rfl
          · have := HM.out ((lo + hi) / 2) t ht htn hq
            rw [← hle] at this
            cases this⟩
        clear hle I
        go_wp2_with (go_at_fn 90; refine hcmp.mono ?_; rintro e w1 ⟨rfl, b1⟩)
        go_round
        case rel => exact ⟨lo, (lo + hi) / 2, rfl, by rw [show ((lo : Int) + (hi : Int)) / 2 = (((lo + hi) / 2 : Nat) : Int) by omega], by omega, by omega, bw.trans (b1.mono bw.size), I2⟩
        case measure => simp [intOf]; omega
    · obtain rfl : hi = lo := by omega
      have ecnt := lessTo_at U u hi I.out.1 n hin I.out.2
      have EC : Hid (lessTo U u n = hi) := ecnt
      by_cases hn : hi < n
      · obtain ⟨b, f, ho, hb, c0, c1⟩ := HC.out hi hn
        subst ho
        have d0 := (bw.cell (p := ⟨b, f + hi * 2, none⟩) hb).trans c0
        have d1 := (bw.cell (p := ⟨b, f + hi * 2 + 1, none⟩) hb).trans c1
        have i1 : (0 : Int) ≤ (hi : Int) := by omega
        have i2 : (hi : Int) < (n : Int) := by omega
        have hcmp := rankPlace_one (U hi) u (R hi) wr
        have hle := cmp_same (U hi).data.toList u.data.toList
        rw [← ByteArray.toList_eq, ← ByteArray.toList_eq] at hle
        rw [← ByteArray.toList_eq, ← ByteArray.toList_eq] at hcmp
        obtain ⟨cv, hcv⟩ : ∃ cv, Lib.compareBytes (U hi).toList u.toList = cv := ⟨_, rfl⟩
        rw [hcv] at hle hcmp
        have FT : Hid (foundT n U u = decide (cv = 0)) := (by unfold foundT; rw [ecnt, decide_eq_true hn, Bool.true_and, hle] : foundT n U u = decide (cv = 0))
        clear hcv c0 c1 hle ecnt
        by_cases hz : cv = 0
        · have hz2 : (cv == 0) = true := by rw [hz]; rfl
          go_wp2_with (go_at_fn 90; refine hcmp.mono ?_; rintro e w1 ⟨rfl, b1⟩)
          go_ret2
          exact ⟨⟨hi, by rw [FT.out, decide_eq_true hz]; rfl, EC.out.symm, hin, I.out.1, I.out.2⟩, bw.trans (b1.mono bw.size)⟩
        · have hz2 : (cv == 0) = false := beq_eq_false_iff_ne.2 hz
          go_wp2_with (go_at_fn 90; refine hcmp.mono ?_; rintro e w1 ⟨rfl, b1⟩)
          go_ret2
          exact ⟨⟨hi, by rw [FT.out, decide_eq_false hz]; rfl, EC.out.symm, hin, I.out.1, I.out.2⟩, bw.trans (b1.mono bw.size)⟩
      · have hn2 : ¬ ((hi : Int) < (n : Int)) := by omega
        have FT : Hid (foundT n U u = false) := (by unfold foundT; rw [ecnt, decide_eq_false hn, Bool.false_and] : foundT n U u = false)
        clear ecnt
        go_wp2_with fail
        go_ret2
        exact ⟨⟨hi, by rw [FT.out]; rfl, EC.out.symm, hin, I.out.1, I.out.2⟩, bw⟩

set_option maxRecDepth 100000 in
theorem rankPlace_any (u : ByteArray) (o : Option Addr) (cap n : Nat) (U : Nat → ByteArray) (R : Nat → Int) (w : World) (hm : RankAt w (.slice o n cap) n U R) (hA : Asc n U) (h6 : n ≤ 6) :
    Calls Tryd.prog 77 #[.slice o n cap, .string u] w fun e w' => (∃ i : Nat, e = .returned (.tuple #[.int .i64 i, .bool (foundT n U u)]) ∧ i = lessTo U u n ∧ i ≤ n ∧ (∀ t, t < i → Op.bytesLess (U t).toList u.toList = true) ∧ (∀ t, i ≤ t → t < n → Op.bytesLess (U t).toList u.toList = false)) ∧ Below w.heap.size w w' := by
  have con := search_any u o cap n U R w hm hA h6
  go_enter Tryd.func77, Tryd.ntmps77
  go_wp2_with fail
  refine con.mono ?_
  rintro e w1 ⟨⟨i, rfl, hx⟩, b1⟩
  have HX : Hid _ := hx
  clear hx
  go_wp2_with fail
  go_ret2
  exact ⟨⟨i, rfl, HX.out⟩, b1⟩

set_option maxRecDepth 100000 in
theorem rankOf_any (u : ByteArray) (vk : Value) (n : Nat) (U : Nat → ByteArray) (R : Nat → Int) (w : World) (hm : RankAt w vk n U R) (hA : Asc n U) (h6 : n ≤ 6) :
    Calls Tryd.prog 50 #[vk, .string u] w fun e w' => e = .returned (.int .i64 (rankI n U R u)) ∧ Below w.heap.size w w' := by
  have hm9 := hm
  obtain ⟨o, cap, rfl, h1, h2', hc⟩ := hm
  have h2 : cap ≤ 9223372036854775807 := h2'
  clear h2'
  have HC : Hid (∀ j, j < n → ∃ b f : Nat, o = some ⟨b, f, none⟩ ∧ b < w.heap.size ∧ w.cell? ⟨b, f + j * 2, none⟩ = some (.string (U j)) ∧ w.cell? ⟨b, f + j * 2 + 1, none⟩ = some (.int .i64 (R j))) := hc
  clear hc
  have con := rankPlace_any u o cap n U R w hm9 hA h6
  have RF := rank_found n U R u hA
  clear hm9
  obtain ⟨rk, hrk⟩ : ∃ rk, rankI n U R u = rk := ⟨_, rfl⟩
  rw [hrk] at RF ⊢
  clear hrk
  go_enter Tryd.func50, Tryd.ntmps50
  go_wp2_with fail
  refine con.mono ?_
  rintro e w1 ⟨⟨i, rfl, hi, hin, g1, g2⟩, b1⟩
  have hr := RF i hin g1 g2
  rw [← hi] at hr
  clear RF g1 g2 con
  have FD : Hid (foundT n U u = (decide (i < n) && ((U i).toList == u.toList))) := (by unfold foundT; rw [← hi] : foundT n U u = (decide (i < n) && ((U i).toList == u.toList)))
  cases hf : foundT n U u
  · rw [hf, if_neg (by decide)] at hr
    subst hr
    clear hi FD HC
    go_wp2_with fail
    go_ret
    exact ⟨rfl, b1⟩
  · rw [hf, if_pos rfl] at hr
    subst hr
    have hin2 : i < n := by
      have := FD.out
      rw [hf] at this
      by_cases c : i < n
      · exact c
      · rw [decide_eq_false c, Bool.false_and] at this; cases this
    obtain ⟨b, f, ho, hb, c0, c1⟩ := HC.out i hin2
    subst ho
    have d1 := (b1.cell (p := ⟨b, f + i * 2 + 1, none⟩) hb).trans c1
    have i1 : (0 : Int) ≤ (i : Int) := by omega
    have i2 : (i : Int) < (n : Int) := by omega
    clear hi FD HC c0 c1
    go_wp2_with fail
    go_ret
    exact ⟨rfl, b1⟩
end Go.Proofs.YtglbjibilllopaaDoor.Hub
