/-
  impl's countOwners, isUntouched, userPlace, nickPlace: at every list.
-/
import Derived.Test.YtglbjibilllopaaDoorRoomOkT
namespace Go.Proofs.YtglbjibilllopaaDoor.Hub
open Go.RowKit
set_option linter.unusedVariables false

set_option maxRecDepth 100000 in
set_option maxHeartbeats 2000000 in
theorem countOwners_any (vk : Value) (n : Nat) (U : Nat → ByteArray) (R : Nat → Int) (w : World) (hm : RankAt w vk n U R) :
    Calls Tryd.prog 51 #[vk] w fun e w' => e = .returned (.int .i64 (ownersTo R n : Nat)) ∧ Below w.heap.size w w' := by
  obtain ⟨o, cap, rfl, h1, h2', hc⟩ := hm
  have h2 : cap ≤ 9223372036854775807 := h2'
  clear h2'
  have HC : Hid (∀ j, j < n → ∃ b f : Nat, o = some ⟨b, f, none⟩ ∧ b < w.heap.size ∧ w.cell? ⟨b, f + j * 2, none⟩ = some (.string (U j)) ∧ w.cell? ⟨b, f + j * 2 + 1, none⟩ = some (.int .i64 (R j))) := hc
  clear hc
  go_enter Tryd.func51, Tryd.ntmps51
  go_wp2_with fail
  go_loopw [3, 5, 8] (fun z _ i wr => ∃ k c : Nat, k ≤ n ∧ i = .int .i64 k ∧ z = .int .i64 c ∧ c ≤ k ∧ Below w.heap.size w wr ∧ Hid (c = ownersTo R k)) (fun _ _ i _ => n - (intOf i).toNat)
  case atStart => exact ⟨0, 0, Nat.zero_le _, rfl, rfl, Nat.le_refl _, Below.refl _ _, (rfl : 0 = ownersTo R 0)⟩
  case round =>
    obtain ⟨k, c, hk, rfl, rfl, hck, bw, HA⟩ := hrel
    by_cases hlt : k < n
    · obtain ⟨b, f, ho, hb, c0, c1⟩ := HC.out k hlt
      subst ho
      have i1 : (0 : Int) ≤ (k : Int) := by omega
      have i2 : (k : Int) < (n : Int) := by omega
      have d0 := (bw.cell (p := ⟨b, f + k * 2, none⟩) hb).trans c0
      have d1 := (bw.cell (p := ⟨b, f + k * 2 + 1, none⟩) hb).trans c1
      clear c0 c1
      by_cases he : R k = 4
      · have HB : Hid (c + 1 = ownersTo R (k + 1)) := (by rw [ownersTo, if_pos he, HA.out] : c + 1 = ownersTo R (k + 1))
        clear HA
        go_wp2_with fail
        clear he i1 i2 d0 d1
        go_round
        case rel => exact ⟨k + 1, c + 1, by omega, by go_num, by go_num, by omega, bw.trans ((below_alloc wr _).mono bw.size), HB⟩
        case measure => simp [intOf]; omega
      · have HB : Hid (c = ownersTo R (k + 1)) := (by rw [ownersTo, if_neg he, HA.out]; rfl : c = ownersTo R (k + 1))
        have hq : (R k == 4) = false := beq_eq_false_iff_ne.2 he
        clear HA
        go_wp2_with fail
        clear he hq i1 i2 d0 d1
        go_round
        case rel => exact ⟨k + 1, c, by omega, by go_num, rfl, by omega, bw.trans ((below_alloc wr _).mono bw.size), HB⟩
        case measure => simp [intOf]; omega
    · obtain rfl : k = n := by omega
      have hc2 : c = ownersTo R k := HA.out
      go_wp2_with fail
      go_ret
      exact ⟨by rw [hc2]; rfl, bw⟩

set_option maxRecDepth 100000 in
theorem indexMem_any (p : Nat → Bool) (g : Nat) (lb : Array Value) (eg : ∀ args w, (callFunc g args).run Tryd.prog w = .ok (.enter g args) w) (o : Option Addr) (cap n : Nat) (U N : Nat → ByteArray) (R : Nat → Int) (w : World) (hm : MemAt w (.slice o n cap) n U N R)
    (hp : ∀ (W : World) (j : Nat), j < n → Below w.heap.size w W → Calls Tryd.prog g (#[.agg #[.string (U j), .string (N j), .int .i64 (R j)]] ++ lb) W fun e w' => e = .returned (.bool (p j)) ∧ Below W.heap.size W w') :
    Calls Tryd.prog 86 #[.slice o n cap, .func (.func g) #[] lb] w fun e w' => e = .returned (.int .i64 (firstI n p)) ∧ Below w.heap.size w w' := by
  obtain ⟨o', cap', hv, h1, h2', hc⟩ := hm
  injection hv with hv1 hv2 hv3
  subst hv1 hv3
  have h2 : cap ≤ 9223372036854775807 := h2'
  clear h2' hv2
  have HC : Hid (∀ j, j < n → ∃ b f : Nat, o = some ⟨b, f, none⟩ ∧ b < w.heap.size ∧ w.cell? ⟨b, f + j * 3, none⟩ = some (.string (U j)) ∧ w.cell? ⟨b, f + j * 3 + 1, none⟩ = some (.string (N j)) ∧ w.cell? ⟨b, f + j * 3 + 2, none⟩ = some (.int .i64 (R j))) := hc
  have HP : Hid (∀ (W : World) (j : Nat), j < n → Below w.heap.size w W → Calls Tryd.prog g (#[.agg #[.string (U j), .string (N j), .int .i64 (R j)]] ++ lb) W fun e w' => e = .returned (.bool (p j)) ∧ Below W.heap.size W w') := hp
  obtain ⟨F, hF⟩ : ∃ F, firstI n p = F := ⟨_, rfl⟩
  have HF : Hid (findFrom p (n - 0) 0 = F) := hF
  rw [hF]
  clear hF hc hp
  go_enter Tryd.func86, Tryd.ntmps86
  go_wp2_with fail
  go_loopw [4, 8] (fun _ i wr => ∃ k : Nat, k ≤ n ∧ i = .int .i64 k ∧ Below w.heap.size w wr ∧ Hid (findFrom p (n - k) k = F)) (fun _ i _ => n - (intOf i).toNat)
  case atStart => exact ⟨0, Nat.zero_le _, rfl, Below.refl _ _, HF⟩
  case round =>
    obtain ⟨k, hk, rfl, bw, HA⟩ := hrel
    by_cases hlt : k < n
    · obtain ⟨b, f, ho, hb, c0, c1, c2⟩ := HC.out k hlt
      subst ho
      have i1 : (0 : Int) ≤ (k : Int) := by omega
      have i2 : (k : Int) < (n : Int) := by omega
      have d0 := (bw.cell (p := ⟨b, f + k * 3, none⟩) hb).trans c0
      have d1 := (bw.cell (p := ⟨b, f + k * 3 + 1, none⟩) hb).trans c1
      have d2 := (bw.cell (p := ⟨b, f + k * 3 + 2, none⟩) hb).trans c2
      clear c0 c1 c2
      have hcall := HP.out wr k hlt bw
      cases he : p k
      · have HB : Hid (findFrom p (n - (k + 1)) (k + 1) = F) := (find_miss p n k hlt he).symm.trans HA.out
        rw [he] at hcall
        clear HA
        go_wp2_with fail
        refine hcall.mono ?_
        rintro e w1 ⟨rfl, b1⟩
        go_wp2_with fail
        clear he i1 i2 d0 d1 d2 hcall
        go_round
        case rel => exact ⟨k + 1, by omega, by go_num, bw.trans (b1.mono bw.size), HB⟩
        case measure => simp [intOf]; omega
      · have hFk : F = (k : Int) := HA.out.symm.trans (find_hit p n k hlt he)
        rw [he] at hcall
        clear HA HF
        subst hFk
        go_wp2_with fail
        refine hcall.mono ?_
        rintro e w1 ⟨rfl, b1⟩
        go_wp2_with fail
        go_ret
        exact ⟨rfl, bw.trans (b1.mono bw.size)⟩
    · obtain rfl : k = n := by omega
      have hFk : F = -1 := HA.out.symm.trans (find_end _ k)
      clear HA HF
      subst hFk
      go_wp2_with fail
      go_ret
      exact ⟨rfl, bw⟩

theorem userPlace_one (u : ByteArray) (B : Nat) (a k : ByteArray) (r : Int) (W : World) (hB : B < W.heap.size) (hc : W.cell? ⟨B, 0, none⟩ = some (.string u)) :
    Calls Tryd.prog 87 #[.agg #[.string a, .string k, .int .i64 r], .pointer (some ⟨B, 0, none⟩)] W fun e w' => e = .returned (.bool (a.toList == u.toList)) ∧ Below W.heap.size W w' := by
  have b0 := below_alloc W (.cells #[.string a, .string k, .int .i64 r] 56)
  have hc2 := (b0.cell (p := ⟨B, 0, none⟩) hB).trans hc
  go_enter Tryd.func87, Tryd.ntmps87
  go_wp2_with fail
  go_ret
  exact ⟨rfl, b0⟩

set_option maxRecDepth 100000 in
theorem userPlace_any (u : ByteArray) (o : Option Addr) (cap n : Nat) (U N : Nat → ByteArray) (R : Nat → Int) (w : World) (hm : MemAt w (.slice o n cap) n U N R) :
    Calls Tryd.prog 75 #[.slice o n cap, .string u] w fun e w' => e = .returned (.int .i64 (firstI n fun j => (U j).toList == u.toList)) ∧ Below w.heap.size w w' := by
  have eg : ∀ args w, (callFunc 87 args).run Tryd.prog w = .ok (.enter 87 args) w := enters_of Tryd.func87 (by kernel_rfl) rfl
  obtain ⟨W1, hW1⟩ : ∃ W1, W1 = w.alloc (.cells #[.string u] 9) := ⟨_, rfl⟩
  have b0 : Below w.heap.size w W1 := by rw [hW1]; exact below_alloc w _
  have hB : w.heap.size < W1.heap.size := by rw [hW1]; simp
  have hc : W1.cell? ⟨w.heap.size, 0, none⟩ = some (.string u) := by rw [hW1]; exact (cellLit w _ _ 0).trans rfl
  have con := indexMem_any (fun j => (U j).toList == u.toList) 87 #[.pointer (some ⟨w.heap.size, 0, none⟩)] eg o cap n U N R W1 (hm.below b0)
    (fun W j hj b => userPlace_one u w.heap.size (U j) (N j) (R j) W (Nat.lt_of_lt_of_le hB b.size) ((b.cell (p := ⟨w.heap.size, 0, none⟩) hB).trans hc))
  go_enter Tryd.func75, Tryd.ntmps75
  go_wp2_with fail
  rw [← hW1]
  refine con.mono ?_
  rintro e w1 ⟨rfl, b1⟩
  go_wp2_with fail
  go_ret
  exact ⟨rfl, b0.trans (b1.mono b0.size)⟩

theorem nickPlace_one (u : ByteArray) (B : Nat) (a k : ByteArray) (r : Int) (W : World) (hB : B < W.heap.size) (hc : W.cell? ⟨B, 0, none⟩ = some (.string u)) :
    Calls Tryd.prog 88 #[.agg #[.string a, .string k, .int .i64 r], .pointer (some ⟨B, 0, none⟩)] W fun e w' => e = .returned (.bool (k.toList == u.toList)) ∧ Below W.heap.size W w' := by
  have b0 := below_alloc W (.cells #[.string a, .string k, .int .i64 r] 56)
  have hc2 := (b0.cell (p := ⟨B, 0, none⟩) hB).trans hc
  go_enter Tryd.func88, Tryd.ntmps88
  go_wp2_with fail
  go_ret
  exact ⟨rfl, b0⟩

set_option maxRecDepth 100000 in
theorem nickPlace_any (u : ByteArray) (o : Option Addr) (cap n : Nat) (U N : Nat → ByteArray) (R : Nat → Int) (w : World) (hm : MemAt w (.slice o n cap) n U N R) :
    Calls Tryd.prog 76 #[.slice o n cap, .string u] w fun e w' => e = .returned (.int .i64 (firstI n fun j => (N j).toList == u.toList)) ∧ Below w.heap.size w w' := by
  have eg : ∀ args w, (callFunc 88 args).run Tryd.prog w = .ok (.enter 88 args) w := enters_of Tryd.func88 (by kernel_rfl) rfl
  obtain ⟨W1, hW1⟩ : ∃ W1, W1 = w.alloc (.cells #[.string u] 9) := ⟨_, rfl⟩
  have b0 : Below w.heap.size w W1 := by rw [hW1]; exact below_alloc w _
  have hB : w.heap.size < W1.heap.size := by rw [hW1]; simp
  have hc : W1.cell? ⟨w.heap.size, 0, none⟩ = some (.string u) := by rw [hW1]; exact (cellLit w _ _ 0).trans rfl
  have con := indexMem_any (fun j => (N j).toList == u.toList) 88 #[.pointer (some ⟨w.heap.size, 0, none⟩)] eg o cap n U N R W1 (hm.below b0)
    (fun W j hj b => nickPlace_one u w.heap.size (U j) (N j) (R j) W (Nat.lt_of_lt_of_le hB b.size) ((b.cell (p := ⟨w.heap.size, 0, none⟩) hB).trans hc))
  go_enter Tryd.func76, Tryd.ntmps76
  go_wp2_with fail
  rw [← hW1]
  refine con.mono ?_
  rintro e w1 ⟨rfl, b1⟩
  go_wp2_with fail
  go_ret
  exact ⟨rfl, b0.trans (b1.mono b0.size)⟩

set_option maxRecDepth 100000 in
set_option maxHeartbeats 2000000 in
theorem isUntouched_any (nm sb : ByteArray) (nx : Int) (o o2 : Option Addr) (n c z c2 : Nat) (w : World) :
    Calls Tryd.prog 52 #[roomV nm nx (.slice o n c) (.slice o2 z c2) sb] w fun e w' => e = .returned (.bool (untT nx n z sb)) ∧ Below w.heap.size w w' := by
  have b0 := below_alloc w (.cells #[.string nm, .int .i64 nx, .slice o n c, .slice o2 z c2, .string sb] 31)
  unfold untT
  by_cases h1 : nx = 0
  · have e1 : (nx == 0) = true := by rw [h1]; rfl
    rw [decide_eq_true h1]
    clear h1
    by_cases h2 : n = 0
    · have e2 : ((n : Int) == 0) = true := by rw [h2]; rfl
      rw [decide_eq_true h2]
      clear h2
      by_cases h3 : z = 0
      · have e3 : ((z : Int) == 0) = true := by rw [h3]; rfl
        rw [decide_eq_true h3]
        clear h3
        by_cases h4 : sb.size = 0
        · obtain rfl := size_zero sb h4
          go_enter Tryd.func52, Tryd.ntmps52
          go_wp2_with fail
          go_ret
          exact ⟨rfl, b0⟩
        · have e4 : (sb.toList == (⟨#[]⟩ : ByteArray).toList) = false := by
            rw [← Bool.not_eq_true, beq_iff_eq]
            intro h
            apply h4
            have hx : sb = ⟨#[]⟩ := ByteArray.ext (by rw [ByteArray.toList_eq, ByteArray.toList_eq] at h; exact Array.toList_inj.1 h)
            rw [hx]
            rfl
          have e5 : sb.toList.isEmpty = false := by
            cases hl : sb.toList with
            | nil => rw [hl] at e4; simp at e4
            | cons a l => rfl
          rw [decide_eq_false h4]
          clear h4 e4
          go_enter Tryd.func52, Tryd.ntmps52
          go_wp2_with fail
          go_ret
          exact ⟨ret_bool (by simp), b0⟩
      · have e3 : ((z : Int) == 0) = false := beq_eq_false_iff_ne.2 (by omega)
        rw [decide_eq_false h3]
        clear h3
        go_enter Tryd.func52, Tryd.ntmps52
        go_wp2_with fail
        go_ret
        exact ⟨rfl, b0⟩
    · have e2 : ((n : Int) == 0) = false := beq_eq_false_iff_ne.2 (by omega)
      rw [decide_eq_false h2]
      clear h2
      go_enter Tryd.func52, Tryd.ntmps52
      go_wp2_with fail
      go_ret
      exact ⟨rfl, b0⟩
  · have e1 : (nx == 0) = false := beq_eq_false_iff_ne.2 h1
    rw [decide_eq_false h1]
    clear h1
    go_enter Tryd.func52, Tryd.ntmps52
    go_wp2_with fail
    go_ret
    exact ⟨rfl, b0⟩
end Go.Proofs.YtglbjibilllopaaDoor.Hub
