/-
  The program's orEmpty, what it hands back, and JidOk: at every address it answers jidT.
-/
import Derived.Test.YtjpebjmjpilbbaaDoorJidOk
import Derived.Laws.EntriesVeiled
import Derived.Deep.CutRange
namespace Go.Proofs.YtjpebjmjpilbbaaDoor.Hub
open Go.RowKit
set_option linter.unusedVariables false

theorem orEmpty_any (v : Value) (hv : ∃ fn a b, v = .func fn a b) (w : World) :
    Calls Tryd.prog 21 #[v] w fun e w' => e = .returned (.func (.func 46) #[] #[.pointer (some ⟨w.heap.size, 0, none⟩)]) ∧ w' = w.alloc (.cells #[v] 52) := by
  obtain ⟨fn, a, b, rfl⟩ := hv
  have hmf : ∀ (fn : Fn) (first cap : Array Value) (w : World), (Instr.makeFunc fn first cap).run Tryd.prog w = .ok (.func fn first cap) w := fun _ _ _ _ => rfl
  go_enter Tryd.func21, Tryd.ntmps21
  go_wp2
  go_ret
  exact ⟨rfl, rfl⟩

set_option maxHeartbeats 1000000 in
theorem orUser_any (s : ByteArray) (B : Nat) (w : World) (hs : s.size ≤ 1099511627776) (hc : w.cell? ⟨B, 0, none⟩ = some (.func (.func 22) #[] #[])) :
    Calls Tryd.prog 46 #[.string s, .pointer (some ⟨B, 0, none⟩)] w fun e w' => e = .returned (.bool (orE userT s)) ∧ Below w.heap.size w w' := by
  have hN := fun w => isUser_any s w (by omega)
  rcases orE_cases userT s with ⟨he, ho⟩ | ⟨he, ht, ho⟩ | ⟨he, ht, ho⟩
  all_goals rw [ho]
  all_goals clear ho
  · subst he
    go_enter Tryd.func46, Tryd.ntmps46
    go_wp2_with fail
    go_ret
    exact ⟨rfl, Below.refl _ _⟩
  all_goals
    rw [ht] at hN
    go_enter Tryd.func46, Tryd.ntmps46
    go_wp2_with (go_at_call 22; go_fit (hN _); rintro e w1 ⟨rfl, rfl⟩)
    go_ret
    exact ⟨rfl, Below.refl _ _⟩
set_option maxHeartbeats 1000000 in
theorem orNick_any (s : ByteArray) (B : Nat) (w : World) (hs : s.size ≤ 1099511627776) (hT : Tabs w) (hc : w.cell? ⟨B, 0, none⟩ = some (.func (.func 24) #[] #[])) :
    Calls Tryd.prog 46 #[.string s, .pointer (some ⟨B, 0, none⟩)] w fun e w' => e = .returned (.bool (orE nickT s)) ∧ Below w.heap.size w w' := by
  have hN := isNick_any s w (by omega) hT
  rcases orE_cases nickT s with ⟨he, ho⟩ | ⟨he, ht, ho⟩ | ⟨he, ht, ho⟩
  all_goals rw [ho]
  all_goals clear ho
  · subst he
    go_enter Tryd.func46, Tryd.ntmps46
    go_wp2_with fail
    go_ret
    exact ⟨rfl, Below.refl _ _⟩
  all_goals
    rw [ht] at hN
    go_enter Tryd.func46, Tryd.ntmps46
    go_wp2_with (go_at_call 24; go_fit hN; rintro e w1 ⟨rfl, b1⟩)
    go_ret
    exact ⟨rfl, b1⟩

theorem boxed_on {W W' : World} {B : Nat} {t : TypeId} {v : Value} (h : Boxed W B t v) (hb : Below W.heap.size W W') : Boxed W' B t v := (hb.block B h.lt).trans h
/-- Four new blocks. -/
theorem four_new (w : World) (o0 o1 o2 o3 : Obj) : ((((w.alloc o0).alloc o1).alloc o2).alloc o3).drew.heap[w.heap.size + 1]? = some o1 ∧ ((((w.alloc o0).alloc o1).alloc o2).alloc o3).drew.heap[w.heap.size + 1 + 1]? = some o2 ∧ ((((w.alloc o0).alloc o1).alloc o2).alloc o3).drew.heap[w.heap.size + 1 + 1 + 1]? = some o3 ∧ Below w.heap.size w ((((w.alloc o0).alloc o1).alloc o2).alloc o3).drew := by
  have h1 := World.alloc_heap_new (w.alloc o0) o1
  have h2 := World.alloc_heap_new ((w.alloc o0).alloc o1) o2
  have h3 := World.alloc_heap_new (((w.alloc o0).alloc o1).alloc o2) o3
  simp only [World.size_alloc] at h1 h2 h3
  refine ⟨?_, ?_, h3, (((((Below.refl _ w).alloc (Nat.le_refl _) _).alloc (by simp) _).alloc (by simp; omega) _).alloc (by simp; omega) _).drew⟩
  · exact ((Below.heap_alloc _ _ _ (by simp)).trans (Below.heap_alloc _ _ _ (by simp))).trans h1
  · exact (Below.heap_alloc _ _ _ (by simp)).trans h2
/-- The three parts with what asks each, as cells of the array's block. -/
def jidCells (u h n : ByteArray) (g1 g2 : Nat) : Array Value := #[.string u, .func (.func 46) #[] #[.pointer (some ⟨g1, 0, none⟩)], .string h, .func (.func 23) #[] #[], .string n, .func (.func 46) #[] #[.pointer (some ⟨g2, 0, none⟩)]]
/-- So many of the three parts are as they must be. -/
def jidUpto (u h n : ByteArray) (k : Nat) : Prop := (0 < k → orE userT u = true) ∧ (1 < k → hostT h = true) ∧ (2 < k → orE nickT n = true)

theorem index0 (u h n : ByteArray) (g1 g2 : Nat) (w : World) : (Instr.index 55 (.agg #[.string u, .func (.func 46) #[] #[.pointer (some ⟨g1, 0, none⟩)], .string h, .func (.func 23) #[] #[], .string n, .func (.func 46) #[] #[.pointer (some ⟨g2, 0, none⟩)]]) (.int .i64 0)).run Tryd.prog w = .ok (.agg #[.string u, .func (.func 46) #[] #[.pointer (some ⟨g1, 0, none⟩)]]) w := by kernel_rfl
theorem index1 (u h n : ByteArray) (g1 g2 : Nat) (w : World) : (Instr.index 55 (.agg #[.string u, .func (.func 46) #[] #[.pointer (some ⟨g1, 0, none⟩)], .string h, .func (.func 23) #[] #[], .string n, .func (.func 46) #[] #[.pointer (some ⟨g2, 0, none⟩)]]) (.int .i64 1)).run Tryd.prog w = .ok (.agg #[.string h, .func (.func 23) #[] #[]]) w := by kernel_rfl
theorem index2 (u h n : ByteArray) (g1 g2 : Nat) (w : World) : (Instr.index 55 (.agg #[.string u, .func (.func 46) #[] #[.pointer (some ⟨g1, 0, none⟩)], .string h, .func (.func 23) #[] #[], .string n, .func (.func 46) #[] #[.pointer (some ⟨g2, 0, none⟩)]]) (.int .i64 2)).run Tryd.prog w = .ok (.agg #[.string n, .func (.func 46) #[] #[.pointer (some ⟨g2, 0, none⟩)]]) w := by kernel_rfl

set_option maxRecDepth 100000 in
set_option maxHeartbeats 4000000 in
theorem jidOk_any (u h n : ByteArray) (w : World) (hT : Tabs w) (hu : u.size ≤ 1099511627776) (hh : h.size ≤ 1099511627776) (hn : n.size ≤ 1099511627776) :
    Calls Tryd.prog 7 #[.agg #[.string u, .string h, .string n]] w fun e w' => e = .returned (.bool (jidT u h n)) ∧ Below w.heap.size w w' := by
  go_enter Tryd.func7, Tryd.ntmps7
  go_upto_region 1 with fail
  go_cut [3] from 6 to 17 (fun p W => ∃ a g1 g2 : Nat, p = .pointer (some ⟨a, 0, none⟩) ∧ W.heap[a]? = some (.cells (jidCells u h n g1 g2) 55 (0, 0)) ∧ Boxed W g1 52 (.func (.func 22) #[] #[]) ∧ Boxed W g2 52 (.func (.func 24) #[] #[]) ∧ Below w.heap.size w W)
  case first =>
    go_region_held3 (fun W => W.cell? ⟨w.heap.size, 0, none⟩ = some (.string u) ∧ W.cell? ⟨w.heap.size, 1, none⟩ = some (.string h) ∧ W.cell? ⟨w.heap.size, 2, none⟩ = some (.string n)) (go_keep) (first | (go_at_call 21; refine (orEmpty_any _ ⟨_, _, _, rfl⟩ _).mono ?_; rintro e w1 ⟨rfl, rfl⟩))
    all_goals go_wp2_with fail
    all_goals go_meet
    · exact ⟨_, _, _, rfl, (four_new w _ _ _ _).2.2.1, (four_new w _ _ _ _).1, (four_new w _ _ _ _).2.1, (four_new w _ _ _ _).2.2.2⟩
    · exact ⟨_, _, _, rfl, (four_new w _ _ _ _).2.1, (four_new w _ _ _ _).1, (four_new w _ _ _ _).2.2.1, (four_new w _ _ _ _).2.2.2⟩
    · exact ⟨_, _, _, rfl, (four_new w _ _ _ _).1, (four_new w _ _ _ _).2.1, (four_new w _ _ _ _).2.2.1, (four_new w _ _ _ _).2.2.2⟩
  case rest =>
    obtain ⟨a, g1, g2, rfl, hA, hG1, hG2, hB⟩ := hcut
    have c0 : wc.cell? ⟨a, 0, none⟩ = some (.string u) := by simp [World.cell?, hA, jidCells]
    have c1 : wc.cell? ⟨a, 1, none⟩ = some (.func (.func 46) #[] #[.pointer (some ⟨g1, 0, none⟩)]) := by simp [World.cell?, hA, jidCells]
    have c2 : wc.cell? ⟨a, 2, none⟩ = some (.string h) := by simp [World.cell?, hA, jidCells]
    have c3 : wc.cell? ⟨a, 3, none⟩ = some (.func (.func 23) #[] #[]) := by simp [World.cell?, hA, jidCells]
    have c4 : wc.cell? ⟨a, 4, none⟩ = some (.string n) := by simp [World.cell?, hA, jidCells]
    have c5 : wc.cell? ⟨a, 5, none⟩ = some (.func (.func 46) #[] #[.pointer (some ⟨g2, 0, none⟩)]) := by simp [World.cell?, hA, jidCells]
    clear hA
    go_wp2_with fail
    clear c0 c1 c2 c3 c4 c5
    go_loopw [19] (fun i wr => ∃ k : Nat, k ≤ 3 ∧ i = .int .i64 k ∧ Boxed wr g1 52 (.func (.func 22) #[] #[]) ∧ Boxed wr g2 52 (.func (.func 24) #[] #[]) ∧ Below w.heap.size w wr ∧ Hid (jidUpto u h n k)) (fun i _ => 3 - (intOf i).toNat)
    case atStart => exact ⟨0, by omega, rfl, hG1, hG2, hB, ⟨fun h => absurd h (by omega), fun h => absurd h (by omega), fun h => absurd h (by omega)⟩⟩
    case round =>
      obtain ⟨k, hk, rfl, hG1, hG2, hB, HU⟩ := hrel
      rcases (by omega : k = 0 ∨ k = 1 ∨ k = 2 ∨ k = 3) with rfl | rfl | rfl | rfl
      · have hix := index0 u h n g1 g2 wr
        obtain ⟨o, ho⟩ : ∃ o : Obj, o = .cells #[.string u, .func (.func 46) #[] #[.pointer (some ⟨g1, 0, none⟩)]] 54 := ⟨_, rfl⟩
        have hG1' := hG1.alloc o
        have hG2' := hG2.alloc o
        have hB' := hB.alloc hB.size o
        have hT' := Utf8Tabs_below hT hB'
        have hcall := orUser_any u g1 _ hu hG1'.cell
        rw [ho] at hG1' hG2' hB' hT' hcall
        clear ho
        have hno : orE userT u = false → jidT u h n = false := fun e => by unfold jidT; rw [e]; rfl
        have hup : orE userT u = true → jidUpto u h n (0 + 1) := fun e => ⟨fun _ => e, fun h => absurd h (by omega), fun h => absurd h (by omega)⟩
        have HNO : Hid (orE userT u = false → jidT u h n = false) := hno
        have HUP : Hid (orE userT u = true → jidUpto u h n (0 + 1)) := hup
        obtain ⟨R, hR⟩ : ∃ R, orE userT u = R := ⟨_, rfl⟩
        have HR : Hid (orE userT u = R) := hR
        rw [hR] at hcall
        clear hR hno hup
        cases R
        · go_wp2_with (go_at_call 46; go_fit hcall; rintro e w1 ⟨rfl, b1⟩)
          go_ret
          exact ⟨ret_bool (HNO.out HR.out).symm, hB'.trans (b1.mono hB'.size)⟩
        · go_wp2_with (go_at_call 46; go_fit hcall; rintro e w1 ⟨rfl, b1⟩)
          go_roundw
          case rel => exact ⟨0 + 1, by omega, by go_num, boxed_on hG1' b1, boxed_on hG2' b1, hB'.trans (b1.mono hB'.size), HUP.out HR.out⟩
          case measure => simp [intOf]
      · have hix := index1 u h n g1 g2 wr
        obtain ⟨o, ho⟩ : ∃ o : Obj, o = .cells #[.string h, .func (.func 23) #[] #[]] 54 := ⟨_, rfl⟩
        have hG1' := hG1.alloc o
        have hG2' := hG2.alloc o
        have hB' := hB.alloc hB.size o
        have hT' := Utf8Tabs_below hT hB'
        have hcall := isHost_any h (wr.alloc o) hh
        rw [ho] at hG1' hG2' hB' hT' hcall
        clear ho
        have hno : hostT h = false → jidT u h n = false := fun e => by unfold jidT; rw [e]; cases orE userT u <;> rfl
        have hup : hostT h = true → jidUpto u h n (1 + 1) := fun e => ⟨fun _ => HU.out.1 (by omega), fun _ => e, fun h => absurd h (by omega)⟩
        have HNO : Hid (hostT h = false → jidT u h n = false) := hno
        have HUP : Hid (hostT h = true → jidUpto u h n (1 + 1)) := hup
        obtain ⟨R, hR⟩ : ∃ R, hostT h = R := ⟨_, rfl⟩
        have HR : Hid (hostT h = R) := hR
        rw [hR] at hcall
        clear hR hno hup
        cases R
        · go_wp2_with (go_at_call 23; go_fit hcall; rintro e w1 ⟨rfl, b1⟩)
          go_ret
          exact ⟨ret_bool (HNO.out HR.out).symm, hB'.trans (b1.mono hB'.size)⟩
        · go_wp2_with (go_at_call 23; go_fit hcall; rintro e w1 ⟨rfl, b1⟩)
          go_roundw
          case rel => exact ⟨1 + 1, by omega, by go_num, boxed_on hG1' b1, boxed_on hG2' b1, hB'.trans (b1.mono hB'.size), HUP.out HR.out⟩
          case measure => simp [intOf]
      · have hix := index2 u h n g1 g2 wr
        obtain ⟨o, ho⟩ : ∃ o : Obj, o = .cells #[.string n, .func (.func 46) #[] #[.pointer (some ⟨g2, 0, none⟩)]] 54 := ⟨_, rfl⟩
        have hG1' := hG1.alloc o
        have hG2' := hG2.alloc o
        have hB' := hB.alloc hB.size o
        have hT' := Utf8Tabs_below hT hB'
        have hcall := orNick_any n g2 _ hn hT' hG2'.cell
        rw [ho] at hG1' hG2' hB' hT' hcall
        clear ho
        have hno : orE nickT n = false → jidT u h n = false := fun e => by unfold jidT; rw [e]; cases orE userT u <;> cases hostT h <;> rfl
        have hup : orE nickT n = true → jidUpto u h n (2 + 1) := fun e => ⟨fun _ => HU.out.1 (by omega), fun _ => HU.out.2.1 (by omega), fun _ => e⟩
        have HNO : Hid (orE nickT n = false → jidT u h n = false) := hno
        have HUP : Hid (orE nickT n = true → jidUpto u h n (2 + 1)) := hup
        obtain ⟨R, hR⟩ : ∃ R, orE nickT n = R := ⟨_, rfl⟩
        have HR : Hid (orE nickT n = R) := hR
        rw [hR] at hcall
        clear hR hno hup
        cases R
        · go_wp2_with (go_at_call 46; go_fit hcall; rintro e w1 ⟨rfl, b1⟩)
          go_ret
          exact ⟨ret_bool (HNO.out HR.out).symm, hB'.trans (b1.mono hB'.size)⟩
        · go_wp2_with (go_at_call 46; go_fit hcall; rintro e w1 ⟨rfl, b1⟩)
          go_roundw
          case rel => exact ⟨2 + 1, by omega, by go_num, boxed_on hG1' b1, boxed_on hG2' b1, hB'.trans (b1.mono hB'.size), HUP.out HR.out⟩
          case measure => simp [intOf]
      · have hyes : jidT u h n = true := by unfold jidT; rw [HU.out.1 (by omega), HU.out.2.1 (by omega), HU.out.2.2 (by omega)]; rfl
        have HY : Hid (jidT u h n = true) := hyes
        clear hyes HU
        go_wp2_with fail
        go_ret
        exact ⟨ret_bool HY.out.symm, hB⟩
end Go.Proofs.YtjpebjmjpilbbaaDoor.Hub
