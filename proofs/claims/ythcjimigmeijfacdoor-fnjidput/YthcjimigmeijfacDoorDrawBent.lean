/-
  What spec.l16Bent gives: some text, of at most 2000 bytes. Nothing is said of which.
-/
import Derived.Test.YthcjimigmeijfacDoorDrawB
import Derived.Deep.RegionWith
namespace Go.Proofs.YthcjimigmeijfacDoor.Hub
open Go.RowKit
set_option linter.unusedVariables false

def bents : List ByteArray := [⟨#[60]⟩, ⟨#[62]⟩, ⟨#[38]⟩, ⟨#[39]⟩, ⟨#[47]⟩, ⟨#[32]⟩, ⟨#[120]⟩, ⟨#[61]⟩, ⟨#[1]⟩, ⟨#[255]⟩, ⟨#[124]⟩, ⟨#[48]⟩]
def mores : List ByteArray := [⟨#[120]⟩, ⟨#[32]⟩, ⟨#[60]⟩, ⟨#[47, 62]⟩, ⟨#[59]⟩]
def puts : List ByteArray := [⟨#[60]⟩, ⟨#[38]⟩, ⟨#[39]⟩, ⟨#[32]⟩, ⟨#[60, 97, 47, 62]⟩, ⟨#[195]⟩, ⟨#[124]⟩]
theorem all_small (ls : List ByteArray) (h : (ls.all fun s => decide (s.size ≤ 100)) = true) : ∀ s ∈ ls, s.size ≤ 100 := fun s hs => of_decide_eq_true (List.all_eq_true.1 h s hs)
theorem below_of_stepped {n₀ B : Nat} {W W' : World} (hB : n₀ ≤ B) (h : Stepped B W W') : Below n₀ W W' := h.2.1.mono hB

set_option maxRecDepth 100000 in
set_option maxHeartbeats 4000000 in
theorem bent_any (n₀ B p : Nat) (s : ByteArray) (hs : s.size ≤ 1000) (hp : p ≤ 80000) (w : World) (hn : n₀ ≤ w.heap.size) (h : Rd n₀ w B p) :
    Calls Tryd.prog 30 #[.pointer (some ⟨B, 0, none⟩), .string s] w fun e w' => (∃ x : ByteArray, x.size ≤ 2000 ∧ e = .returned (.string x)) ∧ Below n₀ w w' := by
  have hB := h.1
  go_enter Tryd.func30, Tryd.ntmps30
  go_wp2_with fail
  refine (pick_any n₀ B p (s.size + 1) (by omega) (by omega) (by omega) _ h).mono ?_
  rintro e w1 ⟨⟨k, hk, rfl⟩, hw1⟩
  obtain ⟨hrd1, hst1⟩ := stepped_of h hw1
  have hb1 := below_of_stepped hB hst1
  have hn1 : n₀ ≤ w1.heap.size := Nat.le_trans hn hb1.size
  clear hw1 hst1
  go_wp2_with fail
  refine (pick_any n₀ B (p + 1) 6 (by omega) (by omega) (by omega) _ hrd1).mono ?_
  rintro e w2 ⟨⟨j, hj, rfl⟩, hw2⟩
  obtain ⟨hrd2, hst2⟩ := stepped_of hrd1 hw2
  have hb2 := hb1.trans (below_of_stepped hB hst2)
  have hn2 : n₀ ≤ w2.heap.size := Nat.le_trans hn hb2.size
  have hlt := rd_lt hrd2
  clear hw2 hst2 hrd1 hb1 hn1
  have hkI : (k : Int) ≤ (s.size : Int) := by omega
  have hstay : ∀ W : World, Below n₀ w W → (∃ x : ByteArray, x.size ≤ 2000 ∧ Ending.returned (.string s) = .returned (.string x)) ∧ Below n₀ w W := fun W hb => ⟨⟨s, by omega, rfl⟩, hb⟩
  rcases (by omega : j = 0 ∨ j = 1 ∨ j = 2 ∨ j = 3 ∨ j = 4 ∨ j = 5) with rfl | rfl | rfl | rfl | rfl | rfl
  · by_cases hks : k < s.size
    · have hksI : (k : Int) < (s.size : Int) := by omega
      have hk1 : (k : Int) + 1 ≤ (s.size : Int) := by omega
      have hk0 : (0 : Int) ≤ (k : Int) + 1 := by omega
      have hk2 : (0 : Int) ≤ (k : Int) := by omega
      have hwr : IntKind.i64.wrap ((k : Int) + 1) = (k : Int) + 1 := by rw [IntKind.wrap_i64]; omega
      go_wp2_with fail
      go_region_with (go_at_call 29; refine (of_any n₀ B (p + 1 + 1) w2.heap.size 12 bents rfl (by omega) (by omega) (by omega) _ (hrd2.alloc hn2 _).drew (by omega) (World.alloc_heap_new _ _)).mono ?_; rintro e w3 ⟨⟨x, hx, rfl⟩, hrd3, hst3⟩; have hxs := all_small bents (by kernel_rfl) x hx)
      all_goals
        go_wp2_with fail
        go_ret
        refine ⟨⟨_, ?_, rfl⟩, hb2.trans (((Below.refl n₀ w2).alloc hn2 _).drew.trans (below_of_stepped hB hst3))⟩
        rw [ByteArray.size_append, ByteArray.size_append, ByteArray.size_extract, ByteArray.size_extract]
        omega
    · have hksI : ¬ (k : Int) < (s.size : Int) := by omega
      go_wp2_with fail
      go_ret
      exact hstay _ hb2
  · go_wp2_with fail
    go_ret
    refine ⟨⟨_, ?_, rfl⟩, hb2⟩
    rw [ByteArray.size_extract]
    omega
  · go_wp2_with fail
    refine (of_any n₀ B (p + 1 + 1) w2.heap.size 5 mores rfl (by omega) (by omega) (by omega) _ (hrd2.alloc hn2 _) (by omega) (World.alloc_heap_new _ _)).mono ?_
    rintro e w3 ⟨⟨x, hx, rfl⟩, hrd3, hst3⟩
    have hxs := all_small mores (by kernel_rfl) x hx
    go_wp2_with fail
    go_ret
    refine ⟨⟨_, ?_, rfl⟩, hb2.trans (((Below.refl n₀ w2).alloc hn2 _).trans (below_of_stepped hB hst3))⟩
    rw [ByteArray.size_append]
    omega
  · have hk2 : (0 : Int) ≤ (k : Int) := by omega
    go_wp2_with fail
    go_region_with (go_at_call 29; refine (of_any n₀ B (p + 1 + 1) w2.heap.size 7 puts rfl (by omega) (by omega) (by omega) _ (hrd2.alloc hn2 _).drew (by omega) (World.alloc_heap_new _ _)).mono ?_; rintro e w3 ⟨⟨x, hx, rfl⟩, hrd3, hst3⟩; have hxs := all_small puts (by kernel_rfl) x hx)
    all_goals
      go_wp2_with fail
      go_ret
      refine ⟨⟨_, ?_, rfl⟩, hb2.trans (((Below.refl n₀ w2).alloc hn2 _).drew.trans (below_of_stepped hB hst3))⟩
      rw [ByteArray.size_append, ByteArray.size_append, ByteArray.size_extract, ByteArray.size_extract]
      omega
  · go_wp2_with fail
    go_ret
    exact hstay _ hb2
  · go_wp2_with fail
    go_ret
    exact hstay _ hb2
end Go.Proofs.YthcjimigmeijfacDoor.Hub
