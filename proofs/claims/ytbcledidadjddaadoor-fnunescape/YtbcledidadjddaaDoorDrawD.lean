/-
  What spec.l16Bent and spec.DrawUnescape give: some text, of at most 2000 bytes. Nothing is said of which.
-/
import Derived.Test.YtbcledidadjddaaDoorDrawB
import Derived.Test.YtbcledidadjddaaDoorEscImpl
namespace Go.Proofs.YtbcledidadjddaaDoor.Hub
open Go.RowKit
set_option linter.unusedVariables false

def bents : List ByteArray := [⟨#[60]⟩, ⟨#[62]⟩, ⟨#[38]⟩, ⟨#[39]⟩, ⟨#[47]⟩, ⟨#[32]⟩, ⟨#[120]⟩, ⟨#[61]⟩, ⟨#[1]⟩, ⟨#[255]⟩, ⟨#[124]⟩, ⟨#[48]⟩]
def mores : List ByteArray := [⟨#[120]⟩, ⟨#[32]⟩, ⟨#[60]⟩, ⟨#[47, 62]⟩, ⟨#[59]⟩]
def puts : List ByteArray := [⟨#[60]⟩, ⟨#[38]⟩, ⟨#[39]⟩, ⟨#[32]⟩, ⟨#[60, 97, 47, 62]⟩, ⟨#[195]⟩, ⟨#[124]⟩]
theorem all_small (ls : List ByteArray) (h : (ls.all fun s => decide (s.size ≤ 100)) = true) : ∀ s ∈ ls, s.size ≤ 100 := fun s hs => of_decide_eq_true (List.all_eq_true.1 h s hs)
theorem below_of_stepped {n₀ B : Nat} {W W' : World} (hB : n₀ ≤ B) (h : Stepped B W W') : Below n₀ W W' := h.2.1.mono hB

set_option maxRecDepth 100000 in
set_option maxHeartbeats 4000000 in
theorem bent_any (n₀ B p : Nat) (s : ByteArray) (hs : s.size ≤ 1000) (hp : p ≤ 80000) (w : World) (hn : n₀ ≤ w.heap.size) (h : Rd n₀ w B p) :
    Calls Tryd.prog 47 #[.pointer (some ⟨B, 0, none⟩), .string s] w fun e w' => (∃ x : ByteArray, x.size ≤ 2000 ∧ e = .returned (.string x)) ∧ Below n₀ w w' := by
  have hB := h.1
  go_enter Tryd.func47, Tryd.ntmps47
  go_wp2_with fail
  refine (pick_any n₀ B p (s.size + 1) (by omega) (by omega) (by omega) _ h).mono ?_
  rintro e w1 ⟨⟨k, hk, rfl⟩, hw1⟩
  obtain ⟨hrd1, hst1⟩ := stepped_of h hw1
  have hb1 := below_of_stepped hB hst1
  have hn1 : n₀ ≤ w1.heap.size := Nat.le_trans hn hb1.size
  clear hw1 hst1
  go_wp2_with fail
  refine (pick_any n₀ B (p + 1) 6 (by omega) (by omega) (by omega) _ hrd1).mono ?_
  rintro e w2 ⟨⟨j, hj, rfl⟩, hw2⟩
  obtain ⟨hrd2, hst2⟩ := stepped_of hrd1 hw2
  have hb2 := hb1.trans (below_of_stepped hB hst2)
  have hn2 : n₀ ≤ w2.heap.size := Nat.le_trans hn hb2.size
  have hlt := rd_lt hrd2
  clear hw2 hst2 hrd1 hb1 hn1
  have hkI : (k : Int) ≤ (s.size : Int) := by omega
  have hstay : ∀ W : World, Below n₀ w W → (∃ x : ByteArray, x.size ≤ 2000 ∧ Ending.returned (.string s) = .returned (.string x)) ∧ Below n₀ w W := fun W hb => ⟨⟨s, by omega, rfl⟩, hb⟩
  rcases (by omega : j = 0 ∨ j = 1 ∨ j = 2 ∨ j = 3 ∨ j = 4 ∨ j = 5) with rfl | rfl | rfl | rfl | rfl | rfl
  · by_cases hks : k < s.size
    · have hksI : (k : Int) < (s.size : Int) := by omega
      have hk1 : (k : Int) + 1 ≤ (s.size : Int) := by omega
      have hk0 : (0 : Int) ≤ (k : Int) + 1 := by omega
      have hk2 : (0 : Int) ≤ (k : Int) := by omega
      have hwr : IntKind.i64.wrap ((k : Int) + 1) = (k : Int) + 1 := by rw [IntKind.wrap_i64]; omega
      go_wp2_with fail
      go_region_with (go_at_call 50; refine (of_any n₀ B (p + 1 + 1) w2.heap.size 12 bents rfl (by omega) (by omega) (by omega) _ (hrd2.alloc hn2 _).drew (by omega) (World.alloc_heap_new _ _)).mono ?_; rintro e w3 ⟨⟨x, hx, rfl⟩, hrd3, hst3⟩; have hxs := all_small bents (by kernel_rfl) x hx)
      all_goals
        go_wp2_with fail
        go_ret
        refine ⟨⟨_, ?_, rfl⟩, hb2.trans (((Below.refl n₀ w2).alloc hn2 _).drew.trans (below_of_stepped hB hst3))⟩
        rw [ByteArray.size_append, ByteArray.size_append, ByteArray.size_extract, ByteArray.size_extract]
        omega
    · have hksI : ¬ (k : Int) < (s.size : Int) := by omega
      go_wp2_with fail
      go_ret
      exact hstay _ hb2
  · go_wp2_with fail
    go_ret
    refine ⟨⟨_, ?_, rfl⟩, hb2⟩
    rw [ByteArray.size_extract]
    omega
  · go_wp2_with fail
    refine (of_any n₀ B (p + 1 + 1) w2.heap.size 5 mores rfl (by omega) (by omega) (by omega) _ (hrd2.alloc hn2 _) (by omega) (World.alloc_heap_new _ _)).mono ?_
    rintro e w3 ⟨⟨x, hx, rfl⟩, hrd3, hst3⟩
    have hxs := all_small mores (by kernel_rfl) x hx
    go_wp2_with fail
    go_ret
    refine ⟨⟨_, ?_, rfl⟩, hb2.trans (((Below.refl n₀ w2).alloc hn2 _).trans (below_of_stepped hB hst3))⟩
    rw [ByteArray.size_append]
    omega
  · have hk2 : (0 : Int) ≤ (k : Int) := by omega
    go_wp2_with fail
    go_region_with (go_at_call 50; refine (of_any n₀ B (p + 1 + 1) w2.heap.size 7 puts rfl (by omega) (by omega) (by omega) _ (hrd2.alloc hn2 _).drew (by omega) (World.alloc_heap_new _ _)).mono ?_; rintro e w3 ⟨⟨x, hx, rfl⟩, hrd3, hst3⟩; have hxs := all_small puts (by kernel_rfl) x hx)
    all_goals
      go_wp2_with fail
      go_ret
      refine ⟨⟨_, ?_, rfl⟩, hb2.trans (((Below.refl n₀ w2).alloc hn2 _).drew.trans (below_of_stepped hB hst3))⟩
      rw [ByteArray.size_append, ByteArray.size_append, ByteArray.size_extract, ByteArray.size_extract]
      omega
  · go_wp2_with fail
    go_ret
    exact hstay _ hb2
  · go_wp2_with fail
    go_ret
    exact hstay _ hb2

def heads : List ByteArray := [⟨#[]⟩, ⟨#[97]⟩, ⟨#[120, 38, 97, 109, 112, 59]⟩]
def mids : List ByteArray := [⟨#[38, 35, 54, 53, 59]⟩, ⟨#[38, 35, 120, 52, 49, 59]⟩, ⟨#[38, 35, 120, 49, 70, 54, 48, 48, 59]⟩, ⟨#[38, 35, 48, 59]⟩, ⟨#[38, 35, 120, 49, 49, 48, 48, 48, 48, 59]⟩, ⟨#[38, 108, 116, 59]⟩, ⟨#[38, 110, 98, 115, 112, 59]⟩, ⟨#[38, 59]⟩, ⟨#[38, 35, 59]⟩, ⟨#[38, 35, 120, 59]⟩, ⟨#[38, 97]⟩, ⟨#[38, 97, 109, 112]⟩, ⟨#[38, 35, 120, 68, 56, 48, 48, 59]⟩, ⟨#[38, 65, 77, 80, 59]⟩, ⟨#[38, 35, 49, 49, 49, 52, 49, 49, 49, 59]⟩, ⟨#[38, 35, 48, 48, 48, 48, 48, 48, 54, 53, 59]⟩]
def lasts : List ByteArray := [⟨#[]⟩, ⟨#[98]⟩, ⟨#[59]⟩]
set_option maxRecDepth 100000 in
set_option maxHeartbeats 4000000 in
theorem drawUnescape_any (v : Value) (n : Nat) (w : World) (h : BytesAt w.heap.size w v n) :
    Calls Tryd.prog 23 #[v] w fun e w' => (∃ x : ByteArray, x.size ≤ 2000 ∧ e = .returned (.string x)) ∧ Below w.heap.size w w' := by
  obtain ⟨n₀, hn₀⟩ : ∃ n₀, n₀ = w.heap.size := ⟨_, rfl⟩
  go_enter Tryd.func23, Tryd.ntmps23
  go_wp2_with (go_at_call 38; refine (open_any v n _ h).mono ?_)
  rintro e w1 ⟨rfl, hrd, hb1⟩
  go_wp2_with fail
  refine (pick_any w.heap.size w.heap.size 0 2 (by omega) (by omega) (by omega) _ hrd).mono ?_
  rintro e w2 ⟨⟨j, hj, rfl⟩, hw2⟩
  obtain ⟨hrd2, hst2⟩ := stepped_of hrd hw2
  have hb2 := hb1.trans (below_of_stepped (Nat.le_refl _) hst2)
  have hlt2 := rd_lt hrd2
  clear hw2 hst2 hrd hb1
  rcases (by omega : j = 0 ∨ j = 1) with rfl | rfl
  · go_wp2_with fail
    refine (text_any w.heap.size w.heap.size (0 + 1) (by omega) _ hb2.size hrd2).mono ?_
    rintro e w3 ⟨⟨t, ht, rfl⟩, hrd3, hn3, hb3⟩
    have hts := texts_small t ht
    go_wp2_with fail
    refine (specEscape_any t _ (by omega)).mono ?_
    rintro e w4 ⟨rfl, hb4⟩
    have hes : (escT t).size ≤ 1000 := by
      unfold escT
      split
      · rw [ofL_size]
        have := escL_le t.data.toList
        have h9 : t.data.toList.length = t.size := rfl
        omega
      · show 0 ≤ 1000; omega
    have c3 := hb2.trans hb3
    have c4 := c3.trans (hb4.mono c3.size)
    have hlt3 := rd_lt hrd3
    have hrd4 : Rd w.heap.size w4 w.heap.size (0 + 1 + 1) := by
      obtain ⟨q1, v, m, hv, hm, hh⟩ := hrd3
      exact ⟨q1, v, m, hv.below (hb4.mono c3.size), hm, (hb4.block _ hlt3).trans hh⟩
    go_wp2_with fail
    refine (bent_any w.heap.size w.heap.size (0 + 1 + 1) (escT t) hes (by omega) _ c4.size hrd4).mono ?_
    rintro e w5 ⟨⟨x, hx, rfl⟩, hb5⟩
    go_wp2_with fail
    go_ret
    exact ⟨⟨x, hx, rfl⟩, c4.trans hb5⟩
  · go_wp2_with fail
    refine (of_any w.heap.size w.heap.size (0 + 1) w2.heap.size 3 heads rfl (by omega) (by omega) (by omega) _ (hrd2.alloc hb2.size _) (by omega) (World.alloc_heap_new _ _)).mono ?_
    rintro e w3 ⟨⟨x, hx, rfl⟩, hrd3, hst3⟩
    have hxs := all_small heads (by kernel_rfl) x hx
    have c3 := hb2.trans (((Below.refl w.heap.size w2).alloc hb2.size _).trans (below_of_stepped (Nat.le_refl _) hst3))
    have hlt3 := rd_lt hrd3
    clear hst3 hrd2
    go_wp2_with fail
    refine (of_any w.heap.size w.heap.size (0 + 1 + 1) w3.heap.size 16 mids rfl (by omega) (by omega) (by omega) _ (hrd3.alloc c3.size _) (by omega) (World.alloc_heap_new _ _)).mono ?_
    rintro e w4 ⟨⟨y, hy, rfl⟩, hrd4, hst4⟩
    have hys := all_small mids (by kernel_rfl) y hy
    have c4 := c3.trans (((Below.refl w.heap.size w3).alloc c3.size _).trans (below_of_stepped (Nat.le_refl _) hst4))
    have hlt4 := rd_lt hrd4
    clear hst4 hrd3
    go_wp2_with fail
    refine (of_any w.heap.size w.heap.size (0 + 1 + 1 + 1) w4.heap.size 3 lasts rfl (by omega) (by omega) (by omega) _ (hrd4.alloc c4.size _) (by omega) (World.alloc_heap_new _ _)).mono ?_
    rintro e w5 ⟨⟨z, hz, rfl⟩, hrd5, hst5⟩
    have hzs := all_small lasts (by kernel_rfl) z hz
    have c5 := c4.trans (((Below.refl w.heap.size w4).alloc c4.size _).trans (below_of_stepped (Nat.le_refl _) hst5))
    clear hst5 hrd4
    go_wp2_with fail
    go_ret
    refine ⟨⟨_, ?_, rfl⟩, c5⟩
    rw [ByteArray.size_append, ByteArray.size_append]
    omega
end Go.Proofs.YtbcledidadjddaaDoor.Hub
