/-
  What the laws' own draws of a text give: one of the texts that the law's list has, with one of the endings that its second list has.
-/
import Derived.Test.YtlonpaigfalbkaaDoorDraw
namespace Go.Proofs.YtlonpaigfalbkaaDoor.Hub
open Go.RowKit
set_option linter.unusedVariables false

set_option maxHeartbeats 1000000 in
theorem of_any (n₀ B p L m : Nat) (ls : List ByteArray) (hls : ls.length = m) (hp : p ≤ 100000) (hm : 1 ≤ m) (hm2 : m ≤ 100000) (w : World) (h : Rd n₀ w B p) (hLB : L ≠ B) (hL : w.heap[L]? = some (.cells (ls.map Value.string).toArray 9 (0, 0))) :
    Calls Tryd.prog 10 #[.pointer (some ⟨B, 0, none⟩), .slice (some ⟨L, 0, none⟩) m m] w fun e w' => (∃ s, s ∈ ls ∧ e = .returned (.string s)) ∧ Rd n₀ w' B (p + 1) ∧ Stepped B w w' := by
  go_enter Tryd.func10, Tryd.ntmps10
  go_wp2_with (go_at_call 16; refine (pick_any n₀ B p m hp hm hm2 _ h).mono ?_)
  rintro e w1 ⟨⟨k, hk, rfl⟩, hw⟩
  obtain ⟨hrd, hst⟩ := stepped_of h hw
  have hL1 := (hst.2.2 L hLB).trans hL
  have hk2 : k < ls.length := by omega
  have ck : w1.cell? ⟨L, k, none⟩ = some (.string ls[k]) := by simp [World.cell?, hL1, hk2]
  have hki : (k : Int) < (m : Int) := by omega
  clear hL hL1 hw
  generalize hsk : ls[k] = s at ck
  have hmem : s ∈ ls := by rw [← hsk]; exact List.getElem_mem _
  clear hsk
  go_wp2_with fail
  go_ret
  exact ⟨⟨s, hmem, rfl⟩, hrd, hst⟩

def texts : List ByteArray := [⟨#[104, 105]⟩, ⟨#[97, 32, 98]⟩, ⟨#[104, 105, 32, 116, 104, 101, 114, 101]⟩, ⟨#[]⟩, ⟨#[60, 38, 62, 39, 34]⟩, ⟨#[195, 169, 226, 130, 172, 240, 159, 152, 128]⟩, ⟨#[120, 9, 121, 10, 122]⟩, ⟨#[97, 124, 98, 92, 99]⟩, ⟨#[116, 101, 110, 32, 49, 48]⟩, ⟨#[72, 105]⟩, ⟨#[110, 111]⟩, ⟨#[105, 116, 32, 105, 115, 32, 97, 32, 103, 111, 111, 100, 32, 100, 97, 121, 32, 104, 101, 114, 101, 44, 32, 97, 108, 108, 32, 111, 102, 32, 117, 115, 32, 115, 97, 121, 32, 115, 111]⟩]
def ends : List ByteArray := [⟨#[]⟩, ⟨#[]⟩, ⟨#[]⟩, ⟨#[0]⟩, ⟨#[195]⟩, ⟨#[237, 160, 128]⟩, ⟨#[244, 144, 128, 128]⟩, ⟨#[192, 128]⟩, ⟨#[11]⟩, ⟨#[239, 191, 190]⟩, ⟨#[226, 130]⟩]
theorem texts_small : ∀ s ∈ texts, s.size ≤ 100 := by
  have h : (texts.all fun s => decide (s.size ≤ 100)) = true := by kernel_rfl
  exact fun s hs => of_decide_eq_true (List.all_eq_true.1 h s hs)
theorem ends_small : ∀ s ∈ ends, s.size ≤ 100 := by
  have h : (ends.all fun s => decide (s.size ≤ 100)) = true := by kernel_rfl
  exact fun s hs => of_decide_eq_true (List.all_eq_true.1 h s hs)
theorem rd_lt {n₀ B p : Nat} {W : World} (h : Rd n₀ W B p) : B < W.heap.size := by
  obtain ⟨_, _, _, _, _, hh⟩ := h
  exact (Array.getElem?_eq_some_iff.1 hh).1
set_option maxHeartbeats 1000000 in
theorem text_any (n₀ B p : Nat) (hp : p ≤ 90000) (w : World) (hn : n₀ ≤ w.heap.size) (h : Rd n₀ w B p) :
    Calls Tryd.prog 15 #[.pointer (some ⟨B, 0, none⟩)] w fun e w' => (∃ s, s ∈ texts ∧ e = .returned (.string s)) ∧ Rd n₀ w' B (p + 1) ∧ n₀ ≤ w'.heap.size ∧ Below n₀ w w' := by
  have hlt := rd_lt h
  have hB := h.1
  go_enter Tryd.func15, Tryd.ntmps15
  go_wp2_with fail
  refine (of_any n₀ B p w.heap.size 12 texts rfl (by omega) (by omega) (by omega) _ (h.alloc hn _) (by omega) (World.alloc_heap_new _ _)).mono ?_
  rintro e w1 ⟨⟨s, hs, rfl⟩, hrd, hst⟩
  go_wp2_with fail
  go_ret
  refine ⟨⟨s, hs, rfl⟩, hrd, ?_, ((Below.refl n₀ w).alloc hn _).trans (hst.2.1.mono hB)⟩
  rw [hst.1]
  simp
  omega
set_option maxHeartbeats 1000000 in
theorem any_any (n₀ B p : Nat) (hp : p ≤ 80000) (w : World) (hn : n₀ ≤ w.heap.size) (h : Rd n₀ w B p) :
    Calls Tryd.prog 9 #[.pointer (some ⟨B, 0, none⟩)] w fun e w' => (∃ s t, s ∈ texts ∧ t ∈ ends ∧ e = .returned (.string (s ++ t))) ∧ Rd n₀ w' B (p + 1 + 1) ∧ n₀ ≤ w'.heap.size ∧ Below n₀ w w' := by
  have hB := h.1
  go_enter Tryd.func9, Tryd.ntmps9
  go_wp2_with (go_at_call 15; refine (text_any n₀ B p (by omega) _ hn h).mono ?_)
  rintro e w1 ⟨⟨s, hs, rfl⟩, hrd, hn1, hb1⟩
  have hlt := rd_lt hrd
  have hss := texts_small s hs
  go_wp2_with fail
  refine (of_any n₀ B (p + 1) w1.heap.size 11 ends rfl (by omega) (by omega) (by omega) _ (hrd.alloc hn1 _) (by omega) (World.alloc_heap_new _ _)).mono ?_
  rintro e w2 ⟨⟨t, ht, rfl⟩, hrd2, hst⟩
  have hts := ends_small t ht
  go_wp2_with fail
  go_ret
  refine ⟨⟨s, t, hs, ht, rfl⟩, hrd2, ?_, (hb1.trans ((Below.refl n₀ w1).alloc hn1 _)).trans (hst.2.1.mono hB)⟩
  rw [hst.1]
  simp
  omega
end Go.Proofs.YtlonpaigfalbkaaDoor.Hub
