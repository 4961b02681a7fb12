/-
  What the laws' own draws of a text give: one of the texts that the law's list has, with one of the endings that its second list has.
-/
import Derived.Test.YtocpbcghkphcgaaDraw
namespace Go.Proofs.Ytocpbcghkphcgaa.Hub
open Go.RowKit
set_option linter.unusedVariables false

set_option maxHeartbeats 1000000 in
theorem of_any (n₀ B p L m : Nat) (ls : List ByteArray) (hls : ls.length = m) (hp : p ≤ 100000) (hm : 1 ≤ m) (hm2 : m ≤ 100000) (w : World) (h : Rd n₀ w B p) (hLB : L ≠ B) (hL : w.heap[L]? = some (.cells (ls.map Value.string).toArray 9 (0, 0))) :
    Calls Try.prog 31 #[.pointer (some ⟨B, 0, none⟩), .slice (some ⟨L, 0, none⟩) m m] w fun e w' => (∃ s, s ∈ ls ∧ e = .returned (.string s)) ∧ Rd n₀ w' B (p + 1) ∧ Stepped B w w' := by
  go_enter Try.func31, Try.ntmps31
  go_wp2_with (go_at_call 30; refine (pick_any n₀ B p m hp hm hm2 _ h).mono ?_)
  rintro e w1 ⟨⟨k, hk, rfl⟩, hw⟩
  obtain ⟨hrd, hst⟩ := stepped_of h hw
  have hL1 := (hst.2.2 L hLB).trans hL
  have hk2 : k < ls.length := by omega
  have ck : w1.cell? ⟨L, k, none⟩ = some (.string ls[k]) := by simp [World.cell?, hL1, hk2]
  have hki : (k : Int) < (m : Int) := by omega
  clear hL hL1 hw
  generalize hsk : ls[k] = s at ck
  have hmem : s ∈ ls := by rw [← hsk]; exact List.getElem_mem _
  clear hsk
  go_wp2_with fail
  go_ret
  exact ⟨⟨s, hmem, rfl⟩, hrd, hst⟩

def texts : List ByteArray := [⟨#[104, 105]⟩, ⟨#[97, 32, 98]⟩, ⟨#[104, 105, 32, 116, 104, 101, 114, 101]⟩, ⟨#[]⟩, ⟨#[60, 38, 62, 39, 34]⟩, ⟨#[195, 169, 226, 130, 172, 240, 159, 152, 128]⟩, ⟨#[120, 9, 121, 10, 122]⟩, ⟨#[97, 124, 98, 92, 99]⟩, ⟨#[116, 101, 110, 32, 49, 48]⟩, ⟨#[72, 105]⟩, ⟨#[110, 111]⟩, ⟨#[105, 116, 32, 105, 115, 32, 97, 32, 103, 111, 111, 100, 32, 100, 97, 121, 32, 104, 101, 114, 101, 44, 32, 97, 108, 108, 32, 111, 102, 32, 117, 115, 32, 115, 97, 121, 32, 115, 111]⟩]
def ends : List ByteArray := [⟨#[]⟩, ⟨#[]⟩, ⟨#[]⟩, ⟨#[0]⟩, ⟨#[195]⟩, ⟨#[237, 160, 128]⟩, ⟨#[244, 144, 128, 128]⟩, ⟨#[192, 128]⟩, ⟨#[11]⟩, ⟨#[239, 191, 190]⟩, ⟨#[226, 130]⟩]
theorem texts_small : ∀ s ∈ texts, s.size ≤ 100 := by
  have h : (texts.all fun s => decide (s.size ≤ 100)) = true := by kernel_rfl
  exact fun s hs => of_decide_eq_true (List.all_eq_true.1 h s hs)
theorem ends_small : ∀ s ∈ ends, s.size ≤ 100 := by
  have h : (ends.all fun s => decide (s.size ≤ 100)) = true := by kernel_rfl
  exact fun s hs => of_decide_eq_true (List.all_eq_true.1 h s hs)
theorem rd_lt {n₀ B p : Nat} {W : World} (h : Rd n₀ W B p) : B < W.heap.size := by
  obtain ⟨_, _, _, _, _, hh⟩ := h
  exact (Array.getElem?_eq_some_iff.1 hh).1
end Go.Proofs.Ytocpbcghkphcgaa.Hub
