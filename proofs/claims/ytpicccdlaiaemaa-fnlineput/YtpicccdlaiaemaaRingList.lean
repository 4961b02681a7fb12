/-
  impl's list of a ring: a new list of its texts, in order.
-/
import Derived.Test.YtpicccdlaiaemaaRing
import Derived.OwnWalk
import Derived.Laws.OwnMore
namespace Go.Proofs.Ytpicccdlaiaemaa.Hub
open Go.RowKit
set_option linter.unusedVariables false

theorem info_str : (Try.prog.info? 9).map (fun i => (i.zero, i.size, i.bytes)) = some (some (.string ⟨#[]⟩), 1, 16) := by kernel_rfl

set_option maxRecDepth 100000 in
set_option maxHeartbeats 4000000 in
theorem list_any (r p b n : Nat) (S : Nat → ByteArray) (w : World) (hb : b ≤ 255) (h : RingAt w r p b n S) :
    Calls Try.prog 34 #[.pointer (some ⟨r, 0, none⟩)] w fun e w' => (∃ v, e = .returned v ∧ Own w' w.heap.size v n S) ∧ Below w.heap.size w w' := by
  obtain ⟨i0, hi0, hz0, hz1, hz2⟩ := info_parts info_str
  obtain ⟨hne, hn8, hr, C, hp, hC, hall⟩ := h
  have lr : r < w.heap.size := (Array.getElem?_eq_some_iff.1 hr).1
  have lp : p < w.heap.size := (Array.getElem?_eq_some_iff.1 hp).1
  have c0 : w.cell? ⟨r, 0, none⟩ = some (.slice (some ⟨p, 0, none⟩) 8 8) := cell_of w _ _ _ _ hr
  have c1 : w.cell? ⟨r, 1, none⟩ = some (.int .i64 b) := cell_of w _ _ _ _ hr
  have c2 : w.cell? ⟨r, 2, none⟩ = some (.int .i64 n) := cell_of w _ _ _ _ hr
  have HALL : Hid (∀ j, j < n → w.cell? ⟨p, (b + j) % 8, none⟩ = some (.string (S j))) := fun j hj => (cell_of w _ _ C _ hp).trans (hall j hj)
  clear hr hp hall
  obtain ⟨H, hH⟩ : ∃ H, H = w.heap.size := ⟨_, rfl⟩
  have HH : Hid (H = w.heap.size) := hH
  rw [← hH] at lr lp
  go_enter Try.func34, Try.ntmps34
  go_wp2_with fail
  clear hH
  go_loopw [3, 9] (fun v i wr => ∃ k : Nat, k ≤ n ∧ i = .int .i64 k ∧ Own wr H v k S ∧ Below H w wr) (fun _ i _ => n - (intOf i).toNat)
  case atStart => exact ⟨0, Nat.zero_le _, rfl, Own.nil _ _ _, Below.refl _ _⟩
  case round =>
    obtain ⟨k, hk, rfl, hown, bw⟩ := hrel
    by_cases hlt : k < n
    · have hsz := bw.size
      have hwH : w.heap.size = H := HH.out.symm
      have hlt2 := World.ownsRow.lt hown
      have d0 := (bw.cell (p := ⟨r, 0, none⟩) lr).trans c0
      have d1 := (bw.cell (p := ⟨r, 1, none⟩) lr).trans c1
      have d2 := (bw.cell (p := ⟨p, (b + k) % 8, none⟩) lp).trans (HALL.out k hlt)
      have cP := fun W x0 x1 => place_any r p b k hb (by omega) W x0 x1
      have hm : (b + k) % 8 < 8 := Nat.mod_lt _ (by omega)
      generalize (b + k) % 8 = m at *
      have i1 : (0 : Int) ≤ (m : Int) := by omega
      have i2 : (m : Int) < 8 := by omega
      have ar : u3.ownBlock ≠ some r := fun e => by have := (hlt2 r e).1; omega
      have ap : u3.ownBlock ≠ some p := fun e => by have := (hlt2 p e).1; omega
      have hb0 : H ≤ wr.heap.size := by omega
      have lr' : r < wr.heap.size := by omega
      have lp' : p < wr.heap.size := by omega
      have HSC : Hid (strVs S (k + 1) = strVs S k ++ [.string (S k)]) := strVs_succ S k
      have HOWN : Hid (Own wr H u3 k S) := hown
      have BW : Hid (Below H w wr) := bw
      obtain ⟨s, hs⟩ : ∃ s, S k = s := ⟨_, rfl⟩
      rw [hs] at d2
      have HS : Hid (S k = s) := hs
      clear hown bw hs hlt2 c0 c1 c2 hwH hsz
      go_wp2_with fail
      go_region_held3 (fun W => W.cell? ⟨r, 0, none⟩ = some (.slice (some ⟨p, 0, none⟩) 8 8) ∧ W.cell? ⟨r, 1, none⟩ = some (.int .i64 b) ∧ W.cell? ⟨p, m, none⟩ = some (.string s))
        (first
          | go_keep
          | (go_split_ands
             refine ⟨?_, ?_, ?_⟩
             · (rw [hgrow.cell_far _ (by simp; omega) (Ne.symm ar)]; assumption)
             · (rw [hgrow.cell_far _ (by simp; omega) (Ne.symm ar)]; assumption)
             · (rw [hgrow.cell_far _ (by simp; omega) (Ne.symm ap)]; assumption)))
        (first
          | (go_at_call 46; refine (cP _ ?_ ?_).mono ?_; (simp [*]); (simp [*]); rintro e w' ⟨rfl, rfl⟩)
          | (refine step_append_lies _ (by rfl) _ _ _ (by rfl) H 9 i0 _ 1 16 Try.underlying26 hi0 hz0 hz1 hz2 rfl (by omega) u3 k (strVs S k) (by rfl) ((World.ownsRow.alloc HOWN.out _).drew.drew)
              ⟨wr.heap.size, 0, none⟩ 1 1 [.string s] (by rfl) (by rfl) (World.news_of_block (cs := #[.string s]) (t := 9) (fr := (0, 0)) (heap_alloc_new wr _)) (by simp [Value.oneCell'])
              (by omega) (by show k + 1 ≤ 2 ^ 63 - 1; omega) (by omega) (by simp; omega) (wr.heap.size + 1) (by simp) ?_; intro gg cap w1 hown1 hgrow hat hlt1))
      have bA : Below H w ((wr.alloc (.cells #[.string s] 9)).drew.drew) := (BW.out.alloc hb0 _).drew.drew
      have bG : Below H w w1 := bA.trans ⟨hgrow.os, hgrow.tape, hgrow.output, hgrow.size, fun j hj => hgrow.block j (by simp; omega) (fun e => by have := (World.ownsRow.lt HOWN.out j e.symm).1; omega)⟩
      have hO : Own w1 H (.slice (some ⟨gg, 0, none⟩) (k + 1) cap) (k + 1) S := by
        unfold Own
        rw [HSC.out, HS.out]
        exact hown1
      have HO : Hid (Own w1 H (.slice (some ⟨gg, 0, none⟩) (k + 1) cap) (k + 1) S) := hO
      clear hO hown1 hgrow bA HOWN BW
      go_wp2_with fail
      exact ⟨⟨k + 1, by omega, rfl, HO.out, bG⟩, by simp [intOf]; omega⟩
    · obtain rfl : k = n := by omega
      have HO : Hid (Own wr H u3 k S) := hown
      obtain ⟨o5, c5, rfl⟩ := hown.shape
      clear hown
      go_wp2_with fail
      go_ret
      rw [← HH.out]
      exact ⟨⟨_, rfl, HO.out⟩, bw⟩
end Go.Proofs.Ytpicccdlaiaemaa.Hub
