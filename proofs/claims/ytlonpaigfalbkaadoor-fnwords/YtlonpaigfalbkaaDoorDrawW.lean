/-
  What the law's own draw of words gives: a text of at most 500 bytes; the law's own hbTexts at equal lists.
-/
import Derived.Test.YtlonpaigfalbkaaDoorDrawB
import Derived.Test.YtlonpaigfalbkaaDoorLineBase
namespace Go.Proofs.YtlonpaigfalbkaaDoor.Hub
open Go.RowKit
set_option linter.unusedVariables false

def wmid : List ByteArray := [⟨#[]⟩, ⟨#[32]⟩, ⟨#[45]⟩]
theorem wmid_small : ∀ s ∈ wmid, s.size ≤ 100 := by
  have h : (wmid.all fun s => decide (s.size ≤ 100)) = true := by kernel_rfl
  exact fun s hs => of_decide_eq_true (List.all_eq_true.1 h s hs)
set_option maxHeartbeats 1000000 in
theorem drawWordsOf_any (v : Value) (n : Nat) (w : World) (h : BytesAt w.heap.size w v n) :
    Calls Tryd.prog 4 #[v] w fun e w' => (∃ s : ByteArray, s.size ≤ 500 ∧ e = .returned (.string s)) ∧ Below w.heap.size w w' := by
  go_enter Tryd.func4, Tryd.ntmps4
  go_wp2_with (go_at_call 8; refine (open_any v n _ h).mono ?_)
  rintro e w1 ⟨rfl, hrd, hb1⟩
  go_wp2_with fail
  refine (any_any w.heap.size _ 0 (by omega) _ hb1.size hrd).mono ?_
  rintro e w2 ⟨⟨s, t, hs, ht, rfl⟩, hrd2, hn2, hb2⟩
  have hlt := rd_lt hrd2
  have q1 := texts_small s hs
  have q2 := ends_small t ht
  obtain ⟨a, ha⟩ : ∃ a, s ++ t = a := ⟨_, rfl⟩
  have q3 : a.size ≤ 200 := by rw [← ha, ByteArray.size_append]; omega
  rw [ha]
  clear ha hs ht q1 q2 hrd
  go_wp2_with fail
  refine (of_any w.heap.size _ _ w2.heap.size 3 wmid rfl (by omega) (by omega) (by omega) _ (hrd2.alloc hn2 _) (by omega) (World.alloc_heap_new _ _)).mono ?_
  rintro e w3 ⟨⟨m, hm, rfl⟩, hrd3, hst⟩
  have q4 := wmid_small m hm
  have hn3 : w.heap.size ≤ w3.heap.size := by rw [hst.1]; simp; omega
  have hb3 : Below w.heap.size w w3 := (hb1.trans hb2).trans (((Below.refl w.heap.size w2).alloc hn2 _).trans (hst.2.1.mono hrd2.1))
  clear hst hm hb1 hb2
  go_wp2_with fail
  refine (any_any w.heap.size _ _ (by omega) _ hn3 hrd3).mono ?_
  rintro e w4 ⟨⟨s2, t2, hs2, ht2, rfl⟩, _, _, hb4⟩
  have q5 := texts_small s2 hs2
  have q6 := ends_small t2 ht2
  obtain ⟨c, hc⟩ : ∃ c, s2 ++ t2 = c := ⟨_, rfl⟩
  have q7 : c.size ≤ 200 := by rw [← hc, ByteArray.size_append]; omega
  have q8 : (a ++ m).size ≤ 300 := by rw [ByteArray.size_append]; omega
  rw [hc]
  clear hc hs2 ht2
  go_wp2_with fail
  go_ret
  exact ⟨⟨_, by rw [ByteArray.size_append]; omega, rfl⟩, hb3.trans hb4⟩
set_option maxRecDepth 100000 in
set_option maxHeartbeats 2000000 in
theorem hbTexts_same (v1 v2 : Value) (n : Nat) (S : Nat → ByteArray) (w : World) (hm1 : StrAt w v1 n S) (hm2 : StrAt w v2 n S) :
    Calls Tryd.prog 6 #[v1, v2] w fun e w' => e = .returned (.bool true) ∧ Below w.heap.size w w' := by
  obtain ⟨o1, cap1, rfl, g1, g1', hc1⟩ := hm1
  obtain ⟨o2, cap2, rfl, g2, g2', hc2⟩ := hm2
  have s1 : cap1 ≤ 9223372036854775807 := g1'.1
  have s2 : cap2 ≤ 9223372036854775807 := g2'.1
  clear g1' g2'
  have HC1 : Hid (∀ j, j < n → ∃ b f : Nat, o1 = some ⟨b, f, none⟩ ∧ b < w.heap.size ∧ w.cell? ⟨b, f + j, none⟩ = some (.string (S j))) := hc1
  have HC2 : Hid (∀ j, j < n → ∃ b f : Nat, o2 = some ⟨b, f, none⟩ ∧ b < w.heap.size ∧ w.cell? ⟨b, f + j, none⟩ = some (.string (S j))) := hc2
  clear hc1 hc2
  go_enter Tryd.func6, Tryd.ntmps6
  go_wp2_with fail
  go_loopw [5] (fun i wr => ∃ k : Nat, k ≤ n ∧ i = .int .i64 k ∧ Below w.heap.size w wr) (fun i _ => n - (intOf i).toNat)
  case atStart => exact ⟨0, Nat.zero_le _, rfl, Below.refl _ _⟩
  case round =>
    obtain ⟨k, hk, rfl, bw⟩ := hrel
    by_cases hlt : k < n
    · obtain ⟨b, f, ho, hb, c0⟩ := HC1.out k hlt
      obtain ⟨b2, f2, ho2, hb2, e0⟩ := HC2.out k hlt
      subst ho ho2
      have i1 : (0 : Int) ≤ (k : Int) := by omega
      have i2 : (k : Int) < (n : Int) := by omega
      have d0 := (bw.cell (p := ⟨b, f + k, none⟩) hb).trans c0
      have d1 := (bw.cell (p := ⟨b2, f2 + k, none⟩) hb2).trans e0
      have b1 := bw.drew
      clear c0 e0
      generalize S k = s at *
      go_wp2_with fail
      go_region
      go_wp2_with fail
      refine ⟨⟨k + 1, by omega, rfl, b1⟩, by simp [intOf]; omega⟩
    · obtain rfl : k = n := by omega
      go_wp2_with fail
      go_ret
      exact ⟨rfl, bw⟩

end Go.Proofs.YtlonpaigfalbkaaDoor.Hub
