/-
  What spec.DrawPathPut and spec.DrawPathGet draw: some steps; some text of at most 600 bytes.
-/
import Derived.Test.YtocpbcghkphcgaaDrawPath
import Derived.Test.YtocpbcghkphcgaaPathPutS
import Derived.Test.YtocpbcghkphcgaaArgB
namespace Go.Proofs.Ytocpbcghkphcgaa.Hub
open Go.RowKit
set_option linter.unusedVariables false
set_option linter.unusedSimpArgs false

set_option maxHeartbeats 1000000 in
theorem drawPathPut_any (v : Value) (n : Nat) (w : World) (h : BytesAt w.heap.size w v n) :
    Calls Try.prog 11 #[v] w fun e w' => (∃ (o : Option Addr) (cap n : Nat) (D : Nat → Bool) (N A T : Nat → ByteArray), e = .returned (.slice o n cap) ∧ StepAt w' (.slice o n cap) n D N A T ∧ n ≤ 6 ∧ ∀ j, j < n → (N j).size ≤ 100 ∧ (A j).size ≤ 100 ∧ (T j).size ≤ 100) ∧ Below w.heap.size w w' := by
  go_enter Try.func11, Try.ntmps11
  go_wp2_with (go_at_call 24; refine (open_any v n _ h).mono ?_)
  rintro e w1 ⟨rfl, hrd, hb1⟩
  go_wp2_with fail
  refine (path_any w.heap.size _ 0 (by omega) _ hb1.size hrd).mono ?_
  rintro e w2 ⟨⟨o, cap, k, D, N, A, T, rfl, hO, hk, hz⟩, _, hb2, _⟩
  have HS : Hid (StepAt w2 (.slice o k cap) k D N A T) := OwnS.step hO
  have HZ : Hid (∀ j, j < k → (N j).size ≤ 100 ∧ (A j).size ≤ 100 ∧ (T j).size ≤ 100) := hz
  clear hO hz
  go_wp2_with fail
  go_ret
  first
    | exact ⟨⟨o, cap, k, D, N, A, T, rfl, HS.out, hk, HZ.out⟩, hb1.trans hb2⟩
    | exact ⟨⟨o, cap, k, rfl, D, N, A, T, HS.out, hk, HZ.out⟩, hb1.trans hb2⟩
def pputs : List ByteArray := [⟨#[47]⟩, ⟨#[91]⟩, ⟨#[39]⟩, ⟨#[93]⟩, ⟨#[42]⟩, ⟨#[47, 47]⟩]
theorem pputs_in : ∀ s ∈ pputs, s.size ≤ 100 := few_small pputs (by kernel_rfl)
theorem pput_small {D : Nat → Bool} {N A T : Nat → ByteArray} {n : Nat} : (pputT D N A T n).size ≤ 225 := by
  unfold pputT
  split
  · rename_i hp
    unfold pathT at hp
    rw [Bool.and_eq_true] at hp
    have h5 := (of_decide_eq_true hp.1).2
    have h := putL_len (D := D) hp.2 n (Nat.le_refl _)
    show (putL D N A T n).toArray.size ≤ 225
    simp
    omega
  · exact Nat.zero_le _

set_option maxRecDepth 100000 in
set_option maxHeartbeats 2000000 in
theorem drawPathGet_any (v : Value) (n : Nat) (w : World) (h : BytesAt w.heap.size w v n) :
    Calls Try.prog 16 #[v] w fun e w' => (∃ x : ByteArray, x.size ≤ 600 ∧ e = .returned (.string x)) ∧ Below w.heap.size w w' := by
  go_enter Try.func16, Try.ntmps16
  go_wp2_with (go_at_call 24; refine (open_any v n _ h).mono ?_)
  rintro e w1 ⟨rfl, hrd, hb1⟩
  go_wp2_with fail
  refine (path_any w.heap.size _ 0 (by omega) _ hb1.size hrd).mono ?_
  rintro e w2 ⟨⟨o, cap, k, D, N, A, T, rfl, hO, hk, hz⟩, ⟨q, hq, hr2⟩, hb2, hn2⟩
  have c2 := hb1.trans hb2
  have cP := specPathPut_any (.slice o k cap) k D N A T w2 (OwnS.step hO) (fun j hj => by have := hz j hj; omega)
  obtain ⟨S, hS⟩ : ∃ S, pputT D N A T k = S := ⟨_, rfl⟩
  have hsz : S.size ≤ 225 := by rw [← hS]; exact pput_small
  rw [hS] at cP
  clear hO hz hS hb1 hb2
  go_wp2_with fail
  refine cP.mono ?_
  rintro e w3 ⟨rfl, b3⟩
  have c3 := c2.trans (b3.mono hn2)
  have hr3 : Rd w.heap.size w3 w.heap.size q := by
    obtain ⟨hB2, v9, m9, hv9, hmm, hh⟩ := hr2
    exact ⟨hB2, v9, m9, hv9.below (b3.mono hn2), hmm, (b3.block w.heap.size (Array.getElem?_eq_some_iff.1 hh).1).trans hh⟩
  clear cP b3 hr2
  go_wp2_with fail
  refine (pick_any w.heap.size w.heap.size q (S.size + 1) (by omega) (by omega) (by omega) _ hr3).mono ?_
  rintro e w4 ⟨⟨i, hi, rfl⟩, hw4⟩
  obtain ⟨hr4, hst4⟩ := stepped_of hr3 hw4
  have c4 := c3.trans (hst4.2.1)
  have hiI : (i : Int) ≤ (S.size : Int) := by omega
  clear hw4 hst4
  go_wp2_with fail
  refine (pick_any w.heap.size w.heap.size (q + 1) 5 (by omega) (by omega) (by omega) _ hr4).mono ?_
  rintro e w5 ⟨⟨j, hj, rfl⟩, hw5⟩
  obtain ⟨hr5, hst5⟩ := stepped_of hr4 hw5
  have c5 := c4.trans (hst5.2.1)
  clear hw5 hst5
  rcases (by omega : j = 0 ∨ j = 1 ∨ 2 ≤ j) with rfl | rfl | hj2
  · have hlt5 := rd_lt hr5
    have e1 : (S.extract 0 i).size ≤ 225 := by rw [ByteArray.size_extract]; omega
    have e2 : (S.extract i S.size).size ≤ 225 := by rw [ByteArray.size_extract]; omega
    go_wp2_with fail
    go_region_with (go_at_call 31; refine (of_any w.heap.size w.heap.size (q + 1 + 1) w5.heap.size 6 pputs rfl (by omega) (by omega) (by omega) _ (hr5.alloc c5.size _).drew (by omega) (World.alloc_heap_new _ _)).mono ?_; rintro e w6 ⟨⟨x, hx, rfl⟩, hrd6, hst6⟩; have hxs := pputs_in x hx)
    have c6 : Below w.heap.size w w6 := (c5.alloc c5.size _).drew.trans hst6.2.1
    go_wp2_with fail
    go_ret
    refine ⟨⟨_, ?_, rfl⟩, c6⟩
    simp only [ByteArray.size_append]
    omega
  · have hj0 : ¬ ((1 : Nat) : Int) = 0 := by omega
    go_wp2_with fail
    go_ret
    exact ⟨⟨_, by rw [ByteArray.size_extract]; omega, rfl⟩, c5⟩
  · have hj0 : ¬ (j : Int) = 0 := by omega
    have hj1 : ¬ (j : Int) = 1 := by omega
    go_wp2_with fail
    go_ret
    exact ⟨⟨S, by omega, rfl⟩, c5⟩
end Go.Proofs.Ytocpbcghkphcgaa.Hub
