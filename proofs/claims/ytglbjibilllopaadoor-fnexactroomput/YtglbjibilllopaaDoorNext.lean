/-
  The model's l1Next: at a place within a text it answers what begins there, by the bytes from there on: the plain function nextN. No condition but that the place is within the text.
-/
import Derived.Test.YtglbjibilllopaaDoorSigns
import Derived.Handy
namespace Go.Proofs.YtglbjibilllopaaDoor.Hub
open Go.RowKit
set_option linter.unusedVariables false
theorem ret_two {a b c d : Int} (h1 : a = c) (h2 : b = d) : Ending.returned (.tuple #[.int .i64 a, .int .i64 b]) = .returned (.tuple #[.int .i64 c, .int .i64 d]) := by rw [h1, h2]
theorem l1In_cont (b : Nat) (w : World) : Calls Tryd.prog 36 #[.int .i64 (b : Int), .int .i64 128, .int .i64 191] w fun e w' => e = .returned (.bool (contB b)) ∧ w' = w := by
  refine (l1In_any (b : Int) 128 191 w).mono ?_
  rintro e w' ⟨rfl, rfl⟩
  exact ⟨ret_bool (by unfold contB; rw [decide_eq_decide]; omega), rfl⟩
theorem finN_yes {n k : Int} (h : signB n = true) : finN n k = (n, k) := by unfold finN; rw [if_pos h]
theorem finN_no {n k : Int} (h : signB n = false) : finN n k = (0, 0) := by unfold finN; rw [h]; rfl

set_option maxRecDepth 100000 in
set_option maxHeartbeats 1000000 in
theorem next0 (s : ByteArray) (i b0 b1 b2 b3 : Nat) (w : World) (hs : s.size ≤ 9223372036854775800) (hi : i < s.size) (e0 : s[i].toNat = b0) (hb0 : b0 < 256) (hb : (128 ≤ b0 ∧ b0 < 194) ∨ 244 < b0) :
    Calls Tryd.prog 82 #[.string s, .int .i64 i] w fun e w' => e = .returned (.tuple #[.int .i64 ((0 : Int), (0 : Int)).1, .int .i64 ((0 : Int), (0 : Int)).2]) ∧ Below w.heap.size w w' := by
  have hl := leadN_none hb
  go_enter Tryd.func82, Tryd.ntmps82
  go_wp2_with (first | (go_at_call 94; refine (l1Lead_any _ (by omega) _).mono ?_; rintro e w' ⟨rfl, rfl⟩))
  refine wp_loop_rounds 5 ?_
  repeat any_goals (rw [rounds_succ]; go_wp2_with (first | (go_at_call 36; refine (l1In_cont _ _).mono ?_; rintro e w' ⟨rfl, rfl⟩) | (go_at_call 95; refine (l1Second_any _ _ _).mono ?_; rintro e w' ⟨rfl, rfl⟩) | (go_at_call 96; refine (l1Sign_any _ _).mono ?_; rintro e w' ⟨rfl, rfl⟩)))
  go_ret2
  exact ⟨ret_two rfl rfl, by go_grown⟩

set_option maxRecDepth 100000 in
set_option maxHeartbeats 1000000 in
theorem next1 (s : ByteArray) (i b0 b1 b2 b3 : Nat) (w : World) (hs : s.size ≤ 9223372036854775800) (hi : i < s.size) (e0 : s[i].toNat = b0) (hb0 : b0 < 256) (hb : b0 < 128) :
    Calls Tryd.prog 82 #[.string s, .int .i64 i] w fun e w' => e = .returned (.tuple #[.int .i64 (finN b0 1).1, .int .i64 (finN b0 1).2]) ∧ Below w.heap.size w w' := by
  have hl := leadN_one hb
  cases hsg : signB (b0 : Int)
  all_goals
    go_enter Tryd.func82, Tryd.ntmps82
    go_wp2_with (first | (go_at_call 94; refine (l1Lead_any _ (by omega) _).mono ?_; rintro e w' ⟨rfl, rfl⟩))
    refine wp_loop_rounds 5 ?_
    repeat any_goals (rw [rounds_succ]; go_wp2_with (first | (go_at_call 36; refine (l1In_cont _ _).mono ?_; rintro e w' ⟨rfl, rfl⟩) | (go_at_call 95; refine (l1Second_any _ _ _).mono ?_; rintro e w' ⟨rfl, rfl⟩) | (go_at_call 96; refine (l1Sign_any _ _).mono ?_; rintro e w' ⟨rfl, rfl⟩)))
    go_ret2
  · exact ⟨ret_two (by rw [finN_no hsg]) (by rw [finN_no hsg]), by go_grown⟩
  · exact ⟨ret_two (by rw [finN_yes hsg]) (by rw [finN_yes hsg]), by go_grown⟩

set_option maxRecDepth 100000 in
set_option maxHeartbeats 1000000 in
theorem next2_m1 (s : ByteArray) (i b0 b1 b2 b3 : Nat) (w : World) (hs : s.size ≤ 9223372036854775800) (hi : i < s.size) (e0 : s[i].toNat = b0) (hb0 : b0 < 256) (hb : 194 ≤ b0 ∧ b0 ≤ 223) (h1 : s.size ≤ i + 1) :
    Calls Tryd.prog 82 #[.string s, .int .i64 i] w fun e w' => e = .returned (.tuple #[.int .i64 ((0 : Int), (-1 : Int)).1, .int .i64 ((0 : Int), (-1 : Int)).2]) ∧ Below w.heap.size w w' := by
  have hl := leadN_two hb
  go_enter Tryd.func82, Tryd.ntmps82
  go_wp2_with (first | (go_at_call 94; refine (l1Lead_any _ (by omega) _).mono ?_; rintro e w' ⟨rfl, rfl⟩))
  refine wp_loop_rounds 5 ?_
  repeat any_goals (rw [rounds_succ]; go_wp2_with (first | (go_at_call 36; refine (l1In_cont _ _).mono ?_; rintro e w' ⟨rfl, rfl⟩) | (go_at_call 95; refine (l1Second_any _ _ _).mono ?_; rintro e w' ⟨rfl, rfl⟩) | (go_at_call 96; refine (l1Sign_any _ _).mono ?_; rintro e w' ⟨rfl, rfl⟩)))
  go_ret2
  exact ⟨ret_two rfl rfl, by go_grown⟩

set_option maxRecDepth 100000 in
set_option maxHeartbeats 1000000 in
theorem next2_no1 (s : ByteArray) (i b0 b1 b2 b3 : Nat) (w : World) (hs : s.size ≤ 9223372036854775800) (hi : i < s.size) (e0 : s[i].toNat = b0) (hb0 : b0 < 256) (hb : 194 ≤ b0 ∧ b0 ≤ 223) (h1 : i + 1 < s.size) (e1 : s[i + 1].toNat = b1) (l1 : b1 < 256) (c1 : contB b1 = false) :
    Calls Tryd.prog 82 #[.string s, .int .i64 i] w fun e w' => e = .returned (.tuple #[.int .i64 ((0 : Int), (0 : Int)).1, .int .i64 ((0 : Int), (0 : Int)).2]) ∧ Below w.heap.size w w' := by
  have hl := leadN_two hb
  go_enter Tryd.func82, Tryd.ntmps82
  go_wp2_with (first | (go_at_call 94; refine (l1Lead_any _ (by omega) _).mono ?_; rintro e w' ⟨rfl, rfl⟩))
  refine wp_loop_rounds 5 ?_
  repeat any_goals (rw [rounds_succ]; go_wp2_with (first | (go_at_call 36; refine (l1In_cont _ _).mono ?_; rintro e w' ⟨rfl, rfl⟩) | (go_at_call 95; refine (l1Second_any _ _ _).mono ?_; rintro e w' ⟨rfl, rfl⟩) | (go_at_call 96; refine (l1Sign_any _ _).mono ?_; rintro e w' ⟨rfl, rfl⟩)))
  go_ret2
  exact ⟨ret_two rfl rfl, by go_grown⟩

set_option maxRecDepth 100000 in
set_option maxHeartbeats 1000000 in
theorem next2_sec (s : ByteArray) (i b0 b1 b2 b3 : Nat) (w : World) (hs : s.size ≤ 9223372036854775800) (hi : i < s.size) (e0 : s[i].toNat = b0) (hb0 : b0 < 256) (hb : 194 ≤ b0 ∧ b0 ≤ 223) (h1 : i + 1 < s.size) (e1 : s[i + 1].toNat = b1) (l1 : b1 < 256) (c1 : contB b1 = true) (hsec : secondB b0 b1 = false) :
    Calls Tryd.prog 82 #[.string s, .int .i64 i] w fun e w' => e = .returned (.tuple #[.int .i64 ((0 : Int), (0 : Int)).1, .int .i64 ((0 : Int), (0 : Int)).2]) ∧ Below w.heap.size w w' := by
  have hl := leadN_two hb
  go_enter Tryd.func82, Tryd.ntmps82
  go_wp2_with (first | (go_at_call 94; refine (l1Lead_any _ (by omega) _).mono ?_; rintro e w' ⟨rfl, rfl⟩))
  refine wp_loop_rounds 5 ?_
  repeat any_goals (rw [rounds_succ]; go_wp2_with (first | (go_at_call 36; refine (l1In_cont _ _).mono ?_; rintro e w' ⟨rfl, rfl⟩) | (go_at_call 95; refine (l1Second_any _ _ _).mono ?_; rintro e w' ⟨rfl, rfl⟩) | (go_at_call 96; refine (l1Sign_any _ _).mono ?_; rintro e w' ⟨rfl, rfl⟩)))
  go_ret2
  exact ⟨ret_two rfl rfl, by go_grown⟩

set_option maxRecDepth 100000 in
set_option maxHeartbeats 1000000 in
theorem next2_fin (s : ByteArray) (i b0 b1 b2 b3 : Nat) (w : World) (hs : s.size ≤ 9223372036854775800) (hi : i < s.size) (e0 : s[i].toNat = b0) (hb0 : b0 < 256) (hb : 194 ≤ b0 ∧ b0 ≤ 223) (h1 : i + 1 < s.size) (e1 : s[i + 1].toNat = b1) (l1 : b1 < 256) (c1 : contB b1 = true) (hsec : secondB b0 b1 = true) :
    Calls Tryd.prog 82 #[.string s, .int .i64 i] w fun e w' => e = .returned (.tuple #[.int .i64 (finN ((b0 : Int) % 32 * 64 + b1 - 128) 2).1, .int .i64 (finN ((b0 : Int) % 32 * 64 + b1 - 128) 2).2]) ∧ Below w.heap.size w w' := by
  have hl := leadN_two hb
  cases hsg : signB ((b0 : Int) % 32 * 64 + b1 - 128)
  all_goals
    go_enter Tryd.func82, Tryd.ntmps82
    go_wp2_with (first | (go_at_call 94; refine (l1Lead_any _ (by omega) _).mono ?_; rintro e w' ⟨rfl, rfl⟩))
    refine wp_loop_rounds 5 ?_
    repeat any_goals (rw [rounds_succ]; go_wp2_with (first | (go_at_call 36; refine (l1In_cont _ _).mono ?_; rintro e w' ⟨rfl, rfl⟩) | (go_at_call 95; refine (l1Second_any _ _ _).mono ?_; rintro e w' ⟨rfl, rfl⟩) | (go_at_call 96; refine (l1Sign_any _ _).mono ?_; rintro e w' ⟨rfl, rfl⟩)))
    go_ret2
  · exact ⟨ret_two (by rw [finN_no hsg]) (by rw [finN_no hsg]), by go_grown⟩
  · exact ⟨ret_two (by rw [finN_yes hsg]) (by rw [finN_yes hsg]), by go_grown⟩

set_option maxRecDepth 100000 in
set_option maxHeartbeats 1000000 in
theorem next3_m1 (s : ByteArray) (i b0 b1 b2 b3 : Nat) (w : World) (hs : s.size ≤ 9223372036854775800) (hi : i < s.size) (e0 : s[i].toNat = b0) (hb0 : b0 < 256) (hb : 224 ≤ b0 ∧ b0 ≤ 239) (h1 : s.size ≤ i + 1) :
    Calls Tryd.prog 82 #[.string s, .int .i64 i] w fun e w' => e = .returned (.tuple #[.int .i64 ((0 : Int), (-1 : Int)).1, .int .i64 ((0 : Int), (-1 : Int)).2]) ∧ Below w.heap.size w w' := by
  have hl := leadN_three hb
  go_enter Tryd.func82, Tryd.ntmps82
  go_wp2_with (first | (go_at_call 94; refine (l1Lead_any _ (by omega) _).mono ?_; rintro e w' ⟨rfl, rfl⟩))
  refine wp_loop_rounds 5 ?_
  repeat any_goals (rw [rounds_succ]; go_wp2_with (first | (go_at_call 36; refine (l1In_cont _ _).mono ?_; rintro e w' ⟨rfl, rfl⟩) | (go_at_call 95; refine (l1Second_any _ _ _).mono ?_; rintro e w' ⟨rfl, rfl⟩) | (go_at_call 96; refine (l1Sign_any _ _).mono ?_; rintro e w' ⟨rfl, rfl⟩)))
  go_ret2
  exact ⟨ret_two rfl rfl, by go_grown⟩

set_option maxRecDepth 100000 in
set_option maxHeartbeats 1000000 in
theorem next3_no1 (s : ByteArray) (i b0 b1 b2 b3 : Nat) (w : World) (hs : s.size ≤ 9223372036854775800) (hi : i < s.size) (e0 : s[i].toNat = b0) (hb0 : b0 < 256) (hb : 224 ≤ b0 ∧ b0 ≤ 239) (h1 : i + 1 < s.size) (e1 : s[i + 1].toNat = b1) (l1 : b1 < 256) (c1 : contB b1 = false) :
    Calls Tryd.prog 82 #[.string s, .int .i64 i] w fun e w' => e = .returned (.tuple #[.int .i64 ((0 : Int), (0 : Int)).1, .int .i64 ((0 : Int), (0 : Int)).2]) ∧ Below w.heap.size w w' := by
  have hl := leadN_three hb
  go_enter Tryd.func82, Tryd.ntmps82
  go_wp2_with (first | (go_at_call 94; refine (l1Lead_any _ (by omega) _).mono ?_; rintro e w' ⟨rfl, rfl⟩))
  refine wp_loop_rounds 5 ?_
  repeat any_goals (rw [rounds_succ]; go_wp2_with (first | (go_at_call 36; refine (l1In_cont _ _).mono ?_; rintro e w' ⟨rfl, rfl⟩) | (go_at_call 95; refine (l1Second_any _ _ _).mono ?_; rintro e w' ⟨rfl, rfl⟩) | (go_at_call 96; refine (l1Sign_any _ _).mono ?_; rintro e w' ⟨rfl, rfl⟩)))
  go_ret2
  exact ⟨ret_two rfl rfl, by go_grown⟩

set_option maxRecDepth 100000 in
set_option maxHeartbeats 1000000 in
theorem next3_sec (s : ByteArray) (i b0 b1 b2 b3 : Nat) (w : World) (hs : s.size ≤ 9223372036854775800) (hi : i < s.size) (e0 : s[i].toNat = b0) (hb0 : b0 < 256) (hb : 224 ≤ b0 ∧ b0 ≤ 239) (h1 : i + 1 < s.size) (e1 : s[i + 1].toNat = b1) (l1 : b1 < 256) (c1 : contB b1 = true) (hsec : secondB b0 b1 = false) :
    Calls Tryd.prog 82 #[.string s, .int .i64 i] w fun e w' => e = .returned (.tuple #[.int .i64 ((0 : Int), (0 : Int)).1, .int .i64 ((0 : Int), (0 : Int)).2]) ∧ Below w.heap.size w w' := by
  have hl := leadN_three hb
  go_enter Tryd.func82, Tryd.ntmps82
  go_wp2_with (first | (go_at_call 94; refine (l1Lead_any _ (by omega) _).mono ?_; rintro e w' ⟨rfl, rfl⟩))
  refine wp_loop_rounds 5 ?_
  repeat any_goals (rw [rounds_succ]; go_wp2_with (first | (go_at_call 36; refine (l1In_cont _ _).mono ?_; rintro e w' ⟨rfl, rfl⟩) | (go_at_call 95; refine (l1Second_any _ _ _).mono ?_; rintro e w' ⟨rfl, rfl⟩) | (go_at_call 96; refine (l1Sign_any _ _).mono ?_; rintro e w' ⟨rfl, rfl⟩)))
  go_ret2
  exact ⟨ret_two rfl rfl, by go_grown⟩

set_option maxRecDepth 100000 in
set_option maxHeartbeats 1000000 in
theorem next3_m2 (s : ByteArray) (i b0 b1 b2 b3 : Nat) (w : World) (hs : s.size ≤ 9223372036854775800) (hi : i < s.size) (e0 : s[i].toNat = b0) (hb0 : b0 < 256) (hb : 224 ≤ b0 ∧ b0 ≤ 239) (h1 : i + 1 < s.size) (e1 : s[i + 1].toNat = b1) (l1 : b1 < 256) (c1 : contB b1 = true) (hsec : secondB b0 b1 = true) (h2 : s.size ≤ i + 2) :
    Calls Tryd.prog 82 #[.string s, .int .i64 i] w fun e w' => e = .returned (.tuple #[.int .i64 ((0 : Int), (-1 : Int)).1, .int .i64 ((0 : Int), (-1 : Int)).2]) ∧ Below w.heap.size w w' := by
  have hl := leadN_three hb
  go_enter Tryd.func82, Tryd.ntmps82
  go_wp2_with (first | (go_at_call 94; refine (l1Lead_any _ (by omega) _).mono ?_; rintro e w' ⟨rfl, rfl⟩))
  refine wp_loop_rounds 5 ?_
  repeat any_goals (rw [rounds_succ]; go_wp2_with (first | (go_at_call 36; refine (l1In_cont _ _).mono ?_; rintro e w' ⟨rfl, rfl⟩) | (go_at_call 95; refine (l1Second_any _ _ _).mono ?_; rintro e w' ⟨rfl, rfl⟩) | (go_at_call 96; refine (l1Sign_any _ _).mono ?_; rintro e w' ⟨rfl, rfl⟩)))
  go_ret2
  exact ⟨ret_two rfl rfl, by go_grown⟩

set_option maxRecDepth 100000 in
set_option maxHeartbeats 1000000 in
theorem next3_no2 (s : ByteArray) (i b0 b1 b2 b3 : Nat) (w : World) (hs : s.size ≤ 9223372036854775800) (hi : i < s.size) (e0 : s[i].toNat = b0) (hb0 : b0 < 256) (hb : 224 ≤ b0 ∧ b0 ≤ 239) (h1 : i + 1 < s.size) (e1 : s[i + 1].toNat = b1) (l1 : b1 < 256) (c1 : contB b1 = true) (hsec : secondB b0 b1 = true) (h2 : i + 2 < s.size) (e2 : s[i + 2].toNat = b2) (l2 : b2 < 256) (c2 : contB b2 = false) :
    Calls Tryd.prog 82 #[.string s, .int .i64 i] w fun e w' => e = .returned (.tuple #[.int .i64 ((0 : Int), (0 : Int)).1, .int .i64 ((0 : Int), (0 : Int)).2]) ∧ Below w.heap.size w w' := by
  have hl := leadN_three hb
  go_enter Tryd.func82, Tryd.ntmps82
  go_wp2_with (first | (go_at_call 94; refine (l1Lead_any _ (by omega) _).mono ?_; rintro e w' ⟨rfl, rfl⟩))
  refine wp_loop_rounds 5 ?_
  repeat any_goals (rw [rounds_succ]; go_wp2_with (first | (go_at_call 36; refine (l1In_cont _ _).mono ?_; rintro e w' ⟨rfl, rfl⟩) | (go_at_call 95; refine (l1Second_any _ _ _).mono ?_; rintro e w' ⟨rfl, rfl⟩) | (go_at_call 96; refine (l1Sign_any _ _).mono ?_; rintro e w' ⟨rfl, rfl⟩)))
  go_ret2
  exact ⟨ret_two rfl rfl, by go_grown⟩

set_option maxRecDepth 100000 in
set_option maxHeartbeats 1000000 in
theorem next3_fin (s : ByteArray) (i b0 b1 b2 b3 : Nat) (w : World) (hs : s.size ≤ 9223372036854775800) (hi : i < s.size) (e0 : s[i].toNat = b0) (hb0 : b0 < 256) (hb : 224 ≤ b0 ∧ b0 ≤ 239) (h1 : i + 1 < s.size) (e1 : s[i + 1].toNat = b1) (l1 : b1 < 256) (c1 : contB b1 = true) (hsec : secondB b0 b1 = true) (h2 : i + 2 < s.size) (e2 : s[i + 2].toNat = b2) (l2 : b2 < 256) (c2 : contB b2 = true) :
    Calls Tryd.prog 82 #[.string s, .int .i64 i] w fun e w' => e = .returned (.tuple #[.int .i64 (finN (((b0 : Int) % 16 * 64 + b1 - 128) * 64 + b2 - 128) 3).1, .int .i64 (finN (((b0 : Int) % 16 * 64 + b1 - 128) * 64 + b2 - 128) 3).2]) ∧ Below w.heap.size w w' := by
  have hl := leadN_three hb
  cases hsg : signB (((b0 : Int) % 16 * 64 + b1 - 128) * 64 + b2 - 128)
  all_goals
    go_enter Tryd.func82, Tryd.ntmps82
    go_wp2_with (first | (go_at_call 94; refine (l1Lead_any _ (by omega) _).mono ?_; rintro e w' ⟨rfl, rfl⟩))
    refine wp_loop_rounds 5 ?_
    repeat any_goals (rw [rounds_succ]; go_wp2_with (first | (go_at_call 36; refine (l1In_cont _ _).mono ?_; rintro e w' ⟨rfl, rfl⟩) | (go_at_call 95; refine (l1Second_any _ _ _).mono ?_; rintro e w' ⟨rfl, rfl⟩) | (go_at_call 96; refine (l1Sign_any _ _).mono ?_; rintro e w' ⟨rfl, rfl⟩)))
    go_ret2
  · exact ⟨ret_two (by rw [finN_no hsg]) (by rw [finN_no hsg]), by go_grown⟩
  · exact ⟨ret_two (by rw [finN_yes hsg]) (by rw [finN_yes hsg]), by go_grown⟩

set_option maxRecDepth 100000 in
set_option maxHeartbeats 1000000 in
theorem next4_m1 (s : ByteArray) (i b0 b1 b2 b3 : Nat) (w : World) (hs : s.size ≤ 9223372036854775800) (hi : i < s.size) (e0 : s[i].toNat = b0) (hb0 : b0 < 256) (hb : 240 ≤ b0 ∧ b0 ≤ 244) (h1 : s.size ≤ i + 1) :
    Calls Tryd.prog 82 #[.string s, .int .i64 i] w fun e w' => e = .returned (.tuple #[.int .i64 ((0 : Int), (-1 : Int)).1, .int .i64 ((0 : Int), (-1 : Int)).2]) ∧ Below w.heap.size w w' := by
  have hl := leadN_four hb
  go_enter Tryd.func82, Tryd.ntmps82
  go_wp2_with (first | (go_at_call 94; refine (l1Lead_any _ (by omega) _).mono ?_; rintro e w' ⟨rfl, rfl⟩))
  refine wp_loop_rounds 5 ?_
  repeat any_goals (rw [rounds_succ]; go_wp2_with (first | (go_at_call 36; refine (l1In_cont _ _).mono ?_; rintro e w' ⟨rfl, rfl⟩) | (go_at_call 95; refine (l1Second_any _ _ _).mono ?_; rintro e w' ⟨rfl, rfl⟩) | (go_at_call 96; refine (l1Sign_any _ _).mono ?_; rintro e w' ⟨rfl, rfl⟩)))
  go_ret2
  exact ⟨ret_two rfl rfl, by go_grown⟩

set_option maxRecDepth 100000 in
set_option maxHeartbeats 1000000 in
theorem next4_no1 (s : ByteArray) (i b0 b1 b2 b3 : Nat) (w : World) (hs : s.size ≤ 9223372036854775800) (hi : i < s.size) (e0 : s[i].toNat = b0) (hb0 : b0 < 256) (hb : 240 ≤ b0 ∧ b0 ≤ 244) (h1 : i + 1 < s.size) (e1 : s[i + 1].toNat = b1) (l1 : b1 < 256) (c1 : contB b1 = false) :
    Calls Tryd.prog 82 #[.string s, .int .i64 i] w fun e w' => e = .returned (.tuple #[.int .i64 ((0 : Int), (0 : Int)).1, .int .i64 ((0 : Int), (0 : Int)).2]) ∧ Below w.heap.size w w' := by
  have hl := leadN_four hb
  go_enter Tryd.func82, Tryd.ntmps82
  go_wp2_with (first | (go_at_call 94; refine (l1Lead_any _ (by omega) _).mono ?_; rintro e w' ⟨rfl, rfl⟩))
  refine wp_loop_rounds 5 ?_
  repeat any_goals (rw [rounds_succ]; go_wp2_with (first | (go_at_call 36; refine (l1In_cont _ _).mono ?_; rintro e w' ⟨rfl, rfl⟩) | (go_at_call 95; refine (l1Second_any _ _ _).mono ?_; rintro e w' ⟨rfl, rfl⟩) | (go_at_call 96; refine (l1Sign_any _ _).mono ?_; rintro e w' ⟨rfl, rfl⟩)))
  go_ret2
  exact ⟨ret_two rfl rfl, by go_grown⟩

set_option maxRecDepth 100000 in
set_option maxHeartbeats 1000000 in
theorem next4_sec (s : ByteArray) (i b0 b1 b2 b3 : Nat) (w : World) (hs : s.size ≤ 9223372036854775800) (hi : i < s.size) (e0 : s[i].toNat = b0) (hb0 : b0 < 256) (hb : 240 ≤ b0 ∧ b0 ≤ 244) (h1 : i + 1 < s.size) (e1 : s[i + 1].toNat = b1) (l1 : b1 < 256) (c1 : contB b1 = true) (hsec : secondB b0 b1 = false) :
    Calls Tryd.prog 82 #[.string s, .int .i64 i] w fun e w' => e = .returned (.tuple #[.int .i64 ((0 : Int), (0 : Int)).1, .int .i64 ((0 : Int), (0 : Int)).2]) ∧ Below w.heap.size w w' := by
  have hl := leadN_four hb
  go_enter Tryd.func82, Tryd.ntmps82
  go_wp2_with (first | (go_at_call 94; refine (l1Lead_any _ (by omega) _).mono ?_; rintro e w' ⟨rfl, rfl⟩))
  refine wp_loop_rounds 5 ?_
  repeat any_goals (rw [rounds_succ]; go_wp2_with (first | (go_at_call 36; refine (l1In_cont _ _).mono ?_; rintro e w' ⟨rfl, rfl⟩) | (go_at_call 95; refine (l1Second_any _ _ _).mono ?_; rintro e w' ⟨rfl, rfl⟩) | (go_at_call 96; refine (l1Sign_any _ _).mono ?_; rintro e w' ⟨rfl, rfl⟩)))
  go_ret2
  exact ⟨ret_two rfl rfl, by go_grown⟩

set_option maxRecDepth 100000 in
set_option maxHeartbeats 1000000 in
theorem next4_m2 (s : ByteArray) (i b0 b1 b2 b3 : Nat) (w : World) (hs : s.size ≤ 9223372036854775800) (hi : i < s.size) (e0 : s[i].toNat = b0) (hb0 : b0 < 256) (hb : 240 ≤ b0 ∧ b0 ≤ 244) (h1 : i + 1 < s.size) (e1 : s[i + 1].toNat = b1) (l1 : b1 < 256) (c1 : contB b1 = true) (hsec : secondB b0 b1 = true) (h2 : s.size ≤ i + 2) :
    Calls Tryd.prog 82 #[.string s, .int .i64 i] w fun e w' => e = .returned (.tuple #[.int .i64 ((0 : Int), (-1 : Int)).1, .int .i64 ((0 : Int), (-1 : Int)).2]) ∧ Below w.heap.size w w' := by
  have hl := leadN_four hb
  go_enter Tryd.func82, Tryd.ntmps82
  go_wp2_with (first | (go_at_call 94; refine (l1Lead_any _ (by omega) _).mono ?_; rintro e w' ⟨rfl, rfl⟩))
  refine wp_loop_rounds 5 ?_
  repeat any_goals (rw [rounds_succ]; go_wp2_with (first | (go_at_call 36; refine (l1In_cont _ _).mono ?_; rintro e w' ⟨rfl, rfl⟩) | (go_at_call 95; refine (l1Second_any _ _ _).mono ?_; rintro e w' ⟨rfl, rfl⟩) | (go_at_call 96; refine (l1Sign_any _ _).mono ?_; rintro e w' ⟨rfl, rfl⟩)))
  go_ret2
  exact ⟨ret_two rfl rfl, by go_grown⟩

set_option maxRecDepth 100000 in
set_option maxHeartbeats 1000000 in
theorem next4_no2 (s : ByteArray) (i b0 b1 b2 b3 : Nat) (w : World) (hs : s.size ≤ 9223372036854775800) (hi : i < s.size) (e0 : s[i].toNat = b0) (hb0 : b0 < 256) (hb : 240 ≤ b0 ∧ b0 ≤ 244) (h1 : i + 1 < s.size) (e1 : s[i + 1].toNat = b1) (l1 : b1 < 256) (c1 : contB b1 = true) (hsec : secondB b0 b1 = true) (h2 : i + 2 < s.size) (e2 : s[i + 2].toNat = b2) (l2 : b2 < 256) (c2 : contB b2 = false) :
    Calls Tryd.prog 82 #[.string s, .int .i64 i] w fun e w' => e = .returned (.tuple #[.int .i64 ((0 : Int), (0 : Int)).1, .int .i64 ((0 : Int), (0 : Int)).2]) ∧ Below w.heap.size w w' := by
  have hl := leadN_four hb
  go_enter Tryd.func82, Tryd.ntmps82
  go_wp2_with (first | (go_at_call 94; refine (l1Lead_any _ (by omega) _).mono ?_; rintro e w' ⟨rfl, rfl⟩))
  refine wp_loop_rounds 5 ?_
  repeat any_goals (rw [rounds_succ]; go_wp2_with (first | (go_at_call 36; refine (l1In_cont _ _).mono ?_; rintro e w' ⟨rfl, rfl⟩) | (go_at_call 95; refine (l1Second_any _ _ _).mono ?_; rintro e w' ⟨rfl, rfl⟩) | (go_at_call 96; refine (l1Sign_any _ _).mono ?_; rintro e w' ⟨rfl, rfl⟩)))
  go_ret2
  exact ⟨ret_two rfl rfl, by go_grown⟩

set_option maxRecDepth 100000 in
set_option maxHeartbeats 1000000 in
theorem next4_m3 (s : ByteArray) (i b0 b1 b2 b3 : Nat) (w : World) (hs : s.size ≤ 9223372036854775800) (hi : i < s.size) (e0 : s[i].toNat = b0) (hb0 : b0 < 256) (hb : 240 ≤ b0 ∧ b0 ≤ 244) (h1 : i + 1 < s.size) (e1 : s[i + 1].toNat = b1) (l1 : b1 < 256) (c1 : contB b1 = true) (hsec : secondB b0 b1 = true) (h2 : i + 2 < s.size) (e2 : s[i + 2].toNat = b2) (l2 : b2 < 256) (c2 : contB b2 = true) (h3 : s.size ≤ i + 3) :
    Calls Tryd.prog 82 #[.string s, .int .i64 i] w fun e w' => e = .returned (.tuple #[.int .i64 ((0 : Int), (-1 : Int)).1, .int .i64 ((0 : Int), (-1 : Int)).2]) ∧ Below w.heap.size w w' := by
  have hl := leadN_four hb
  go_enter Tryd.func82, Tryd.ntmps82
  go_wp2_with (first | (go_at_call 94; refine (l1Lead_any _ (by omega) _).mono ?_; rintro e w' ⟨rfl, rfl⟩))
  refine wp_loop_rounds 5 ?_
  repeat any_goals (rw [rounds_succ]; go_wp2_with (first | (go_at_call 36; refine (l1In_cont _ _).mono ?_; rintro e w' ⟨rfl, rfl⟩) | (go_at_call 95; refine (l1Second_any _ _ _).mono ?_; rintro e w' ⟨rfl, rfl⟩) | (go_at_call 96; refine (l1Sign_any _ _).mono ?_; rintro e w' ⟨rfl, rfl⟩)))
  go_ret2
  exact ⟨ret_two rfl rfl, by go_grown⟩

set_option maxRecDepth 100000 in
set_option maxHeartbeats 1000000 in
theorem next4_no3 (s : ByteArray) (i b0 b1 b2 b3 : Nat) (w : World) (hs : s.size ≤ 9223372036854775800) (hi : i < s.size) (e0 : s[i].toNat = b0) (hb0 : b0 < 256) (hb : 240 ≤ b0 ∧ b0 ≤ 244) (h1 : i + 1 < s.size) (e1 : s[i + 1].toNat = b1) (l1 : b1 < 256) (c1 : contB b1 = true) (hsec : secondB b0 b1 = true) (h2 : i + 2 < s.size) (e2 : s[i + 2].toNat = b2) (l2 : b2 < 256) (c2 : contB b2 = true) (h3 : i + 3 < s.size) (e3 : s[i + 3].toNat = b3) (l3 : b3 < 256) (c3 : contB b3 = false) :
    Calls Tryd.prog 82 #[.string s, .int .i64 i] w fun e w' => e = .returned (.tuple #[.int .i64 ((0 : Int), (0 : Int)).1, .int .i64 ((0 : Int), (0 : Int)).2]) ∧ Below w.heap.size w w' := by
  have hl := leadN_four hb
  go_enter Tryd.func82, Tryd.ntmps82
  go_wp2_with (first | (go_at_call 94; refine (l1Lead_any _ (by omega) _).mono ?_; rintro e w' ⟨rfl, rfl⟩))
  refine wp_loop_rounds 5 ?_
  repeat any_goals (rw [rounds_succ]; go_wp2_with (first | (go_at_call 36; refine (l1In_cont _ _).mono ?_; rintro e w' ⟨rfl, rfl⟩) | (go_at_call 95; refine (l1Second_any _ _ _).mono ?_; rintro e w' ⟨rfl, rfl⟩) | (go_at_call 96; refine (l1Sign_any _ _).mono ?_; rintro e w' ⟨rfl, rfl⟩)))
  go_ret2
  exact ⟨ret_two rfl rfl, by go_grown⟩

set_option maxRecDepth 100000 in
set_option maxHeartbeats 1000000 in
theorem next4_fin (s : ByteArray) (i b0 b1 b2 b3 : Nat) (w : World) (hs : s.size ≤ 9223372036854775800) (hi : i < s.size) (e0 : s[i].toNat = b0) (hb0 : b0 < 256) (hb : 240 ≤ b0 ∧ b0 ≤ 244) (h1 : i + 1 < s.size) (e1 : s[i + 1].toNat = b1) (l1 : b1 < 256) (c1 : contB b1 = true) (hsec : secondB b0 b1 = true) (h2 : i + 2 < s.size) (e2 : s[i + 2].toNat = b2) (l2 : b2 < 256) (c2 : contB b2 = true) (h3 : i + 3 < s.size) (e3 : s[i + 3].toNat = b3) (l3 : b3 < 256) (c3 : contB b3 = true) :
    Calls Tryd.prog 82 #[.string s, .int .i64 i] w fun e w' => e = .returned (.tuple #[.int .i64 (finN ((((b0 : Int) % 8 * 64 + b1 - 128) * 64 + b2 - 128) * 64 + b3 - 128) 4).1, .int .i64 (finN ((((b0 : Int) % 8 * 64 + b1 - 128) * 64 + b2 - 128) * 64 + b3 - 128) 4).2]) ∧ Below w.heap.size w w' := by
  have hl := leadN_four hb
  cases hsg : signB ((((b0 : Int) % 8 * 64 + b1 - 128) * 64 + b2 - 128) * 64 + b3 - 128)
  all_goals
    go_enter Tryd.func82, Tryd.ntmps82
    go_wp2_with (first | (go_at_call 94; refine (l1Lead_any _ (by omega) _).mono ?_; rintro e w' ⟨rfl, rfl⟩))
    refine wp_loop_rounds 5 ?_
    repeat any_goals (rw [rounds_succ]; go_wp2_with (first | (go_at_call 36; refine (l1In_cont _ _).mono ?_; rintro e w' ⟨rfl, rfl⟩) | (go_at_call 95; refine (l1Second_any _ _ _).mono ?_; rintro e w' ⟨rfl, rfl⟩) | (go_at_call 96; refine (l1Sign_any _ _).mono ?_; rintro e w' ⟨rfl, rfl⟩)))
    go_ret2
  · exact ⟨ret_two (by rw [finN_no hsg]) (by rw [finN_no hsg]), by go_grown⟩
  · exact ⟨ret_two (by rw [finN_yes hsg]) (by rw [finN_yes hsg]), by go_grown⟩

end Go.Proofs.YtglbjibilllopaaDoor.Hub
