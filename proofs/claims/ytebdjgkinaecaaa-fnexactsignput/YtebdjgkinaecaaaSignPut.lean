/-
  For every int the law FnExactSignPut returns true: impl.SignPut answers as spec.SignPut, whatever number it is given. No condition.
-/
import Derived.Test.YtebdjgkinaecaaaRows
import Derived.WalkKit
import Derived.ProofKit
import Derived.OpenShut
import Derived.WalkLawsBesides
import Derived.WalkSpells
import Derived.Laws.Runes
import Derived.Laws.BytesArg
namespace Go.Proofs.Ytebdjgkinaecaaa.fnExactSignPut
open Go.ChangeShapes Go.WideShapes Go.ChangeAt Go.RowKit
set_option linter.unusedVariables false
theorem ret_bool {a b : Bool} (h : a = b) : Ending.returned (.bool a) = .returned (.bool b) := by rw [h]
theorem ret_str {a b : ByteArray} (h : a = b) : Ending.returned (.string a) = .returned (.string b) := by rw [h]
set_option maxHeartbeats 400000 in
theorem isSign_yes (n : Int) (w : World) (h : n = 9 ∨ n = 10 ∨ (32 ≤ n ∧ n ≤ 55295) ∨ (57344 ≤ n ∧ n ≤ 65533) ∨ (65536 ≤ n ∧ n ≤ 1114111)) :
    Calls Try.prog 11 #[.int .i64 n] w fun e w' => e = .returned (.bool true) ∧ w' = w := by
  rcases h with h | h | h | h | h
  all_goals
    go_enter Try.func11, Try.ntmps11
    go_wp2
    go_ret
    exact ⟨rfl, rfl⟩
set_option maxHeartbeats 400000 in
theorem isSign_no (n : Int) (w : World) (h : n < 9 ∨ (10 < n ∧ n < 32) ∨ (55295 < n ∧ n < 57344) ∨ (65533 < n ∧ n < 65536) ∨ 1114111 < n) :
    Calls Try.prog 11 #[.int .i64 n] w fun e w' => e = .returned (.bool false) ∧ w' = w := by
  rcases h with h | h | h | h | h
  all_goals
    go_enter Try.func11, Try.ntmps11
    go_wp2
    go_ret
    first | exact ⟨rfl, rfl⟩ | exact ⟨ret_bool (by simp; omega), rfl⟩
set_option maxHeartbeats 400000 in
theorem signPut_no (n : Int) (w : World) (h : n < 9 ∨ (10 < n ∧ n < 32) ∨ (55295 < n ∧ n < 57344) ∨ (65533 < n ∧ n < 65536) ∨ 1114111 < n) :
    Calls Try.prog 6 #[.int .i64 n] w fun e w' => e = .returned (.string ⟨#[]⟩) ∧ w' = w := by
  go_enter Try.func6, Try.ntmps6
  go_wp2_with (go_at_call 11; refine (isSign_no n _ h).mono ?_; rintro e w' ⟨rfl, rfl⟩)
  go_ret
  exact ⟨rfl, rfl⟩
set_option maxHeartbeats 400000 in
theorem signPut_yes (n : Int) (w : World) (h : n = 9 ∨ n = 10 ∨ (32 ≤ n ∧ n ≤ 55295) ∨ (57344 ≤ n ∧ n ≤ 65533) ∨ (65536 ≤ n ∧ n ≤ 1114111)) :
    Calls Try.prog 6 #[.int .i64 n] w fun e w' => e = .returned (.string (Utf8.encode n)) ∧ w' = w := by
  have h0 : 0 ≤ n := by omega
  have h1 : n ≤ 1114111 := by omega
  go_enter Try.func6, Try.ntmps6
  go_wp2_with (go_at_call 11; refine (isSign_yes n _ h).mono ?_; rintro e w' ⟨rfl, rfl⟩)
  go_ret
  exact ⟨rfl, rfl⟩
set_option maxHeartbeats 400000 in
theorem l1Sign_no (n : Int) (w : World) (h : n < 9 ∨ (10 < n ∧ n < 32) ∨ (55295 < n ∧ n < 57344) ∨ (65533 < n ∧ n < 65536) ∨ 1114111 < n) :
    Calls Try.prog 9 #[.int .i64 n] w fun e w' => e = .returned (.bool false) ∧ w' = w := by
  rcases h with h | h | h | h | h
  all_goals
    go_enter Try.func9, Try.ntmps9
    go_wp2
    go_ret
    first | exact ⟨rfl, rfl⟩ | exact ⟨ret_bool (by simp; omega), rfl⟩
set_option maxHeartbeats 400000 in
theorem l1Sign_yes (n : Int) (w : World) (h : n = 9 ∨ n = 10 ∨ (32 ≤ n ∧ n ≤ 55295) ∨ (57344 ≤ n ∧ n ≤ 65533) ∨ (65536 ≤ n ∧ n ≤ 1114111)) :
    Calls Try.prog 9 #[.int .i64 n] w fun e w' => e = .returned (.bool true) ∧ w' = w := by
  rcases h with h | h | h | h | h
  all_goals
    go_enter Try.func9, Try.ntmps9
    go_wp2
    go_ret
    first | exact ⟨rfl, rfl⟩ | exact ⟨ret_bool (by simp; omega), rfl⟩

theorem cell_lit (w : World) (C : Array Value) (t : TypeId) (i : Nat) : (w.alloc (.cells C t)).cell? ⟨w.heap.size, i, none⟩ = C[i]? := by
  simp [go_sem]
theorem conv_lit (w : World) (xs : List Int) : (convert 27 9 (.slice (some ⟨w.heap.size, 0, none⟩) xs.length xs.length)).run Try.prog (w.alloc (.cells (xs.map (Value.int .u8)).toArray 5)) = .ok (.string (strOfNums xs)) (w.alloc (.cells (xs.map (Value.int .u8)).toArray 5)) :=
  run_convert_bytes_arg _ 27 5 Try.underlying27 Try.underlying5 _ _ xs.length xs.length xs rfl (fun i hi => by
    rw [cell_lit]; simp [hi, List.getD]) 9 Try.underlying9
theorem conv1 (w : World) (a : Int) : (convert 27 9 (.slice (some ⟨w.heap.size, 0, none⟩) 1 1)).run Try.prog (w.alloc (.cells #[.int .u8 a] 5)) = .ok (.string (strOfNums [a])) (w.alloc (.cells #[.int .u8 a] 5)) := conv_lit w [a]
theorem conv2 (w : World) (a b : Int) : (convert 27 9 (.slice (some ⟨w.heap.size, 0, none⟩) 2 2)).run Try.prog (w.alloc (.cells #[.int .u8 a, .int .u8 b] 5)) = .ok (.string (strOfNums [a, b])) (w.alloc (.cells #[.int .u8 a, .int .u8 b] 5)) := conv_lit w [a, b]
theorem conv3 (w : World) (a b c : Int) : (convert 27 9 (.slice (some ⟨w.heap.size, 0, none⟩) 3 3)).run Try.prog (w.alloc (.cells #[.int .u8 a, .int .u8 b, .int .u8 c] 5)) = .ok (.string (strOfNums [a, b, c])) (w.alloc (.cells #[.int .u8 a, .int .u8 b, .int .u8 c] 5)) := conv_lit w [a, b, c]
theorem conv4 (w : World) (a b c d : Int) : (convert 27 9 (.slice (some ⟨w.heap.size, 0, none⟩) 4 4)).run Try.prog (w.alloc (.cells #[.int .u8 a, .int .u8 b, .int .u8 c, .int .u8 d] 5)) = .ok (.string (strOfNums [a, b, c, d])) (w.alloc (.cells #[.int .u8 a, .int .u8 b, .int .u8 c, .int .u8 d] 5)) := conv_lit w [a, b, c, d]

theorem enc1 (n : Int) (h0 : 0 ≤ n) (h1 : n < 128) : strOfNums [n] = Utf8.encode n := by
  have hv : Utf8.valid n = true := by simp [Utf8.valid]; omega
  have c1 : n.toNat < 128 := by omega
  simp [strOfNums, Utf8.encode, hv, c1]
theorem enc2 (n : Int) (h0 : 128 ≤ n) (h1 : n < 2048) : strOfNums [192 + n / 64, 128 + n % 64] = Utf8.encode n := by
  have hv : Utf8.valid n = true := by simp [Utf8.valid]; omega
  have c1 : ¬ n.toNat < 128 := by omega
  have c2 : n.toNat < 2048 := by omega
  have e1 : (192 + n / 64).toNat = 192 + n.toNat / 64 := by omega
  have e2 : (128 + n % 64).toNat = 128 + n.toNat % 64 := by omega
  simp only [strOfNums, Utf8.encode, hv, c1, c2, if_true, if_false, List.map_cons, List.map_nil, e1, e2]
theorem enc3 (n : Int) (h0 : 2048 ≤ n) (h1 : n < 65536) (hs : n < 55296 ∨ 57344 ≤ n) : strOfNums [224 + n / 4096, 128 + n / 64 % 64, 128 + n % 64] = Utf8.encode n := by
  have hv : Utf8.valid n = true := by simp [Utf8.valid]; omega
  have c1 : ¬ n.toNat < 128 := by omega
  have c2 : ¬ n.toNat < 2048 := by omega
  have c3 : n.toNat < 65536 := by omega
  have e1 : (224 + n / 4096).toNat = 224 + n.toNat / 4096 := by omega
  have e2 : (128 + n / 64 % 64).toNat = 128 + n.toNat / 64 % 64 := by omega
  have e3 : (128 + n % 64).toNat = 128 + n.toNat % 64 := by omega
  simp only [strOfNums, Utf8.encode, hv, c1, c2, c3, if_true, if_false, List.map_cons, List.map_nil, e1, e2, e3]
theorem enc4 (n : Int) (h0 : 65536 ≤ n) (h1 : n ≤ 1114111) : strOfNums [240 + n / 262144, 128 + n / 4096 % 64, 128 + n / 64 % 64, 128 + n % 64] = Utf8.encode n := by
  have hv : Utf8.valid n = true := by simp [Utf8.valid]; omega
  have c1 : ¬ n.toNat < 128 := by omega
  have c2 : ¬ n.toNat < 2048 := by omega
  have c3 : ¬ n.toNat < 65536 := by omega
  have e0 : (240 + n / 262144).toNat = 240 + n.toNat / 262144 := by omega
  have e1 : (128 + n / 4096 % 64).toNat = 128 + n.toNat / 4096 % 64 := by omega
  have e2 : (128 + n / 64 % 64).toNat = 128 + n.toNat / 64 % 64 := by omega
  have e3 : (128 + n % 64).toNat = 128 + n.toNat % 64 := by omega
  simp only [strOfNums, Utf8.encode, hv, c1, c2, c3, if_true, if_false, List.map_cons, List.map_nil, e0, e1, e2, e3]

set_option maxHeartbeats 400000 in
theorem l1Put_1 (n : Int) (w : World) (h : 0 ≤ n) (h2 : n < 128) :
    Calls Try.prog 10 #[.int .i64 n] w fun e w' => e = .returned (.string (Utf8.encode n)) ∧ Grown w w' := by
  have hc := conv1
  go_enter Try.func10, Try.ntmps10
  go_wp2
  go_ret
  exact ⟨ret_str (enc1 n h h2), Grown.alloc (Grown.refl _) _ _⟩
set_option maxHeartbeats 400000 in
theorem l1Put_2 (n : Int) (w : World) (h : 128 ≤ n) (h2 : n < 2048) :
    Calls Try.prog 10 #[.int .i64 n] w fun e w' => e = .returned (.string (Utf8.encode n)) ∧ Grown w w' := by
  have hc := conv2
  go_enter Try.func10, Try.ntmps10
  go_wp2
  go_ret
  exact ⟨ret_str (enc2 n h h2), Grown.alloc (Grown.refl _) _ _⟩
set_option maxHeartbeats 400000 in
theorem l1Put_3 (n : Int) (w : World) (h : 2048 ≤ n) (h2 : n < 65536) (hs : n < 55296 ∨ 57344 ≤ n) :
    Calls Try.prog 10 #[.int .i64 n] w fun e w' => e = .returned (.string (Utf8.encode n)) ∧ Grown w w' := by
  have hc := conv3
  go_enter Try.func10, Try.ntmps10
  go_wp2
  go_ret
  exact ⟨ret_str (enc3 n h h2 hs), Grown.alloc (Grown.refl _) _ _⟩
set_option maxHeartbeats 400000 in
theorem l1Put_4 (n : Int) (w : World) (h : 65536 ≤ n) (h2 : n ≤ 1114111) :
    Calls Try.prog 10 #[.int .i64 n] w fun e w' => e = .returned (.string (Utf8.encode n)) ∧ Grown w w' := by
  have hc := conv4
  go_enter Try.func10, Try.ntmps10
  go_wp2
  go_ret
  exact ⟨ret_str (enc4 n h h2), Grown.alloc (Grown.refl _) _ _⟩

set_option maxHeartbeats 400000 in
theorem specPut_no (n : Int) (w : World) (h : n < 9 ∨ (10 < n ∧ n < 32) ∨ (55295 < n ∧ n < 57344) ∨ (65533 < n ∧ n < 65536) ∨ 1114111 < n) :
    Calls Try.prog 5 #[.int .i64 n] w fun e w' => e = .returned (.string ⟨#[]⟩) ∧ Grown w w' := by
  go_enter Try.func5, Try.ntmps5
  go_wp2_with (go_at_call 9; refine (l1Sign_no n _ h).mono ?_; rintro e w' ⟨rfl, rfl⟩)
  go_ret
  exact ⟨rfl, Grown.refl _⟩
theorem l1Put_any (n : Int) (w : World) (h : n = 9 ∨ n = 10 ∨ (32 ≤ n ∧ n ≤ 55295) ∨ (57344 ≤ n ∧ n ≤ 65533) ∨ (65536 ≤ n ∧ n ≤ 1114111)) :
    Calls Try.prog 10 #[.int .i64 n] w fun e w' => e = .returned (.string (Utf8.encode n)) ∧ Grown w w' := by
  by_cases h1 : n < 128
  · exact l1Put_1 n w (by omega) h1
  by_cases h2 : n < 2048
  · exact l1Put_2 n w (by omega) h2
  by_cases h3 : n < 65536
  · exact l1Put_3 n w (by omega) h3 (by omega)
  · exact l1Put_4 n w (by omega) (by omega)
set_option maxHeartbeats 400000 in
theorem specPut_yes (n : Int) (w : World) (h : n = 9 ∨ n = 10 ∨ (32 ≤ n ∧ n ≤ 55295) ∨ (57344 ≤ n ∧ n ≤ 65533) ∨ (65536 ≤ n ∧ n ≤ 1114111)) :
    Calls Try.prog 5 #[.int .i64 n] w fun e w' => e = .returned (.string (Utf8.encode n)) ∧ Grown w w' := by
  go_enter Try.func5, Try.ntmps5
  go_wp2_with (first | (go_at_call 9; refine (l1Sign_yes n _ h).mono ?_; rintro e w' ⟨rfl, rfl⟩) | (go_at_call 10; refine (l1Put_any n _ h).mono ?_; rintro e w' ⟨rfl, hg⟩))
  go_ret
  exact ⟨rfl, hg⟩
theorem own : ownKnob Try.prog.godebug = none := by kernel_rfl

/-! ### STEP 1: THE WALK: the Go text returns true. 'Grown w w'': the world has at most new blocks (Derived/RowKit3.lean). Part the cases AHEAD of 'go_enter' where a test parts the walk; take each callee by a contract of your own. -/
theorem walk (a0 : Int) (w0 : (Lit.int .i64 a0).wf = true) (w : World) :
    Calls Try.prog 3 #[.int .i64 a0] w fun e w' => e = .returned (.bool true) ∧ Grown w w' := by
  by_cases h : a0 = 9 ∨ a0 = 10 ∨ (32 ≤ a0 ∧ a0 ≤ 55295) ∨ (57344 ≤ a0 ∧ a0 ≤ 65533) ∨ (65536 ≤ a0 ∧ a0 ≤ 1114111)
  · go_enter Try.func3, Try.ntmps3
    go_wp2_with (first | (go_at_call 5; refine (specPut_yes a0 _ h).mono ?_; rintro e w' ⟨rfl, hg⟩) | (go_at_call 6; refine (signPut_yes a0 _ h).mono ?_; rintro e w' ⟨rfl, rfl⟩))
    go_ret
    exact ⟨rfl, hg⟩
  · have h' : a0 < 9 ∨ (10 < a0 ∧ a0 < 32) ∨ (55295 < a0 ∧ a0 < 57344) ∨ (65533 < a0 ∧ a0 < 65536) ∨ 1114111 < a0 := by omega
    clear h
    go_enter Try.func3, Try.ntmps3
    go_wp2_with (first | (go_at_call 5; refine (specPut_no a0 _ h').mono ?_; rintro e w' ⟨rfl, hg⟩) | (go_at_call 6; refine (signPut_no a0 _ h').mono ?_; rintro e w' ⟨rfl, rfl⟩))
    go_ret
    exact ⟨rfl, hg⟩

/-! ### THE ROW's STEP: WRITTEN OUT: LEAVE IT -/
set_option maxRecDepth 100000 in
theorem lifted (os : Os) (started : os.Started) (H : Type) (enc : TypeId × Value → H) :
    ReturnsInHanded {} Try.checked os 3 .any (Rows.fnExactSignPutSpec.pre6 enc Try.prog Try.f3 Rows.fnExactSignPutRow.domain false) (Rows.fnExactSignPutSpec.post enc Try.prog Try.f3 false true false false) := by
  refine returnsInHanded_of_change (C := Try.checked) own started (by kernel_rfl) Try.func3
    (ChangeSpec.witness6 (enc := enc) (C := Try.checked) false ⟨#[], #[.int .i64 0], []⟩ 8 (by kernel_rfl) (by kernel_rfl) (by kernel_rfl) (by kernel_rfl)) ?_
  intro W base args ds gs before hval0 hW hcnd _
  have hval : ∀ (j : Nat) t v, Try.f3.params[j]? = some t → args[j]? = some v → Value.okWide Try.prog W .any base t v := hval0
  have hW' := hW
  obtain ⟨p, q, hA0, hV, rfl, hfz, hnd⟩ := hW
  have hA : DataW.TrodAll enc Try.prog W 0 (fun _ => true) true Try.f3.params.toList args.toList ds p := hA0
  rw [Try.params3] at hA hval
  obtain ⟨v0, vs0, d0, ds0, p0, q0, hargs, rfl, rfl, h0, r0⟩ := trodAll_cons hA
  obtain ⟨rfl, rfl, rfl⟩ := trodAll_nil r0
  obtain rfl : args = #[v0] := by cases args; simp_all
  obtain ⟨rfl, rfl⟩ := trodVars_none hV
  obtain ⟨a0, rfl, rfl, rfl, w0⟩ := open_int Try.underlying3 (hval 0 3 v0 rfl rfl) h0
  clear hA0 hval0
  simp only [List.append_nil] at hW'
  refine (walk a0 w0 W).mono fun e W' ⟨he, hg⟩ => ?_
  subst he
  exact ⟨_, rfl, post_of_same (pa := []) (pv := []) hW' (fun _ _ _ => (trodAll_cons_mk (shut_bool Try.underlying4 _) trodAll_mk0)) (fun sp _ => (trodAll_cons_mk (shut_int Try.underlying3 w0) trodAll_mk0)) (fun _ _ => rfl) rfl
    (hg.frame _) hg.2.1 (ok_one (by kernel_rfl) rfl (okWide_bool_mk Try.underlying4 _))⟩

theorem over : Rows.fnExactSignPutRow.holds Try.pinned (OpenSpec.ofChange Rows.fnExactSignPutSpec) :=
  OpenClaim.holds_of_wide 3 Try.f3 rfl rfl rfl rfl rfl rfl rfl ⟨rfl, rfl, rfl, rfl, rfl⟩ rfl rfl rfl rfl rfl (by kernel_rfl) Try.func3 (by kernel_rfl)
    (of_decide_eq_true (by kernel_rfl)) (by unfold Func.isWrapper; first | (rw [if_pos (by decide +kernel)]; kernel_rfl) | (rw [if_neg (by decide +kernel)]; exact ⟨rfl, rfl⟩))
    (fun os started H enc _ => lifted os started H enc)

theorem proved : Rows.FnExactSignPutSaid :=
  over
#print axioms proved
end Go.Proofs.Ytebdjgkinaecaaa.fnExactSignPut

namespace Go.Proofs.Ytebdjgkinaecaaa
/-- The statement. -/
theorem fnExactSignPut_holds : Rows.FnExactSignPutSaid := fnExactSignPut.proved
end Go.Proofs.Ytebdjgkinaecaaa
