/-
  A sign in UTF-8: the program's SignPut and its model's, and l1Put under it; and that what the decoder reads of a text is what SignPut writes.
-/
import Derived.Test.YtbcledidadjddaaDoorTextSpec
import Derived.Lib.RuneBytes
namespace Go.Proofs.YtbcledidadjddaaDoor.Hub
open Go.RowKit Go.Lib
set_option linter.unusedVariables false
theorem cell_lit (w : World) (C : Array Value) (t : TypeId) (i : Nat) : (w.alloc (.cells C t)).cell? ⟨w.heap.size, i, none⟩ = C[i]? := by
  simp [go_sem]
theorem conv_lit (w : World) (xs : List Int) : (convert 34 9 (.slice (some ⟨w.heap.size, 0, none⟩) xs.length xs.length)).run Tryd.prog (w.alloc (.cells (xs.map (Value.int .u8)).toArray 5)) = .ok (.string (strOfNums xs)) (w.alloc (.cells (xs.map (Value.int .u8)).toArray 5)) :=
  run_convert_bytes_arg _ 34 5 Tryd.underlying34 Tryd.underlying5 _ _ xs.length xs.length xs rfl (fun i hi => by
    rw [cell_lit]; simp [hi, List.getD]) 9 Tryd.underlying9
theorem conv1 (w : World) (a : Int) : (convert 34 9 (.slice (some ⟨w.heap.size, 0, none⟩) 1 1)).run Tryd.prog (w.alloc (.cells #[.int .u8 a] 5)) = .ok (.string (strOfNums [a])) (w.alloc (.cells #[.int .u8 a] 5)) := conv_lit w [a]
theorem conv2 (w : World) (a b : Int) : (convert 34 9 (.slice (some ⟨w.heap.size, 0, none⟩) 2 2)).run Tryd.prog (w.alloc (.cells #[.int .u8 a, .int .u8 b] 5)) = .ok (.string (strOfNums [a, b])) (w.alloc (.cells #[.int .u8 a, .int .u8 b] 5)) := conv_lit w [a, b]
theorem conv3 (w : World) (a b c : Int) : (convert 34 9 (.slice (some ⟨w.heap.size, 0, none⟩) 3 3)).run Tryd.prog (w.alloc (.cells #[.int .u8 a, .int .u8 b, .int .u8 c] 5)) = .ok (.string (strOfNums [a, b, c])) (w.alloc (.cells #[.int .u8 a, .int .u8 b, .int .u8 c] 5)) := conv_lit w [a, b, c]
theorem conv4 (w : World) (a b c d : Int) : (convert 34 9 (.slice (some ⟨w.heap.size, 0, none⟩) 4 4)).run Tryd.prog (w.alloc (.cells #[.int .u8 a, .int .u8 b, .int .u8 c, .int .u8 d] 5)) = .ok (.string (strOfNums [a, b, c, d])) (w.alloc (.cells #[.int .u8 a, .int .u8 b, .int .u8 c, .int .u8 d] 5)) := conv_lit w [a, b, c, d]

theorem enc1 (n : Int) (h0 : 0 ≤ n) (h1 : n < 128) : strOfNums [n] = Utf8.encode n := by
  have hv : Utf8.valid n = true := by simp [Utf8.valid]; omega
  have c1 : n.toNat < 128 := by omega
  simp [strOfNums, Utf8.encode, hv, c1]
theorem enc2 (n : Int) (h0 : 128 ≤ n) (h1 : n < 2048) : strOfNums [192 + n / 64, 128 + n % 64] = Utf8.encode n := by
  have hv : Utf8.valid n = true := by simp [Utf8.valid]; omega
  have c1 : ¬ n.toNat < 128 := by omega
  have c2 : n.toNat < 2048 := by omega
  have e1 : (192 + n / 64).toNat = 192 + n.toNat / 64 := by omega
  have e2 : (128 + n % 64).toNat = 128 + n.toNat % 64 := by omega
  simp only [strOfNums, Utf8.encode, hv, c1, c2, if_true, if_false, List.map_cons, List.map_nil, e1, e2]
theorem enc3 (n : Int) (h0 : 2048 ≤ n) (h1 : n < 65536) (hs : n < 55296 ∨ 57344 ≤ n) : strOfNums [224 + n / 4096, 128 + n / 64 % 64, 128 + n % 64] = Utf8.encode n := by
  have hv : Utf8.valid n = true := by simp [Utf8.valid]; omega
  have c1 : ¬ n.toNat < 128 := by omega
  have c2 : ¬ n.toNat < 2048 := by omega
  have c3 : n.toNat < 65536 := by omega
  have e1 : (224 + n / 4096).toNat = 224 + n.toNat / 4096 := by omega
  have e2 : (128 + n / 64 % 64).toNat = 128 + n.toNat / 64 % 64 := by omega
  have e3 : (128 + n % 64).toNat = 128 + n.toNat % 64 := by omega
  simp only [strOfNums, Utf8.encode, hv, c1, c2, c3, if_true, if_false, List.map_cons, List.map_nil, e1, e2, e3]
theorem enc4 (n : Int) (h0 : 65536 ≤ n) (h1 : n ≤ 1114111) : strOfNums [240 + n / 262144, 128 + n / 4096 % 64, 128 + n / 64 % 64, 128 + n % 64] = Utf8.encode n := by
  have hv : Utf8.valid n = true := by simp [Utf8.valid]; omega
  have c1 : ¬ n.toNat < 128 := by omega
  have c2 : ¬ n.toNat < 2048 := by omega
  have c3 : ¬ n.toNat < 65536 := by omega
  have e0 : (240 + n / 262144).toNat = 240 + n.toNat / 262144 := by omega
  have e1 : (128 + n / 4096 % 64).toNat = 128 + n.toNat / 4096 % 64 := by omega
  have e2 : (128 + n / 64 % 64).toNat = 128 + n.toNat / 64 % 64 := by omega
  have e3 : (128 + n % 64).toNat = 128 + n.toNat % 64 := by omega
  simp only [strOfNums, Utf8.encode, hv, c1, c2, c3, if_true, if_false, List.map_cons, List.map_nil, e0, e1, e2, e3]

set_option maxHeartbeats 400000 in
theorem l1Put_1 (n : Int) (w : World) (h : 0 ≤ n) (h2 : n < 128) :
    Calls Tryd.prog 42 #[.int .i64 n] w fun e w' => e = .returned (.string (Utf8.encode n)) ∧ Below w.heap.size w w' := by
  have hc := conv1
  go_enter Tryd.func42, Tryd.ntmps42
  go_wp2
  go_ret
  exact ⟨ret_str (enc1 n h h2), (Below.refl _ _).alloc (Nat.le_refl _) _⟩
set_option maxHeartbeats 400000 in
theorem l1Put_2 (n : Int) (w : World) (h : 128 ≤ n) (h2 : n < 2048) :
    Calls Tryd.prog 42 #[.int .i64 n] w fun e w' => e = .returned (.string (Utf8.encode n)) ∧ Below w.heap.size w w' := by
  have hc := conv2
  go_enter Tryd.func42, Tryd.ntmps42
  go_wp2
  go_ret
  exact ⟨ret_str (enc2 n h h2), (Below.refl _ _).alloc (Nat.le_refl _) _⟩
set_option maxHeartbeats 400000 in
theorem l1Put_3 (n : Int) (w : World) (h : 2048 ≤ n) (h2 : n < 65536) (hs : n < 55296 ∨ 57344 ≤ n) :
    Calls Tryd.prog 42 #[.int .i64 n] w fun e w' => e = .returned (.string (Utf8.encode n)) ∧ Below w.heap.size w w' := by
  have hc := conv3
  go_enter Tryd.func42, Tryd.ntmps42
  go_wp2
  go_ret
  exact ⟨ret_str (enc3 n h h2 hs), (Below.refl _ _).alloc (Nat.le_refl _) _⟩
set_option maxHeartbeats 400000 in
theorem l1Put_4 (n : Int) (w : World) (h : 65536 ≤ n) (h2 : n ≤ 1114111) :
    Calls Tryd.prog 42 #[.int .i64 n] w fun e w' => e = .returned (.string (Utf8.encode n)) ∧ Below w.heap.size w w' := by
  have hc := conv4
  go_enter Tryd.func42, Tryd.ntmps42
  go_wp2
  go_ret
  exact ⟨ret_str (enc4 n h h2), (Below.refl _ _).alloc (Nat.le_refl _) _⟩

theorem l1Put_any (n : Int) (w : World) (hb : signB n = true) :
    Calls Tryd.prog 42 #[.int .i64 n] w fun e w' => e = .returned (.string (Utf8.encode n)) ∧ Below w.heap.size w w' := by
  have h := signB_yes hb
  by_cases h1 : n < 128
  · exact l1Put_1 n w (by omega) h1
  by_cases h2 : n < 2048
  · exact l1Put_2 n w (by omega) h2
  by_cases h3 : n < 65536
  · exact l1Put_3 n w (by omega) h3 (by omega)
  · exact l1Put_4 n w (by omega) (by omega)

/-- A sign in UTF-8; nothing of another number. -/
def putS (n : Int) : ByteArray := if signB n = true then Utf8.encode n else ⟨#[]⟩

set_option maxHeartbeats 400000 in
theorem signPut_any (n : Int) (w : World) :
    Calls Tryd.prog 18 #[.int .i64 n] w fun e w' => e = .returned (.string (putS n)) ∧ w' = w := by
  cases hb : signB n
  · have he : putS n = ⟨#[]⟩ := by unfold putS; rw [hb]; rfl
    rw [he]
    clear he
    go_enter Tryd.func18, Tryd.ntmps18
    go_wp2_with (go_at_call 40; refine (isSign_any n _).mono ?_; rintro e w' ⟨rfl, rfl⟩)
    go_ret
    exact ⟨rfl, rfl⟩
  · have he : putS n = Utf8.encode n := by unfold putS; rw [if_pos hb]
    have hr := signB_yes hb
    have h0 : 0 ≤ n := by omega
    have h1 : n ≤ 1114111 := by omega
    rw [he]
    clear he hr
    go_enter Tryd.func18, Tryd.ntmps18
    go_wp2_with (go_at_call 40; refine (isSign_any n _).mono ?_; rintro e w' ⟨rfl, rfl⟩)
    go_ret
    exact ⟨rfl, rfl⟩

/-- The two ways to say a sign's bytes. -/
theorem encode_list (n : Int) (hb : signB n = true) : (Utf8.encode n).data.toList = Lib.encodeRune n := by
  have h := signB_yes hb
  have key : Utf8.encode n = strOfNums (Lib.encodeRuneZ n) := by
    by_cases h1 : n < 128
    · rw [Lib.encodeRuneZ_one (by omega) (by omega), enc1 n (by omega) h1]
    by_cases h2 : n < 2048
    · rw [Lib.encodeRuneZ_two (by omega) (by omega), enc2 n (by omega) h2]
    by_cases h3 : n < 65536
    · rw [Lib.encodeRuneZ_three (by omega), enc3 n (by omega) h3 (by omega)]
    · rw [Lib.encodeRuneZ_four (by omega) (by omega), enc4 n (by omega) (by omega)]
  rw [key]
  rfl

/-- What the decoder reads at a place is written as it stands there. -/
theorem encode_at (s : ByteArray) (p r k : Nat) (hp : p < s.size) (hd : Utf8.decode s p = (r, k)) (hk : k = 1 → r < 128) (hb : signB (r : Int) = true) :
    (Utf8.encode (r : Int)).data.toList = (s.data.toList.drop p).take k := by
  rw [encode_list _ hb]
  have hne : s.data.toList.drop p ≠ [] := by
    intro h
    have := congrArg List.length h
    have h2 : s.data.toList.length = s.size := rfl
    simp only [List.length_drop, List.length_nil] at this
    omega
  have := Lib.encode_decode (s.data.toList.drop p) hne (by rw [decodeL_drop, hd]; simp only; omega)
  rw [decodeL_drop, hd] at this
  exact this
end Go.Proofs.YtbcledidadjddaaDoor.Hub
