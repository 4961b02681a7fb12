/-
  What spec.DrawSignPut draws: one of the numbers that its list has; what laws.hbDec writes: a number's figures; spec.SignPut.
-/
import Derived.Test.YtbcledidadjddaaDoorDrawB
import Derived.Test.YtbcledidadjddaaDoorSignPut
import Derived.Test.YtbcledidadjddaaDoorEscSpec
namespace Go.Proofs.YtbcledidadjddaaDoor.Hub
open Go.RowKit
set_option linter.unusedVariables false

set_option maxHeartbeats 1000000 in
theorem one_any (n₀ B p L m : Nat) (ls : List Int) (hls : ls.length = m) (hp : p ≤ 100000) (hm : 1 ≤ m) (hm2 : m ≤ 100000) (w : World) (h : Rd n₀ w B p) (hLB : L ≠ B) (hL : w.heap[L]? = some (.cells (ls.map (Value.int .i64)).toArray 3 (0, 0))) :
    Calls Tryd.prog 39 #[.pointer (some ⟨B, 0, none⟩), .slice (some ⟨L, 0, none⟩) m m] w fun e w' => (∃ s, s ∈ ls ∧ e = .returned (.int .i64 s)) ∧ Rd n₀ w' B (p + 1) ∧ Stepped B w w' := by
  go_enter Tryd.func39, Tryd.ntmps39
  go_wp2_with (go_at_call 46; refine (pick_any n₀ B p m hp hm hm2 _ h).mono ?_)
  rintro e w1 ⟨⟨k, hk, rfl⟩, hw⟩
  obtain ⟨hrd, hst⟩ := stepped_of h hw
  have hL1 := (hst.2.2 L hLB).trans hL
  have hk2 : k < ls.length := by omega
  have ck : w1.cell? ⟨L, k, none⟩ = some (.int .i64 ls[k]) := by simp [World.cell?, hL1, hk2]
  have hki : (k : Int) < (m : Int) := by omega
  clear hL hL1 hw
  generalize hsk : ls[k] = s at ck
  have hmem : s ∈ ls := by rw [← hsk]; exact List.getElem_mem _
  clear hsk
  go_wp2_with fail
  go_ret
  exact ⟨⟨s, hmem, rfl⟩, hrd, hst⟩

def nums : List Int := [9, 10, 13, 32, 65, 127, 128, 2047, 2048, 55295, 55296, 57343, 57344, 65533, 65534, 65536, 1114111, 1114112, -1, 0]
set_option maxHeartbeats 1000000 in
theorem drawSignPut_any (v : Value) (n : Nat) (w : World) (h : BytesAt w.heap.size w v n) :
    Calls Tryd.prog 17 #[v] w fun e w' => (∃ s, s ∈ nums ∧ e = .returned (.int .i64 s)) ∧ Below w.heap.size w w' := by
  go_enter Tryd.func17, Tryd.ntmps17
  go_wp2_with (go_at_call 38; refine (open_any v n _ h).mono ?_)
  rintro e w1 ⟨rfl, hrd, hb1⟩
  have hlt := rd_lt hrd
  go_wp2_with fail
  refine (one_any w.heap.size w.heap.size 0 w1.heap.size 20 nums rfl (by omega) (by omega) (by omega) _ (hrd.alloc hb1.size _) (by omega) (World.alloc_heap_new _ _)).mono ?_
  rintro e w2 ⟨⟨s, hs, rfl⟩, _, hst⟩
  go_wp2_with fail
  go_ret
  exact ⟨⟨s, hs, rfl⟩, (hb1.alloc hb1.size _).trans hst.2.1⟩

theorem specSignPut_any (n : Int) (w : World) :
    Calls Tryd.prog 19 #[.int .i64 n] w fun e w' => e = .returned (.string (putS n)) ∧ Below w.heap.size w w' := by
  cases hb : signB n
  · have he : putS n = ⟨#[]⟩ := by unfold putS; rw [hb]; rfl
    rw [he]
    go_enter Tryd.func19, Tryd.ntmps19
    go_wp2_with (go_at_call 41; refine (l1Sign_any n _).mono ?_; rintro e w' ⟨rfl, rfl⟩; rw [hb])
    go_ret
    exact ⟨rfl, Below.refl _ _⟩
  · have he : putS n = Utf8.encode n := by unfold putS; rw [if_pos hb]
    have hp := l1Put_any n w hb
    rw [he]
    generalize Utf8.encode n = E at *
    go_enter Tryd.func19, Tryd.ntmps19
    go_wp2_with (go_at_call 41; refine (l1Sign_any n _).mono ?_; rintro e w' ⟨rfl, rfl⟩; rw [hb])
    refine hp.mono ?_
    rintro e w2 ⟨rfl, b2⟩
    go_wp2_with fail
    go_ret
    exact ⟨rfl, b2⟩

/-- A number's figures. -/
def decL : Nat → Nat → List UInt8
  | 0, n => [UInt8.ofNat (48 + n)]
  | f + 1, n => if n < 10 then [UInt8.ofNat (48 + n)] else decL f (n / 10) ++ [UInt8.ofNat (48 + n % 10)]
set_option maxRecDepth 100000 in
set_option maxHeartbeats 1000000 in
theorem dec_small (n : Nat) (hn : n < 10) (w : World) :
    Calls Tryd.prog 21 #[.int .i64 (n : Int)] w fun e w' => e = .returned (.string (ofL [UInt8.ofNat (48 + n)])) ∧ Below w.heap.size w w' := by
  have h0 : ¬ (n : Int) < 0 := by omega
  have h1 : (n : Int) < 10 := by omega
  obtain ⟨E, hE⟩ : ∃ E, ofL [UInt8.ofNat (48 + n)] = E := ⟨_, rfl⟩
  rw [hE]
  have HE : Hid (ofL [UInt8.ofNat (48 + n)] = E) := hE
  clear hE
  go_enter Tryd.func21, Tryd.ntmps21
  have hcv : (convert 34 9 (.slice (some ⟨w.heap.size, 0, none⟩) 1 1)).run Tryd.prog (w.alloc (.cells #[.int .u8 (48 + (n : Int))] 5)) = .ok (.string E) (w.alloc (.cells #[.int .u8 (48 + (n : Int))] 5)) := by
    rw [← HE.out]
    exact run_convert_bytes_back (P := Tryd.prog) (w.alloc (.cells #[.int .u8 (48 + (n : Int))] 5)) 34 9 5 ⟨w.heap.size, 0, none⟩ 1 [UInt8.ofNat (48 + n)] Tryd.underlying34 Tryd.underlying5 Tryd.underlying9 (fun j hj => by
      obtain rfl : j = 0 := by simp at hj; omega
      have e1 : ((UInt8.ofNat (48 + n)).toNat : Int) = 48 + (n : Int) := by rw [UInt8.toNat_ofNat']; omega
      show (w.alloc _).cell? _ = some (.int .u8 ((UInt8.ofNat (48 + n)).toNat : Int))
      rw [e1, Addr.add_lit]
      exact (Boxed.new w 5 (.int .u8 (48 + (n : Int)))).cell)
  clear HE
  go_wp2_with fail
  go_ret
  exact ⟨rfl, (Below.refl _ w).alloc (Nat.le_refl _) _⟩
theorem decL_len : ∀ f n, (decL f n).length ≤ f + 1
  | 0, n => by simp [decL]
  | f + 1, n => by
    unfold decL
    split
    · simp
    · have := decL_len f (n / 10); simp; omega
end Go.Proofs.YtbcledidadjddaaDoor.Hub
