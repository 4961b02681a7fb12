/-
  impl's ring of texts: place, put, newRing, ringOf, list, at every line that is ok.
-/
import Derived.Test.YtpicccdlaiaemaaLineSent
import Derived.Test.YtpicccdlaiaemaaShelfC
import Derived.Deep.AppendLies
import Derived.Laws.Pointers
namespace Go.Proofs.Ytpicccdlaiaemaa.Hub
open Go.RowKit
set_option linter.unusedVariables false

/-- A ring of eight places in block r, the places in block p: it begins where b leads, k are in it. -/
def RingAt (W : World) (r p b k : Nat) (S : Nat → ByteArray) : Prop :=
  p ≠ r ∧ k ≤ 8 ∧ W.heap[r]? = some (.cells #[.slice (some ⟨p, 0, none⟩) 8 8, .int .i64 b, .int .i64 k] 49 (0, 0)) ∧
    ∃ C : Array Value, W.heap[p]? = some (.cells C 9 (0, 0)) ∧ C.size = 8 ∧ ∀ j, j < k → C[(b + j) % 8]? = some (.string (S j))
theorem RingAt.below {W W' : World} {r p b k : Nat} {S : Nat → ByteArray} (h : RingAt W r p b k S) (hb : Below W.heap.size W W') : RingAt W' r p b k S := by
  obtain ⟨h1, h2, h3, C, h4, h5, h6⟩ := h
  exact ⟨h1, h2, (hb.block r (Array.getElem?_eq_some_iff.1 h3).1).trans h3, C, (hb.block p (Array.getElem?_eq_some_iff.1 h4).1).trans h4, h5, h6⟩

set_option maxHeartbeats 1000000 in
theorem place_any (r p b k : Nat) (hb : b ≤ 255) (hk : k ≤ 8) (w : World) (c0 : w.cell? ⟨r, 0, none⟩ = some (.slice (some ⟨p, 0, none⟩) 8 8)) (c1 : w.cell? ⟨r, 1, none⟩ = some (.int .i64 b)) :
    Calls Try.prog 46 #[.pointer (some ⟨r, 0, none⟩), .int .i64 k] w fun e w' => e = .returned (.int .i64 (((b + k) % 8 : Nat) : Int)) ∧ w' = w.drew := by
  have e1 : IntKind.i64.wrap ((b : Int) + (k : Int)) = (b : Int) + (k : Int) := by rw [IntKind.wrap_i64]; omega
  go_enter Try.func46, Try.ntmps46
  go_wp2_with fail
  go_region
  go_wp2_with fail
  go_ret
  exact ⟨ret_i (by first | omega | (push_cast; rfl) | (push_cast; omega)), rfl⟩

set_option maxRecDepth 100000 in
set_option maxHeartbeats 4000000 in
theorem put_any (base r p b k : Nat) (S : Nat → ByteArray) (hb : b ≤ 255) (hk : k < 8) (w : World) (h : RingAt w r p b k S) (h1 : base ≤ r) (h2 : base ≤ p) :
    Calls Try.prog 32 #[.pointer (some ⟨r, 0, none⟩), .string (S k)] w fun e w' => e = .returned (.bool true) ∧ RingAt w' r p b (k + 1) S ∧ Below base w w' := by
  obtain ⟨hne, _, hr, C, hp, hC, hall⟩ := h
  have c0 : w.cell? ⟨r, 0, none⟩ = some (.slice (some ⟨p, 0, none⟩) 8 8) := cell_of w _ _ _ _ hr
  have c1 : w.cell? ⟨r, 1, none⟩ = some (.int .i64 b) := cell_of w _ _ _ _ hr
  have c2 : w.cell? ⟨r, 2, none⟩ = some (.int .i64 k) := cell_of w _ _ _ _ hr
  have f2 : w.frozen? ⟨r, 2, none⟩ = false := by simp [World.frozen?, hr]
  have hm : (b + k) % 8 < 8 := Nat.mod_lt _ (by omega)
  obtain ⟨m, hmm⟩ : ∃ m, (b + k) % 8 = m := ⟨_, rfl⟩
  obtain ⟨cv, d0⟩ : ∃ cv, w.cell? ⟨p, m, none⟩ = some cv := ⟨_, (cell_of w _ _ C _ hp).trans (Array.getElem?_eq_getElem (by omega : m < C.size))⟩
  have g0 : w.frozen? ⟨p, m, none⟩ = false := by simp [World.frozen?, hp]
  have i1 : (0 : Int) ≤ (m : Int) := by omega
  have i2 : (m : Int) < 8 := by omega
  have hk8 : ((k : Int) == 8) = false := by simp; omega
  have e1 : IntKind.i64.wrap ((k : Int) + 1) = (k : Int) + 1 := by rw [IntKind.wrap_i64]; omega
  have HALL : Hid (∀ j, j < k → C[(b + j) % 8]? = some (.string (S j))) := hall
  have HMM : Hid ((b + k) % 8 = m) := hmm
  have HR : Hid (w.heap[r]? = some (.cells #[.slice (some ⟨p, 0, none⟩) 8 8, .int .i64 b, .int .i64 k] 49 (0, 0))) := hr
  have HP : Hid (w.heap[p]? = some (.cells C 9 (0, 0))) := hp
  have cP := fun W x0 x1 => place_any r p b k hb (by omega) W x0 x1
  rw [hmm] at cP
  clear hall hmm hr hp
  obtain ⟨s, hs⟩ : ∃ s, S k = s := ⟨_, rfl⟩
  rw [hs]
  have HS : Hid (S k = s) := hs
  clear hs
  go_enter Try.func32, Try.ntmps32
  go_wp2_with fail
  go_region
  go_wp2_with fail
  go_region_held3 (fun W => W.cell? ⟨r, 0, none⟩ = some (.slice (some ⟨p, 0, none⟩) 8 8) ∧ W.cell? ⟨r, 1, none⟩ = some (.int .i64 b) ∧ W.cell? ⟨r, 2, none⟩ = some (.int .i64 k)) (go_keep) (first | (go_at_call 46; refine (cP _ ?_ ?_).mono ?_; (simp [*]); (simp [*]); rintro e w' ⟨rfl, rfl⟩))
  go_wp2_with fail
  go_ret
  have hpn : ∀ (i : Nat), (⟨p, i, none⟩ : Addr).block ≠ r := fun i => hne
  have k0 := set_heap w p m C _ _ (.string s) HP.out
  have k1 : (w.setCell ⟨p, m, none⟩ (.string s)).heap[r]? = _ := (Below.heap_setCell _ _ _ _ (fun e => hne e.symm)).trans HR.out
  have k2 := set_heap (w.setCell ⟨p, m, none⟩ (.string s)) r 2 _ _ _ (.int .i64 ((k + 1 : Nat) : Int)) k1
  have k3 : ((w.setCell ⟨p, m, none⟩ (.string s)).setCell ⟨r, 2, none⟩ (.int .i64 ((k + 1 : Nat) : Int))).heap[p]? = _ := (Below.heap_setCell _ _ _ _ hne).trans k0
  refine ⟨rfl, ⟨hne, by omega, k2, _, k3, by simp [hC], fun j hj => ?_⟩, ?_⟩
  · rw [at_set _ _ _ _ (by omega)]
    by_cases hjk : j = k
    · subst hjk
      rw [if_pos HMM.out.symm, HS.out]
    · rw [if_neg (by rw [← HMM.out]; omega)]
      exact HALL.out j (by omega)
  · exact ((((Below.refl base w).setCell (p := ⟨p, m, none⟩) h2 _).drew.drew.drew).setCell (p := ⟨r, 2, none⟩) h1 _)

set_option maxHeartbeats 1000000 in
theorem newRing_any (b : Nat) (hb : b ≤ 255) (w : World) :
    Calls Try.prog 45 #[.int .i64 8, .int .i64 b] w fun e w' => e = .returned (.agg #[.slice (some ⟨w.heap.size + 1, 0, none⟩) 8 8, .int .i64 b, .int .i64 0]) ∧ (∃ C : Array Value, w'.heap[w.heap.size + 1]? = some (.cells C 9 (0, 0)) ∧ C.size = 8) ∧ w'.heap.size = w.heap.size + 2 ∧ Below w.heap.size w w' := by
  have hmk : ∀ w, (Instr.makeSlice 26 (.int .i64 8) (.int .i64 8)).run Try.prog w = .ok (.slice (some ⟨w.heap.size, 0, none⟩) 8 8) (w.alloc (.cells (madeCells (Value.string ⟨#[]⟩).cells 8) 9)) := make_many 26 9 (.string ⟨#[]⟩) 1 16 Try.underlying26 (by kernel_rfl) 8 (by omega) (by omega)
  go_enter Try.func45, Try.ntmps45
  go_wp2_with fail
  refine bodyPost_ret (v := .agg #[.slice (some ⟨w.heap.size + 1, 0, none⟩) 8 8, .int .i64 b, .int .i64 0]) (by simp [results, Try.results45, go_sem]) rfl ⟨rfl, ⟨madeCells #[.string ⟨#[]⟩] 8, ?_, by rw [size_madeCells]⟩, by simp, ((Below.refl _ w).alloc (Nat.le_refl _) _).alloc (by simp) _⟩
  have := World.alloc_heap_new (w.alloc (.cells #[.slice (some ⟨w.heap.size + 1, 0, none⟩) 8 8, .int .i64 b, .int .i64 0] 49)) (.cells (madeCells #[.string ⟨#[]⟩] 8) 9)
  simpa using this

/-- The places of a ring. -/
def PlacesAt (W : World) (p b k : Nat) (S : Nat → ByteArray) : Prop := ∃ C : Array Value, W.heap[p]? = some (.cells C 9 (0, 0)) ∧ C.size = 8 ∧ ∀ j, j < k → C[(b + j) % 8]? = some (.string (S j))

set_option maxHeartbeats 1000000 in
theorem clone_any (s : ByteArray) (w : World) (hs : s.size ≤ 3000) :
    Calls Try.prog 33 #[.string s] w fun e w' => e = .returned (.string s) ∧ Below w.heap.size w w' := by
  have c := fun w => Try.stringslite_Clone s w (by omega)
  go_enter Try.func33, Try.ntmps33
  go_wp2_with fail
  go_fit (c _)
  rintro e w1 ⟨rfl, b1⟩
  go_wp2_with fail
  go_ret
  exact ⟨rfl, b1⟩

set_option maxRecDepth 100000 in
set_option maxHeartbeats 4000000 in
theorem ringOf_any (b : Nat) (g : Int) (o : Bool) (q : Value) (n : Nat) (S : Nat → ByteArray) (w : World) (hm : StrAt w q n S) (hb : b ≤ 255) (hn : n ≤ 8) (hs : smallTo S n = true) :
    Calls Try.prog 31 #[lineV b q g o] w fun e w' => (∃ p, e = .returned (.agg #[.slice (some ⟨p, 0, none⟩) 8 8, .int .i64 b, .int .i64 n]) ∧ w.heap.size ≤ p ∧ PlacesAt w' p b n S) ∧ Below w.heap.size w w' := by
  obtain ⟨o1, cap, rfl, g1, g2', hc⟩ := hm
  have g2 : cap ≤ 9223372036854775807 := g2'.1
  clear g2'
  have HC : Hid (∀ j, j < n → ∃ b f : Nat, o1 = some ⟨b, f, none⟩ ∧ b < w.heap.size ∧ w.cell? ⟨b, f + j, none⟩ = some (.string (S j))) := hc
  have HS : Hid (∀ j, j < n → (S j).size ≤ 3000) := smallTo_at S n hs
  clear hc hs
  obtain ⟨H, hH⟩ : ∃ H, H = w.heap.size := ⟨_, rfl⟩
  go_enter Try.func31, Try.ntmps31
  go_wp2_with fail
  obtain ⟨WA, hWA⟩ : ∃ WA, WA = (w.alloc (.cells #[.int .i64 b, .slice o1 n cap, .int .i64 g, .bool o] 28)).alloc (.cells #[.slice none 0 0, .int .i64 0, .int .i64 0] 49) := ⟨_, rfl⟩
  have bA : Below w.heap.size w WA := by rw [hWA]; exact ((Below.refl _ w).alloc (Nat.le_refl _) _).alloc (by simp) _
  have sA : WA.heap.size = H + 2 := by rw [hWA, hH]; simp
  have a0 : WA.heap[H]? = some (.cells #[.int .i64 b, .slice o1 n cap, .int .i64 g, .bool o] 28 (0, 0)) := by
    rw [hWA, hH, Below.heap_alloc _ _ _ (by simp)]; exact World.alloc_heap_new w _
  have a1 : WA.heap[H + 1]? = some (.cells #[.slice none 0 0, .int .i64 0, .int .i64 0] 49 (0, 0)) := by
    rw [hWA, hH]
    have := World.alloc_heap_new (w.alloc (.cells #[.int .i64 b, .slice o1 n cap, .int .i64 g, .bool o] 28)) (.cells #[.slice none 0 0, .int .i64 0, .int .i64 0] 49)
    simpa using this
  have cN := newRing_any b hb WA
  rw [← hWA, ← hH]
  have HH : Hid (H = w.heap.size) := hH
  rw [← hH] at bA
  clear hWA hH
  go_fit cN
  rintro e w1 ⟨rfl, ⟨C, hC, hC8⟩, s1, b1⟩
  rw [sA] at hC s1 ⊢
  rw [sA] at b1
  clear cN
  have e0 := (b1.block H (by omega)).trans a0
  have e1 := (b1.block (H + 1) (by omega)).trans a1
  have cA := bA.trans (b1.mono (by omega))
  have l1 : w1.cell? ⟨H, 1, none⟩ = some (.slice o1 n cap) := cell_of w1 _ _ _ _ e0
  clear b1 bA a0 a1
  obtain ⟨WB, hWB⟩ : ∃ WB, WB = w1.alloc (.cells #[.slice (some ⟨H + 2 + 1, 0, none⟩) 8 8, .int .i64 b, .int .i64 0] 49) := ⟨_, rfl⟩
  have bB : Below H w WB := by rw [hWB]; exact cA.alloc (by omega) _
  have eB : WB.heap[H + 1]? = some (.cells #[.slice none 0 0, .int .i64 0, .int .i64 0] 49 (0, 0)) := by rw [hWB, Below.heap_alloc _ _ _ (by omega)]; exact e1
  have sB : H + 5 ≤ WB.heap.size := by rw [hWB]; simp; omega
  have rB : RingAt WB (H + 2 + 2) (H + 2 + 1) b 0 S := by
    refine ⟨by omega, by omega, ?_, C, ?_, hC8, fun j hj => absurd hj (by omega)⟩
    · rw [hWB]
      have := World.alloc_heap_new w1 (.cells #[.slice (some ⟨H + 2 + 1, 0, none⟩) 8 8, .int .i64 b, .int .i64 0] 49)
      rw [s1] at this
      exact this
    · rw [hWB, Below.heap_alloc _ _ _ (by omega)]; exact hC
  have HRB : Hid (RingAt WB (H + 2 + 2) (H + 2 + 1) b 0 S) := rB
  go_wp2_with fail
  rw [← hWB]
  clear hWB rB cA e0 e1 hC hC8 C s1 l1
  clear w1
  go_loopw [12] (fun i wr => ∃ k : Nat, k ≤ n ∧ i = .int .i64 k ∧ Below (H + 2) WB wr ∧ Hid (RingAt wr (H + 2 + 2) (H + 2 + 1) b k S)) (fun i _ => n - (intOf i).toNat)
  case atStart => exact ⟨0, Nat.zero_le _, rfl, Below.refl _ _, HRB⟩
  case round =>
    obtain ⟨k, hk, rfl, bw, HR⟩ := hrel
    by_cases hlt : k < n
    · obtain ⟨bb, f, ho, hbb, c0⟩ := HC.out k hlt
      subst ho
      have i1 : (0 : Int) ≤ (k : Int) := by omega
      have i2 : (k : Int) < (n : Int) := by omega
      have hbH : bb < H := by rw [HH.out]; exact hbb
      have d0 := (bw.cell (p := ⟨bb, f + k, none⟩) (by show bb < H + 2; omega)).trans ((bB.cell (p := ⟨bb, f + k, none⟩) hbH).trans c0)
      have cC := clone_any (S k) wr (HS.out k hlt)
      clear c0
      have swr := bw.size
      go_wp2_with fail
      go_fit cC
      rintro e w2 ⟨rfl, b2⟩
      have bw2 := bw.trans (b2.mono (by omega))
      have cP := put_any (H + 2) (H + 2 + 2) (H + 2 + 1) b k S hb (by omega) w2 (HR.out.below b2) (by omega) (by omega)
      clear d0 cC
      go_wp2_with fail
      go_fit cP
      rintro e w3 ⟨rfl, r3, b3⟩
      have bw3 := bw2.trans b3
      have HR3 : Hid (RingAt w3 (H + 2 + 2) (H + 2 + 1) b (k + 1) S) := r3
      clear r3 cP HR
      go_wp2_with fail
      exact ⟨⟨k + 1, by omega, rfl, bw3, HR3⟩, by simp [intOf]; omega⟩
    · obtain rfl : k = n := by omega
      obtain ⟨hne, _, hr, C, hp, hC, hall⟩ := HR.out
      have q1 := (bw.block (H + 1) (by omega)).trans eB
      have x0 : wr.cell? ⟨H + 2 + 2, 0, none⟩ = some (.slice (some ⟨H + 2 + 1, 0, none⟩) 8 8) := cell_of wr _ _ _ _ hr
      have x1 : wr.cell? ⟨H + 2 + 2, 1, none⟩ = some (.int .i64 b) := cell_of wr _ _ _ _ hr
      have x2 : wr.cell? ⟨H + 2 + 2, 2, none⟩ = some (.int .i64 k) := cell_of wr _ _ _ _ hr
      have y0 : wr.cell? ⟨H + 1, 0, none⟩ = some (.slice none 0 0) := cell_of wr _ _ _ _ q1
      have y1 : wr.cell? ⟨H + 1, 1, none⟩ = some (.int .i64 0) := cell_of wr _ _ _ _ q1
      have y2 : wr.cell? ⟨H + 1, 2, none⟩ = some (.int .i64 0) := cell_of wr _ _ _ _ q1
      have f1 : ∀ i, wr.frozen? ⟨H + 1, i, none⟩ = false := fun i => by simp [World.frozen?, q1]
      have HP : Hid (wr.heap[H + 2 + 1]? = some (.cells C 9 (0, 0))) := hp
      have HALL : Hid (∀ j, j < k → C[(b + j) % 8]? = some (.string (S j))) := hall
      have bH := bB.trans (bw.mono (by omega))
      clear hp hall hr q1 HR
      go_wp2_with fail
      refine bodyPost_ret (v := .agg #[.slice (some ⟨H + 2 + 1, 0, none⟩) 8 8, .int .i64 b, .int .i64 k]) (by simp [results, Try.results31, go_sem, y0, y1, y2]) rfl ⟨⟨_, rfl, by rw [← HH.out]; omega, C, ?_, hC, HALL.out⟩, ?_⟩
      · rw [Below.heap_setCell _ _ _ _ (by show H + 2 + 1 ≠ H + 1; omega), Below.heap_setCell _ _ _ _ (by show H + 2 + 1 ≠ H + 1; omega), Below.heap_setCell _ _ _ _ (by show H + 2 + 1 ≠ H + 1; omega)]
        exact HP.out
      · rw [← HH.out]
        exact ((bH.setCell (p := ⟨H + 1, 0, none⟩) (by show H ≤ H + 1; omega) _).setCell (p := ⟨H + 1, 1, none⟩) (by show H ≤ H + 1; omega) _).setCell (p := ⟨H + 1, 2, none⟩) (by show H ≤ H + 1; omega) _
end Go.Proofs.Ytpicccdlaiaemaa.Hub
