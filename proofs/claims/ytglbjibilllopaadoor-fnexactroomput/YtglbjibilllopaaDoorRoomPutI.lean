/-
  How the program writes a room.
-/
import Derived.Test.YtglbjibilllopaaDoorJwKept
import Derived.Test.YtglbjibilllopaaDoorRoomPutD
import Derived.Test.YtglbjibilllopaaDoorRoomImplD
namespace Go.Proofs.YtglbjibilllopaaDoor.Hub
open Go.RowKit Go.Lib Go.Sort
set_option linter.unusedVariables false

/-- A member that the program copied for a round lies there. -/
def At3 (M : Nat) (u v : ByteArray) (r : Int) (W : World) : Prop := W.heap[M]? = some (.cells #[.string u, .string v, .int .i64 r] 56 (0, 0))
theorem At3.kept {b M : Nat} {u v : ByteArray} {r : Int} {W W' : World} (h : At3 M u v r W) (hM : M ≠ b) (k : Kept b W W') : At3 M u v r W' := k M _ h (fun e => hM (Option.some.inj e)) (fun c fz e => by injection e with e1 e2; exact absurd e2 (by decide))
theorem At3.cell {M : Nat} {u v : ByteArray} {r : Int} {W : World} (h : At3 M u v r W) : W.cell? ⟨M, 0, none⟩ = some (.string u) ∧ W.cell? ⟨M, 1, none⟩ = some (.string v) ∧ W.cell? ⟨M, 2, none⟩ = some (.int .i64 r) := by
  unfold At3 at h
  simp only [World.cell?, h]
  exact ⟨rfl, rfl, rfl⟩
def At2 (M : Nat) (u : ByteArray) (r : Int) (W : World) : Prop := W.heap[M]? = some (.cells #[.string u, .int .i64 r] 58 (0, 0))
theorem At2.kept {b M : Nat} {u : ByteArray} {r : Int} {W W' : World} (h : At2 M u r W) (hM : M ≠ b) (k : Kept b W W') : At2 M u r W' := k M _ h (fun e => hM (Option.some.inj e)) (fun c fz e => by injection e with e1 e2; exact absurd e2 (by decide))
theorem At2.cell {M : Nat} {u : ByteArray} {r : Int} {W : World} (h : At2 M u r W) : W.cell? ⟨M, 0, none⟩ = some (.string u) ∧ W.cell? ⟨M, 1, none⟩ = some (.int .i64 r) := by
  unfold At2 at h
  simp only [World.cell?, h]
  exact ⟨rfl, rfl⟩
theorem headS_ne (nm : ByteArray) (nx : Nat) (sb : ByteArray) (n : Nat) : (headS nm nx sb n).data.toList ≠ [] := by unfold headS; simp
theorem memS_ne {O : ByteArray} {U N : Nat → ByteArray} {R : Nat → Int} (h : O.data.toList ≠ []) : ∀ k, (memS O U N R k).data.toList ≠ []
  | 0 => h
  | k + 1 => by rw [memS]; simp
theorem rnkS_ne {O : ByteArray} {U : Nat → ByteArray} {R : Nat → Int} (h : O.data.toList ≠ []) : ∀ k, (rnkS O U R k).data.toList ≠ []
  | 0 => h
  | k + 1 => by rw [rnkS]; simp
theorem list_size (b : ByteArray) : b.data.toList.length = b.size := rfl

set_option maxRecDepth 100000 in
set_option maxHeartbeats 40000000 in
theorem implRoomPut_any (nm sb : ByteArray) (nx : Int) (vm vk : Value) (n : Nat) (U N : Nat → ByteArray) (R : Nat → Int) (z : Nat) (KU : Nat → ByteArray) (KR : Nat → Int) (w : World) (hT : Tabs w) (hX : Tens w) (hm : MemAt w vm n U N R) (hk : RankAt w vk z KU KR) (hnm : nm.size ≤ 9223372036854775800) (hsb : sb.size ≤ 9223372036854775800) (hs : ∀ j, j < n → (U j).size ≤ 9223372036854775800 ∧ (N j).size ≤ 9223372036854775800) (hz : ∀ j, j < z → (KU j).size ≤ 9223372036854775800) :
    Calls Tryd.prog 8 #[roomV nm nx vm vk sb] w fun e w' => e = .returned (.string (rputT nm nx sb n U N R z KU KR)) ∧ Below w.heap.size w w' := by
  obtain ⟨o, c, hvm⟩ : ∃ o c, vm = .slice o n c := by obtain ⟨o, c, h, _⟩ := hm; exact ⟨o, c, h⟩
  obtain ⟨o2, c2, hvk⟩ : ∃ o c, vk = .slice o z c := by obtain ⟨o, c, h, _⟩ := hk; exact ⟨o, c, h⟩
  subst hvm hvk
  obtain ⟨W1, hW1⟩ : ∃ W1, W1 = w.alloc (.cells #[.string nm, .int .i64 nx, .slice o n c, .slice o2 z c2, .string sb] 31) := ⟨_, rfl⟩
  have b0 : RowKit.Below w.heap.size w W1 := by rw [hW1]; exact below_alloc w _
  have hw0 : w.heap.size < W1.heap.size := by rw [hW1]; simp
  have NEW : Hid (∀ W : World, RowKit.Below W1.heap.size W1 W → W.cell? ⟨w.heap.size, 0, none⟩ = some (.string nm) ∧ W.cell? ⟨w.heap.size, 1, none⟩ = some (.int .i64 nx) ∧ W.cell? ⟨w.heap.size, 2, none⟩ = some (.slice o n c) ∧ W.cell? ⟨w.heap.size, 3, none⟩ = some (.slice o2 z c2) ∧ W.cell? ⟨w.heap.size, 4, none⟩ = some (.string sb)) := fun W b => by
    have q : ∀ i, W.cell? ⟨w.heap.size, i, none⟩ = (#[.string nm, .int .i64 nx, .slice o n c, .slice o2 z c2, .string sb] : Array Value)[i]? := fun i => (b.cell (p := ⟨w.heap.size, i, none⟩) hw0).trans (by rw [hW1]; exact room_cell w _ _ i)
    exact ⟨q 0, q 1, q 2, q 3, q 4⟩
  have T1 : Tabs W1 := Utf8Tabs_below hT b0
  have hO := roomOk_any nm sb nx (.slice o n c) (.slice o2 z c2) n U N R z KU KR W1 T1 (hm.below b0) (hk.below b0) hnm hsb hs hz
  have HM : Hid (∀ W, RowKit.Below W1.heap.size W1 W → MemAt W (.slice o n c) n U N R ∧ RankAt W (.slice o2 z c2) z KU KR) := fun W bb => ⟨(hm.below b0).below bb, (hk.below b0).below bb⟩
  have g2 : c ≤ 9223372036854775807 := by obtain ⟨_, _, h, _, h2, _⟩ := hm; injection h with _ _ h3; subst h3; exact Nat.le_trans h2 (by decide)
  have g4 : c2 ≤ 9223372036854775807 := by obtain ⟨_, _, h, _, h2, _⟩ := hk; injection h with _ _ h3; subst h3; exact Nat.le_trans h2 (by decide)
  have g1 : n ≤ c := by obtain ⟨_, _, h, h2, _⟩ := hm; injection h with _ _ h3; subst h3; exact h2
  have g3 : z ≤ c2 := by obtain ⟨_, _, h, h2, _⟩ := hk; injection h with _ _ h3; subst h3; exact h2
  clear hm hk hs hz
  unfold rputT
  obtain ⟨T, hT9⟩ : ∃ T, roomT nm nx sb n U N R z KU KR = T := ⟨_, rfl⟩
  rw [hT9] at hO ⊢
  cases T
  · clear hT9
    go_enter Tryd.func8, Tryd.ntmps8
    go_wp2_with first
      | (go_at_call 21; rw [← hW1]; go_fit hO; rintro e w1 ⟨rfl, b1⟩)
    go_ret
    exact ⟨rfl, b0.trans (b1.mono b0.size)⟩
  · obtain ⟨un, a1, a2, a3, a4, a5, a6, a7⟩ := roomT_small hT9
    obtain ⟨nx', rfl⟩ := Int.eq_ofNat_of_zero_le a2.1
    have zM : Hid (∀ k, k ≤ n → (memS (headS nm nx' sb n) U N R k).size ≤ 400 + 400 * k) := fun k hk => Nat.le_trans (memS_size (n := n) (fun j hj => ⟨(a6 j hj).2.1, (a6 j hj).2.2.1⟩) k hk) (by have := headS_size (nx := nx') (n := n) a1 a3; omega)
    have zK : Hid (∀ k, k ≤ z → (rnkS (memS (headS nm nx' sb n) U N R n) KU KR k).size ≤ 2400 + 200 * k) := fun k hk => Nat.le_trans (rnkS_size (n := z) (fun j hj => (a7 j hj).2.1) k hk) (by have := zM.out n (Nat.le_refl _); omega)
    have A6 : Hid (∀ j, j < n → userT (U j) = true ∧ (U j).size ≤ 100 ∧ (N j).size ≤ 100 ∧ 0 ≤ R j ∧ R j < 10) := a6
    have A7 : Hid (∀ j, j < z → userT (KU j) = true ∧ (KU j).size ≤ 100 ∧ 0 ≤ KR j ∧ KR j < 10) := a7
    have un : Hid (userT nm = true) := un
    clear hT9 a6 a7
    rw [if_pos rfl, Int.toNat_natCast]
    obtain ⟨RS, hRS⟩ : ∃ RS, roomS nm nx' sb n U N R z KU KR = RS := ⟨_, rfl⟩
    have HRS : Hid (rnkS (memS (headS nm nx' sb n) U N R n) KU KR z = RS) := hRS
    rw [hRS]
    clear hRS
    go_enter Tryd.func8, Tryd.ntmps8
    go_wp2_with first
      | (go_at_call 21; rw [← hW1]; go_fit hO; rintro e w1 ⟨rfl, b1⟩; obtain ⟨x0, x1, x2, x3, x4⟩ := NEW.out w1 b1; have hAlt : w.heap.size < w1.heap.size := (by have := b1.size; omega))
    have b01 := b0.trans (b1.mono b0.size)
    have X1 := hX.below b01
    obtain ⟨b, hb⟩ : ∃ b, b = w1.heap.size := ⟨_, rfl⟩
    obtain ⟨vb, hvb⟩ : ∃ vb, vb = w1.alloc (.cells #[.pointer none, .slice none 0 0] 50) := ⟨_, rfl⟩
    have J0 : Jw b [] vb := by
      rw [hvb, hb]
      exact ⟨Lib.IsBuilderF.of (Lib.fresh_isBuilder 50 5 w1), by simp⟩
    have bvb : RowKit.Below b w1 vb := by rw [hvb, hb]; exact (Below.refl _ w1).alloc (Nat.le_refl _) _
    have LATER : Hid (∀ W : World, RowKit.Below b vb W → (W.cell? ⟨w.heap.size, 0, none⟩ = some (.string nm) ∧ W.cell? ⟨w.heap.size, 1, none⟩ = some (.int .i64 (nx' : Int)) ∧ W.cell? ⟨w.heap.size, 2, none⟩ = some (.slice o n c) ∧ W.cell? ⟨w.heap.size, 3, none⟩ = some (.slice o2 z c2) ∧ W.cell? ⟨w.heap.size, 4, none⟩ = some (.string sb)) ∧ Tens W ∧ MemAt W (.slice o n c) n U N R ∧ RankAt W (.slice o2 z c2) z KU KR) := by
      intro W bb
      have c1 : RowKit.Below w1.heap.size w1 W := by rw [hb] at bb bvb; exact bvb.trans bb
      have c9 := b1.trans (c1.mono b1.size)
      exact ⟨NEW.out W c9, X1.below c1, HM.out W c9⟩
    have OUT : Hid (∀ W : World, RowKit.Below b vb W → RowKit.Below w.heap.size w W) := by
      intro W bb
      have c1 : RowKit.Below w1.heap.size w1 W := by rw [hb] at bb bvb; exact bvb.trans bb
      exact b01.trans (c1.mono b01.size)
    rw [← hvb, ← hb]
    clear hvb bvb X1 hAlt hb b01 x0 x1 x2 x3 x4 NEW T1 hW1 hO hX hT b0 hnm hsb b1 HM hw0
    refine (jwMarked_any b nm (by omega) [] vb J0 (by simp)).mono ?_
    rintro e W0 ⟨rfl, JJ0, B0⟩
    obtain ⟨L0, E0⟩ : ∃ L, [] ++ (fieldT nm).data.toList = L := ⟨_, rfl⟩
    have Z0 : L0.length ≤ 200 := by
      have := fieldT_size nm
      rw [← E0]; show (fieldT nm).size ≤ _; omega
    rw [E0] at JJ0
    have HE0 : Hid ([] ++ (fieldT nm).data.toList = L0) := E0
    clear E0 J0
    go_wp2_with fail
    have bd1 : RowKit.Below W0.heap.size W0 W0.drew := (Below.refl _ _).drew
    have Jd1 := JJ0.below bd1
    have BD1 : RowKit.Below b vb W0.drew := B0.drew
    have C1 : Hid (∀ W : World, RowKit.Below b vb W → W.cell? ⟨w.heap.size, 1, none⟩ = some (.int .i64 (nx' : Int))) := fun W bb => (LATER.out W bb).1.2.1
    go_region_held3 (fun W => W.cell? ⟨w.heap.size, 1, none⟩ = some (.int .i64 (nx' : Int)))
      (first | exact C1.out _ B1 | exact C1.out _ cn1 | exact C1.out _ BD1 | go_keep)
      (first
        | (go_at_call 24; refine (jwNumber_any b 3 nx' (by omega) (by omega) _ _ (LATER.out _ cn1).2.1 Jn1 Ln1).mono ?_; rintro e W1 ⟨rfl, JJ1, m1⟩; have B1 := cn1.trans m1)
        | (go_at_call 23; refine (jwNext_any b _ _ Jd1 (by omega)).mono ?_; rintro e wn1 ⟨rfl, Jn1, n1⟩; have cn1 : RowKit.Below b vb wn1 := BD1.trans n1; have Ln1 : (L0 ++ [124]).length ≤ 1000000000 := (by rw [List.length_append]; show _ + 1 ≤ _; omega)))
    obtain ⟨L1, E1⟩ : ∃ L, L0 ++ [124] ++ (decB 3 nx').data.toList = L := ⟨_, rfl⟩
    have Z1 : L1.length ≤ 205 := by
      have := decB_size 3 nx'; have e9 := list_size (decB 3 nx')
      rw [← E1, List.length_append, List.length_append]; show _ + 1 + _ ≤ _; omega
    rw [E1] at JJ1
    have HE1 : Hid (L0 ++ [124] ++ (decB 3 nx').data.toList = L1) := E1
    clear E1 bd1 Jd1 BD1 C1 Jn1 n1 cn1 Ln1 m1 JJ0 B0 Z0
    go_wp2_with fail
    have bd2 : RowKit.Below W1.heap.size W1 W1.drew := (Below.refl _ _).drew
    have Jd2 := JJ1.below bd2
    have BD2 : RowKit.Below b vb W1.drew := B1.drew
    have C2 : Hid (∀ W : World, RowKit.Below b vb W → W.cell? ⟨w.heap.size, 4, none⟩ = some (.string sb)) := fun W bb => (LATER.out W bb).1.2.2.2.2
    go_region_held3 (fun W => W.cell? ⟨w.heap.size, 4, none⟩ = some (.string sb))
      (first | exact C2.out _ B2 | exact C2.out _ cn2 | exact C2.out _ BD2 | go_keep)
      (first
        | (go_at_call 22; refine (jwMarked_any b sb (by omega) _ _ Jn2 Ln2).mono ?_; rintro e W2 ⟨rfl, JJ2, m2⟩; have B2 := cn2.trans m2)
        | (go_at_call 23; refine (jwNext_any b _ _ Jd2 (by omega)).mono ?_; rintro e wn2 ⟨rfl, Jn2, n2⟩; have cn2 : RowKit.Below b vb wn2 := BD2.trans n2; have Ln2 : (L1 ++ [124]).length ≤ 1000000000 := (by rw [List.length_append]; show _ + 1 ≤ _; omega)))
    obtain ⟨L2, E2⟩ : ∃ L, L1 ++ [124] ++ (fieldT sb).data.toList = L := ⟨_, rfl⟩
    have Z2 : L2.length ≤ 406 := by
      have := fieldT_size sb; have e9 := list_size (fieldT sb)
      rw [← E2, List.length_append, List.length_append]; show _ + 1 + _ ≤ _; omega
    rw [E2] at JJ2
    have HE2 : Hid (L1 ++ [124] ++ (fieldT sb).data.toList = L2) := E2
    clear E2 bd2 Jd2 BD2 C2 Jn2 n2 cn2 Ln2 m2 JJ1 B1 Z1
    go_wp2_with fail
    have bd3 : RowKit.Below W2.heap.size W2 W2.drew := (Below.refl _ _).drew
    have Jd3 := JJ2.below bd3
    have BD3 : RowKit.Below b vb W2.drew := B2.drew
    have C3 : Hid (∀ W : World, RowKit.Below b vb W → W.cell? ⟨w.heap.size, 2, none⟩ = some (.slice o n c)) := fun W bb => (LATER.out W bb).1.2.2.1
    go_region_held3 (fun W => W.cell? ⟨w.heap.size, 2, none⟩ = some (.slice o n c))
      (first | exact C3.out _ B3 | exact C3.out _ cn3 | exact C3.out _ BD3 | go_keep)
      (first
        | (go_at_call 24; refine (jwNumber_any b 0 n (by omega) (by omega) _ _ (LATER.out _ cn3).2.1 Jn3 Ln3).mono ?_; rintro e W3 ⟨rfl, JJ3, m3⟩; have B3 := cn3.trans m3)
        | (go_at_call 23; refine (jwNext_any b _ _ Jd3 (by omega)).mono ?_; rintro e wn3 ⟨rfl, Jn3, n3⟩; have cn3 : RowKit.Below b vb wn3 := BD3.trans n3; have Ln3 : (L2 ++ [124]).length ≤ 1000000000 := (by rw [List.length_append]; show _ + 1 ≤ _; omega)))
    obtain ⟨L3, E3⟩ : ∃ L, L2 ++ [124] ++ (decB 0 n).data.toList = L := ⟨_, rfl⟩
    have Z3 : L3.length ≤ 408 := by
      have := decB_size 0 n; have e9 := list_size (decB 0 n)
      rw [← E3, List.length_append, List.length_append]; show _ + 1 + _ ≤ _; omega
    rw [E3] at JJ3
    have HE3 : Hid (L2 ++ [124] ++ (decB 0 n).data.toList = L3) := E3
    clear E3 bd3 Jd3 BD3 C3 Jn3 n3 cn3 Ln3 m3 JJ2 B2 Z2
    have hH : (headS nm nx' sb n).data.toList = L3 := by
      rw [← HE3.out, ← HE2.out, ← HE1.out, ← HE0.out, fieldT_user un.out]
      unfold headS
      simp only [ByteArray.data_append, Array.toList_append, List.nil_append, List.append_assoc]
    rw [← hH] at JJ3
    clear hH HE3 HE2 HE1 HE0 Z3
    obtain ⟨H, hH⟩ : ∃ H, headS nm nx' sb n = H := ⟨_, rfl⟩
    have NE : Hid ((rnkS (memS (headS nm nx' sb n) U N R n) KU KR z).data.toList ≠ []) := rnkS_ne (memS_ne (headS_ne nm nx' sb n) _) _
    rw [hH] at zM zK JJ3 NE HRS
    clear hH
    obtain ⟨x0, x1, x2, x3, x4⟩ := (LATER.out _ B3).1
    go_wp2_with fail
    clear x0 x1 x2 x3 x4
    go_loopw [30] (fun i wr => ∃ k : Nat, k ≤ n ∧ i = .int .i64 k ∧ Jw b (memS H U N R k).data.toList wr ∧ RowKit.Below b vb wr) (fun i _ => n - (RowKit.intOf i).toNat)
    case atStart => exact ⟨0, Nat.zero_le _, rfl, JJ3, B3⟩
    case round =>
      obtain ⟨k, hk, rfl, JK, BK⟩ := hrel
      by_cases hlt : k < n
      · obtain ⟨o9, c9, e9', -, -, hc9⟩ := (LATER.out _ BK).2.2.1
        injection e9' with e91 e92 e93
        subst e91 e93
        obtain ⟨bm, f, ho, hbm, d0, d1, d2⟩ := hc9 k hlt
        subst ho
        have i1 : (0 : Int) ≤ (k : Int) := by omega
        have i2 : (k : Int) < (n : Int) := by omega
        obtain ⟨z0, z1, z2, z3, z4⟩ := A6.out k hlt
        obtain ⟨r, hr⟩ := Int.eq_ofNat_of_zero_le z3
        have zO := zM.out k hk
        have HP : Hid ((memS H U N R (k + 1)).data.toList = (memS H U N R k).data.toList ++ [124] ++ (fieldT (U k)).data.toList ++ [124] ++ (fieldT (N k)).data.toList ++ [124] ++ (decB 0 r).data.toList) := by
          show _ = _
          rw [fieldT_user z0, memS, hr, Int.toNat_natCast]
          simp only [ByteArray.data_append, Array.toList_append]
        rw [hr] at d2 z4
        have zl := list_size (memS H U N R k)
        obtain ⟨u9, hu9⟩ : ∃ x, U k = x := ⟨_, rfl⟩
        obtain ⟨v9, hv9⟩ : ∃ x, N k = x := ⟨_, rfl⟩
        obtain ⟨L0, hL0⟩ : ∃ x, (memS H U N R k).data.toList = x := ⟨_, rfl⟩
        rw [hL0] at HP JK zl
        rw [hu9] at HP d0 z1
        rw [hv9] at HP d1 z2
        have Z0 : L0.length ≤ 2400 := by omega
        clear hu9 hv9 hL0 z0 z3 hr zl zO hc9
        have hMb : wr.heap.size ≠ b := by have := JK.2; omega
        obtain ⟨V, hV⟩ : ∃ V, wr.alloc (.cells #[.string u9, .string v9, .int .i64 (r : Int)] 56) = V := ⟨_, rfl⟩
        have bV0 : RowKit.Below wr.heap.size wr V := by rw [← hV]; exact below_alloc wr _
        have JV : Jw b L0 V := JK.below bV0
        have BV : RowKit.Below b vb V := BK.trans (bV0.mono (Nat.le_of_lt JK.2))
        have AV : At3 wr.heap.size u9 v9 (r : Int) V := by rw [← hV]; exact World.alloc_heap_new wr _
        have HV : Hid (wr.alloc (.cells #[.string u9, .string v9, .int .i64 (r : Int)] 56) = V) := hV
        obtain ⟨M, hM⟩ : ∃ M, wr.heap.size = M := ⟨_, rfl⟩
        clear hV bV0 JK BK
        go_wp2_with fail
        rw [HV.out]
        rw [hM] at hMb AV; try rw [hM]
        clear HV hM d0 d1 d2
        have bd1 : RowKit.Below V.heap.size V V.drew := (Below.refl _ _).drew
        have Jd1 := JV.below bd1
        have BD1 : RowKit.Below b vb V.drew := BV.drew
        have AD1 := AV.kept hMb (Kept.low bd1)
        have CD1 := AD1.cell.1
        go_region_held3 (fun W => W.cell? ⟨M, 0, none⟩ = some (.string u9))
          (first | exact CW1 | exact CN1 | exact CD1 | go_keep)
          (first
            | (go_at_call 22; refine (jwMarked_kept b u9 (by omega) _ _ Jn1 Ln1).mono ?_; rintro e Y1 ⟨rfl, JY1, m1, kk1⟩; have BY1 := cn1.trans m1; have AY1 := AN1.kept hMb kk1; have CW1 := AY1.cell.1)
            | (go_at_call 23; refine (jwNext_kept b _ _ Jd1 (by omega)).mono ?_; rintro e wn1 ⟨rfl, Jn1, n1, kn1⟩; have cn1 : RowKit.Below b vb wn1 := BD1.trans n1; have AN1 := AD1.kept hMb kn1; have CN1 := AN1.cell.1; have Ln1 : (L0 ++ [124]).length ≤ 1000000000 := (by rw [List.length_append]; show _ + 1 ≤ _; omega)))
        obtain ⟨L1, E1⟩ : ∃ L, L0 ++ [124] ++ (fieldT u9).data.toList = L := ⟨_, rfl⟩
        have Z1 : L1.length ≤ 2601 := by
          have := fieldT_size u9; have e9 := list_size (fieldT u9)
          rw [← E1, List.length_append, List.length_append]; show _ + 1 + _ ≤ _; omega
        rw [E1] at JY1 HP
        clear E1 bd1 Jd1 BD1 CD1 AD1 Jn1 n1 kn1 cn1 AN1 CN1 Ln1 m1 kk1 CW1 JV BV AV Z0
        go_wp2_with fail
        have bd2 : RowKit.Below Y1.heap.size Y1 Y1.drew := (Below.refl _ _).drew
        have Jd2 := JY1.below bd2
        have BD2 : RowKit.Below b vb Y1.drew := BY1.drew
        have AD2 := AY1.kept hMb (Kept.low bd2)
        have CD2 := AD2.cell.2.1
        go_region_held3 (fun W => W.cell? ⟨M, 1, none⟩ = some (.string v9))
          (first | exact CW2 | exact CN2 | exact CD2 | go_keep)
          (first
            | (go_at_call 22; refine (jwMarked_kept b v9 (by omega) _ _ Jn2 Ln2).mono ?_; rintro e Y2 ⟨rfl, JY2, m2, kk2⟩; have BY2 := cn2.trans m2; have AY2 := AN2.kept hMb kk2; have CW2 := AY2.cell.2.1)
            | (go_at_call 23; refine (jwNext_kept b _ _ Jd2 (by omega)).mono ?_; rintro e wn2 ⟨rfl, Jn2, n2, kn2⟩; have cn2 : RowKit.Below b vb wn2 := BD2.trans n2; have AN2 := AD2.kept hMb kn2; have CN2 := AN2.cell.2.1; have Ln2 : (L1 ++ [124]).length ≤ 1000000000 := (by rw [List.length_append]; show _ + 1 ≤ _; omega)))
        obtain ⟨L2, E2⟩ : ∃ L, L1 ++ [124] ++ (fieldT v9).data.toList = L := ⟨_, rfl⟩
        have Z2 : L2.length ≤ 2802 := by
          have := fieldT_size v9; have e9 := list_size (fieldT v9)
          rw [← E2, List.length_append, List.length_append]; show _ + 1 + _ ≤ _; omega
        rw [E2] at JY2 HP
        clear E2 bd2 Jd2 BD2 CD2 AD2 Jn2 n2 kn2 cn2 AN2 CN2 Ln2 m2 kk2 CW2 JY1 BY1 AY1 Z1
        go_wp2_with fail
        have bd3 : RowKit.Below Y2.heap.size Y2 Y2.drew := (Below.refl _ _).drew
        have Jd3 := JY2.below bd3
        have BD3 : RowKit.Below b vb Y2.drew := BY2.drew
        have AD3 := AY2.kept hMb (Kept.low bd3)
        have CD3 := AD3.cell.2.2
        go_region_held3 (fun W => W.cell? ⟨M, 2, none⟩ = some (.int .i64 (r : Int)))
          (first | exact CW3 | exact CN3 | exact CD3 | go_keep)
          (first
            | (go_at_call 24; refine (jwNumber_kept b 0 r (by omega) (by omega) _ _ (LATER.out _ cn3).2.1 Jn3 Ln3).mono ?_; rintro e Y3 ⟨rfl, JY3, m3, kk3⟩; have BY3 := cn3.trans m3; have AY3 := AN3.kept hMb kk3; have CW3 := AY3.cell.2.2)
            | (go_at_call 23; refine (jwNext_kept b _ _ Jd3 (by omega)).mono ?_; rintro e wn3 ⟨rfl, Jn3, n3, kn3⟩; have cn3 : RowKit.Below b vb wn3 := BD3.trans n3; have AN3 := AD3.kept hMb kn3; have CN3 := AN3.cell.2.2; have Ln3 : (L2 ++ [124]).length ≤ 1000000000 := (by rw [List.length_append]; show _ + 1 ≤ _; omega)))
        obtain ⟨L3, E3⟩ : ∃ L, L2 ++ [124] ++ (decB 0 r).data.toList = L := ⟨_, rfl⟩
        have Z3 : L3.length ≤ 2804 := by
          have := decB_size 0 r; have e9 := list_size (decB 0 r)
          rw [← E3, List.length_append, List.length_append]; show _ + 1 + _ ≤ _; omega
        rw [E3] at JY3 HP
        clear E3 bd3 Jd3 BD3 CD3 AD3 Jn3 n3 kn3 cn3 AN3 CN3 Ln3 m3 kk3 CW3 JY2 BY2 AY2 Z2
        rw [← HP.out] at JY3
        go_wp2_with fail
        go_roundw
        case rel => exact ⟨k + 1, by omega, by go_num, JY3, BY3⟩
        case measure => simp [RowKit.intOf]; omega
      · obtain rfl : k = n := by omega
        obtain ⟨x0, x1, x2, x3, x4⟩ := (LATER.out _ BK).1
        go_wp2_with fail
        clear x0 x1 x2 x3 x4
        go_loopw [50] (fun i wr => ∃ q : Nat, q ≤ z ∧ i = .int .i64 q ∧ Jw b (rnkS (memS H U N R k) KU KR q).data.toList wr ∧ RowKit.Below b vb wr) (fun i _ => z - (RowKit.intOf i).toNat)
        case atStart => exact ⟨0, Nat.zero_le _, rfl, JK, BK⟩
        case round =>
          obtain ⟨q, hq, rfl, JQ, BQ⟩ := hrel
          by_cases hlq : q < z
          · obtain ⟨o9, c9, e9', -, -, hc9⟩ := (LATER.out _ BQ).2.2.2
            injection e9' with e91 e92 e93
            subst e91 e93
            obtain ⟨bm, f, ho, hbm, d0, d1⟩ := hc9 q hlq
            subst ho
            have i1 : (0 : Int) ≤ (q : Int) := by omega
            have i2 : (q : Int) < (z : Int) := by omega
            obtain ⟨z0, z1, z3, z4⟩ := A7.out q hlq
            obtain ⟨r, hr⟩ := Int.eq_ofNat_of_zero_le z3
            have zO := zK.out q hq
            have HP : Hid ((rnkS (memS H U N R k) KU KR (q + 1)).data.toList = (rnkS (memS H U N R k) KU KR q).data.toList ++ [124] ++ (fieldT (KU q)).data.toList ++ [124] ++ (decB 0 r).data.toList) := by
              show _ = _
              rw [fieldT_user z0, rnkS, hr, Int.toNat_natCast]
              simp only [ByteArray.data_append, Array.toList_append]
            rw [hr] at d1 z4
            have zl := list_size (rnkS (memS H U N R k) KU KR q)
            obtain ⟨u9, hu9⟩ : ∃ x, KU q = x := ⟨_, rfl⟩
            obtain ⟨L0, hL0⟩ : ∃ x, (rnkS (memS H U N R k) KU KR q).data.toList = x := ⟨_, rfl⟩
            rw [hL0] at HP JQ zl
            rw [hu9] at HP d0 z1
            have Z0 : L0.length ≤ 3600 := by omega
            clear hu9 hL0 z0 z3 hr zl zO hc9
            have hMb : wr.heap.size ≠ b := by have := JQ.2; omega
            obtain ⟨V, hV⟩ : ∃ V, wr.alloc (.cells #[.string u9, .int .i64 (r : Int)] 58) = V := ⟨_, rfl⟩
            have bV0 : RowKit.Below wr.heap.size wr V := by rw [← hV]; exact below_alloc wr _
            have JV : Jw b L0 V := JQ.below bV0
            have BV : RowKit.Below b vb V := BQ.trans (bV0.mono (Nat.le_of_lt JQ.2))
            have AV : At2 wr.heap.size u9 (r : Int) V := by rw [← hV]; exact World.alloc_heap_new wr _
            have HV : Hid (wr.alloc (.cells #[.string u9, .int .i64 (r : Int)] 58) = V) := hV
            obtain ⟨M, hM⟩ : ∃ M, wr.heap.size = M := ⟨_, rfl⟩
            clear hV bV0 JQ BQ
            go_wp2_with fail
            rw [HV.out]
            rw [hM] at hMb AV; try rw [hM]
            clear HV hM d0 d1
            have bd1 : RowKit.Below V.heap.size V V.drew := (Below.refl _ _).drew
            have Jd1 := JV.below bd1
            have BD1 : RowKit.Below b vb V.drew := BV.drew
            have AD1 := AV.kept hMb (Kept.low bd1)
            have CD1 := AD1.cell.1
            go_region_held3 (fun W => W.cell? ⟨M, 0, none⟩ = some (.string u9))
              (first | exact CW1 | exact CN1 | exact CD1 | go_keep)
              (first
                | (go_at_call 22; refine (jwMarked_kept b u9 (by omega) _ _ Jn1 Ln1).mono ?_; rintro e Y1 ⟨rfl, JY1, m1, kk1⟩; have BY1 := cn1.trans m1; have AY1 := AN1.kept hMb kk1; have CW1 := AY1.cell.1)
                | (go_at_call 23; refine (jwNext_kept b _ _ Jd1 (by omega)).mono ?_; rintro e wn1 ⟨rfl, Jn1, n1, kn1⟩; have cn1 : RowKit.Below b vb wn1 := BD1.trans n1; have AN1 := AD1.kept hMb kn1; have CN1 := AN1.cell.1; have Ln1 : (L0 ++ [124]).length ≤ 1000000000 := (by rw [List.length_append]; show _ + 1 ≤ _; omega)))
            obtain ⟨L1, E1⟩ : ∃ L, L0 ++ [124] ++ (fieldT u9).data.toList = L := ⟨_, rfl⟩
            have Z1 : L1.length ≤ 3801 := by
              have := fieldT_size u9; have e9 := list_size (fieldT u9)
              rw [← E1, List.length_append, List.length_append]; show _ + 1 + _ ≤ _; omega
            rw [E1] at JY1 HP
            clear E1 bd1 Jd1 BD1 CD1 AD1 Jn1 n1 kn1 cn1 AN1 CN1 Ln1 m1 kk1 CW1 JV BV AV Z0
            go_wp2_with fail
            have bd2 : RowKit.Below Y1.heap.size Y1 Y1.drew := (Below.refl _ _).drew
            have Jd2 := JY1.below bd2
            have BD2 : RowKit.Below b vb Y1.drew := BY1.drew
            have AD2 := AY1.kept hMb (Kept.low bd2)
            have CD2 := AD2.cell.2
            go_region_held3 (fun W => W.cell? ⟨M, 1, none⟩ = some (.int .i64 (r : Int)))
              (first | exact CW2 | exact CN2 | exact CD2 | go_keep)
              (first
                | (go_at_call 24; refine (jwNumber_kept b 0 r (by omega) (by omega) _ _ (LATER.out _ cn2).2.1 Jn2 Ln2).mono ?_; rintro e Y2 ⟨rfl, JY2, m2, kk2⟩; have BY2 := cn2.trans m2; have AY2 := AN2.kept hMb kk2; have CW2 := AY2.cell.2)
                | (go_at_call 23; refine (jwNext_kept b _ _ Jd2 (by omega)).mono ?_; rintro e wn2 ⟨rfl, Jn2, n2, kn2⟩; have cn2 : RowKit.Below b vb wn2 := BD2.trans n2; have AN2 := AD2.kept hMb kn2; have CN2 := AN2.cell.2; have Ln2 : (L1 ++ [124]).length ≤ 1000000000 := (by rw [List.length_append]; show _ + 1 ≤ _; omega)))
            obtain ⟨L2, E2⟩ : ∃ L, L1 ++ [124] ++ (decB 0 r).data.toList = L := ⟨_, rfl⟩
            have Z2 : L2.length ≤ 3803 := by
              have := decB_size 0 r; have e9 := list_size (decB 0 r)
              rw [← E2, List.length_append, List.length_append]; show _ + 1 + _ ≤ _; omega
            rw [E2] at JY2 HP
            clear E2 bd2 Jd2 BD2 CD2 AD2 Jn2 n2 kn2 cn2 AN2 CN2 Ln2 m2 kk2 CW2 JY1 BY1 AY1 Z1
            rw [← HP.out] at JY2
            go_wp2_with fail
            go_roundw
            case rel => exact ⟨q + 1, by omega, by go_num, JY2, BY2⟩
            case measure => simp [RowKit.intOf]; omega
          · obtain rfl : q = z := by omega
            have hne : (rnkS (memS H U N R k) KU KR q).data.toList ≠ [] := NE.out
            go_wp2_with fail
            refine (stringT_some liesJ b b _ _ JQ.1 hne).mono ?_
            rintro e W9 ⟨rfl, _, b9, _⟩
            go_wp2_with fail
            go_ret
            exact ⟨ret_str HRS.out, OUT.out _ (BQ.trans b9)⟩
end Go.Proofs.YtglbjibilllopaaDoor.Hub
