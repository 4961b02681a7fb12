/-
  The program's PathPut.
-/
import Derived.Test.YtocpbcghkphcgaaPathPutD
namespace Go.Proofs.Ytocpbcghkphcgaa.Hub
open Go.RowKit
set_option linter.unusedVariables false
set_option linter.unusedSimpArgs false

theorem bc_str (acc : List UInt8) (s : ByteArray) : Lib.byteCells acc ++ Lib.strCells s = Lib.byteCells (acc ++ s.data.toList) := by simp [Lib.byteCells, Lib.strCells]
/-- A text written behind what a builder holds; blocks that are no bytes stand. -/
theorem write_kept (B : Nat) (acc : List UInt8) (s : ByteArray) (w : World) (h : Lib.IsBuilderF 44 5 B B (Lib.byteCells acc) w) (hlen : acc.length + s.size ≤ 140737488355328) (hBw : B ≤ w.heap.size) :
    Calls Try.prog 25 #[.pointer (some ⟨B, 0, none⟩), .string s] w fun e w' => e = .returned (.tuple #[.int .i64 s.size, .nilIface]) ∧ Lib.IsBuilderF 44 5 B B (Lib.byteCells (acc ++ s.data.toList)) w' ∧ Below B w w' ∧ Lib.OthersKept 5 (some B) w w' := by
  refine (writeString_any B B _ s w h (by rw [Lib.byteCells_length]; exact hlen) hBw).mono ?_
  rintro e w' ⟨rfl, h1, b1, k1⟩
  rw [bc_str] at h1
  exact ⟨rfl, .inr h1, b1, k1⟩
theorem four_cells {W : World} {E : Nat} {T : TypeId} {c0 c1 c2 c3 : Value} (h : W.heap[E]? = some (.cells #[c0, c1, c2, c3] T (0, 0))) : W.cell? ⟨E, 0, none⟩ = some c0 ∧ W.cell? ⟨E, 1, none⟩ = some c1 ∧ W.cell? ⟨E, 2, none⟩ = some c2 ∧ W.cell? ⟨E, 3, none⟩ = some c3 := by
  simp only [World.cell?, h]
  exact ⟨rfl, rfl, rfl, rfl⟩

set_option maxRecDepth 100000 in
set_option maxHeartbeats 40000000 in
theorem implPathPut_any (v : Value) (n : Nat) (D : Nat → Bool) (N A T : Nat → ByteArray) (w : World) (hm : StepAt w v n D N A T) (hs : ∀ j, j < n → (N j).size ≤ 1048576 ∧ (A j).size ≤ 1048576 ∧ (T j).size ≤ 1048576) :
    Calls Try.prog 12 #[v] w fun e w' => e = .returned (.string (pputT D N A T n)) ∧ Below w.heap.size w w' := by
  have c := implPathOk_any v n D N A T w hm hs
  have HM : Hid (∀ W, Below w.heap.size w W → StepAt W v n D N A T) := fun W bb => hm.below bb
  obtain ⟨o, cap, rfl, g1, g2', -⟩ := hm
  have g2 : cap ≤ 9223372036854775807 := g2'
  clear hs g2'
  unfold pputT
  cases hp : pathT N A T n
  · rw [hp] at c
    clear hp
    go_enter Try.func12, Try.ntmps12
    go_wp2_with (go_at_call 14; go_fit c; rintro e w1 ⟨rfl, b1⟩)
    go_ret
    exact ⟨rfl, b1⟩
  · have hq := hp
    unfold pathT at hq
    rw [Bool.and_eq_true, decide_eq_true_eq] at hq
    obtain ⟨⟨-, h5⟩, hok⟩ := hq
    have HL : Hid (∀ k, k ≤ n → (putL D N A T k).length ≤ 45 * k) := putL_len hok
    have HZ : Hid (∀ j, j < n → (N j).size ≤ 12 ∧ (A j).size ≤ 12 ∧ (T j).size ≤ 10) := fun j hj => steps_at hok hj
    rw [hp] at c
    clear hp hok
    have HPS : Hid (putS D N A T n = ⟨(putL D N A T n).toArray⟩) := rfl
    rw [if_pos rfl]
    obtain ⟨PS, hPS⟩ : ∃ PS, putS D N A T n = PS := ⟨_, rfl⟩
    rw [hPS] at HPS ⊢
    clear hPS
    go_enter Try.func12, Try.ntmps12
    go_wp2_with (go_at_call 14; go_fit c; rintro e v1 ⟨rfl, b1⟩)
    go_loopw [11] (fun i wr => ∃ k : Nat, k ≤ n ∧ i = .int .i64 k ∧ Lib.IsBuilderF 44 5 v1.heap.size v1.heap.size (Lib.byteCells (putL D N A T k)) wr ∧ Below v1.heap.size v1 wr ∧ v1.heap.size < wr.heap.size) (fun i _ => n - (intOf i).toNat)
    case atStart => exact ⟨0, Nat.zero_le _, rfl, Lib.IsBuilderF.of (Lib.fresh_isBuilder 44 5 v1), (Below.refl _ v1).alloc (Nat.le_refl _) _, by simp⟩
    case round =>
      obtain ⟨k, hk, rfl, I0, bw, lw⟩ := hrel
      have hL := HL.out k hk
      by_cases hlt : k < n
      · obtain ⟨o9, c9, e9', -, -, hc9⟩ := HM.out wr (b1.trans (bw.mono b1.size))
        injection e9' with e91 e92 e93
        subst e91 e93
        obtain ⟨b, f, ho, hb, d0, d1, d2, d3⟩ := hc9 k hlt
        subst ho
        have i1 : (0 : Int) ≤ (k : Int) := by omega
        have i2 : (k : Int) < (n : Int) := by omega
        obtain ⟨z1, z2, z3⟩ := HZ.out k hlt
        have HP : Hid (putL D N A T (k + 1) = putL D N A T k ++ stepL k (D k) (N k) (A k) (T k)) := rfl
        obtain ⟨n9, hn9⟩ : ∃ x, N k = x := ⟨_, rfl⟩
        obtain ⟨a9, ha9⟩ : ∃ x, A k = x := ⟨_, rfl⟩
        obtain ⟨t9, ht9⟩ : ∃ x, T k = x := ⟨_, rfl⟩
        obtain ⟨e9, he9⟩ : ∃ x, D k = x := ⟨_, rfl⟩
        have HQ := HP.out
        rw [hn9, ha9, ht9, he9] at HQ
        have HP2 : Hid (putL D N A T (k + 1) = putL D N A T k ++ stepL k e9 n9 a9 t9) := HQ
        rw [hn9] at z1 d1
        rw [ha9] at z2 d2
        rw [ht9] at z3 d3
        rw [he9] at d0
        obtain ⟨V, hV⟩ : ∃ V, wr.alloc (.cells #[.bool e9, .string n9, .string a9, .string t9] 37) = V := ⟨_, rfl⟩
        have IV : Lib.IsBuilderF 44 5 v1.heap.size v1.heap.size (Lib.byteCells (putL D N A T k)) V := by rw [← hV]; exact I0.alloc _
        have bV : Below v1.heap.size v1 V := by rw [← hV]; exact bw.alloc bw.size _
        have eV : V.heap[wr.heap.size]? = some (.cells #[.bool e9, .string n9, .string a9, .string t9] 37 (0, 0)) := by rw [← hV]; exact World.alloc_heap_new wr _
        have lV : v1.heap.size < V.heap.size := by rw [← hV]; simp; omega
        have HV : Hid (wr.alloc (.cells #[.bool e9, .string n9, .string a9, .string t9] 37) = V) := hV
        have hln : n9.data.toList.length = n9.size := rfl
        have q1 : (⟨#[47, 47]⟩ : ByteArray).data.toList.length = 2 := rfl
        have q2 : (⟨#[47]⟩ : ByteArray).data.toList.length = 1 := rfl
        have s1 : (⟨#[47, 47]⟩ : ByteArray).size = 2 := rfl
        have s2 : (⟨#[47]⟩ : ByteArray).size = 1 := rfl
        clear hn9 ha9 ht9 he9 HP HQ hV I0 hc9
        by_cases hae : a9 = ⟨#[]⟩
        · subst hae
          cases e9
          · by_cases hk0 : k = 0
            · have hkp : ¬ (0 : Int) < (k : Int) := by omega
              have hkq : ¬ 0 < k := by omega
              clear hk0
              obtain ⟨y0, y1, y2, y3⟩ := four_cells eV
              go_wp2_with fail
              rw [HV.out]
              refine (write_kept v1.heap.size (putL D N A T k) n9 V IV (by (try simp only [List.length_append]); omega) (by omega)).mono ?_
              rintro e Y1 ⟨rfl, IY1, pY1, kY1⟩
              have bY1 := bV.trans pY1
              have eY1 := kY1 wr.heap.size _ eV (fun e => by have := Option.some.inj e; omega) (fun c fz e => by injection e with e1 e2; exact absurd e2 (by decide))
              have lY1 : v1.heap.size < Y1.heap.size := Nat.lt_of_le_of_lt (Nat.le_of_lt lw) (Array.getElem?_eq_some_iff.1 eY1).1
              clear y0 y1 y2 y3
              obtain ⟨y0, y1, y2, y3⟩ := four_cells eY1
              have hacc : putL D N A T (k + 1) = putL D N A T k ++ (n9 : ByteArray).data.toList := by rw [HP2.out]; unfold stepL; simp [hkq]
              rw [← hacc] at IY1
              clear hacc
              try go_wp2_with fail
              go_roundw
              case rel => exact ⟨k + 1, by omega, by go_num, IY1, bY1, lY1⟩
              case measure => simp [intOf]; omega
            · have hkp : (0 : Int) < (k : Int) := by omega
              have hkq : 0 < k := by omega
              clear hk0
              obtain ⟨y0, y1, y2, y3⟩ := four_cells eV
              go_wp2_with fail
              rw [HV.out]
              refine (write_kept v1.heap.size (putL D N A T k) ⟨#[47]⟩ V IV (by (try simp only [List.length_append]); omega) (by omega)).mono ?_
              rintro e Y1 ⟨rfl, IY1, pY1, kY1⟩
              have bY1 := bV.trans pY1
              have eY1 := kY1 wr.heap.size _ eV (fun e => by have := Option.some.inj e; omega) (fun c fz e => by injection e with e1 e2; exact absurd e2 (by decide))
              have lY1 : v1.heap.size < Y1.heap.size := Nat.lt_of_le_of_lt (Nat.le_of_lt lw) (Array.getElem?_eq_some_iff.1 eY1).1
              clear y0 y1 y2 y3
              obtain ⟨y0, y1, y2, y3⟩ := four_cells eY1
              go_wp2_with fail
              refine (write_kept v1.heap.size (putL D N A T k ++ (⟨#[47]⟩ : ByteArray).data.toList) n9 Y1 IY1 (by (try simp only [List.length_append]); omega) (by omega)).mono ?_
              rintro e Y2 ⟨rfl, IY2, pY2, kY2⟩
              have bY2 := bY1.trans pY2
              have eY2 := kY2 wr.heap.size _ eY1 (fun e => by have := Option.some.inj e; omega) (fun c fz e => by injection e with e1 e2; exact absurd e2 (by decide))
              have lY2 : v1.heap.size < Y2.heap.size := Nat.lt_of_le_of_lt (Nat.le_of_lt lw) (Array.getElem?_eq_some_iff.1 eY2).1
              clear y0 y1 y2 y3
              obtain ⟨y0, y1, y2, y3⟩ := four_cells eY2
              have hacc : putL D N A T (k + 1) = putL D N A T k ++ (⟨#[47]⟩ : ByteArray).data.toList ++ (n9 : ByteArray).data.toList := by rw [HP2.out]; unfold stepL; simp [hkq]
              rw [← hacc] at IY2
              clear hacc
              try go_wp2_with fail
              go_roundw
              case rel => exact ⟨k + 1, by omega, by go_num, IY2, bY2, lY2⟩
              case measure => simp [intOf]; omega
          · skip
            obtain ⟨y0, y1, y2, y3⟩ := four_cells eV
            go_wp2_with fail
            rw [HV.out]
            refine (write_kept v1.heap.size (putL D N A T k) ⟨#[47, 47]⟩ V IV (by (try simp only [List.length_append]); omega) (by omega)).mono ?_
            rintro e Y1 ⟨rfl, IY1, pY1, kY1⟩
            have bY1 := bV.trans pY1
            have eY1 := kY1 wr.heap.size _ eV (fun e => by have := Option.some.inj e; omega) (fun c fz e => by injection e with e1 e2; exact absurd e2 (by decide))
            have lY1 : v1.heap.size < Y1.heap.size := Nat.lt_of_le_of_lt (Nat.le_of_lt lw) (Array.getElem?_eq_some_iff.1 eY1).1
            clear y0 y1 y2 y3
            obtain ⟨y0, y1, y2, y3⟩ := four_cells eY1
            go_wp2_with fail
            refine (write_kept v1.heap.size (putL D N A T k ++ (⟨#[47, 47]⟩ : ByteArray).data.toList) n9 Y1 IY1 (by (try simp only [List.length_append]); omega) (by omega)).mono ?_
            rintro e Y2 ⟨rfl, IY2, pY2, kY2⟩
            have bY2 := bY1.trans pY2
            have eY2 := kY2 wr.heap.size _ eY1 (fun e => by have := Option.some.inj e; omega) (fun c fz e => by injection e with e1 e2; exact absurd e2 (by decide))
            have lY2 : v1.heap.size < Y2.heap.size := Nat.lt_of_le_of_lt (Nat.le_of_lt lw) (Array.getElem?_eq_some_iff.1 eY2).1
            clear y0 y1 y2 y3
            obtain ⟨y0, y1, y2, y3⟩ := four_cells eY2
            have hacc : putL D N A T (k + 1) = putL D N A T k ++ (⟨#[47, 47]⟩ : ByteArray).data.toList ++ (n9 : ByteArray).data.toList := by rw [HP2.out]; unfold stepL; simp []
            rw [← hacc] at IY2
            clear hacc
            try go_wp2_with fail
            go_roundw
            case rel => exact ⟨k + 1, by omega, by go_num, IY2, bY2, lY2⟩
            case measure => simp [intOf]; omega
        · have h3 := ne_none hae
          cases e9
          · by_cases hk0 : k = 0
            · have hkp : ¬ (0 : Int) < (k : Int) := by omega
              have hkq : ¬ 0 < k := by omega
              clear hk0
              obtain ⟨Q, hQ⟩ : ∃ Q : ByteArray, (⟨#[91]⟩ : ByteArray) ++ a9 ++ ⟨#[61, 39]⟩ ++ t9 ++ ⟨#[39, 93]⟩ = Q := ⟨_, rfl⟩
              have hQl : Q.data.toList = 91 :: (a9.data.toList ++ ([61, 39] ++ (t9.data.toList ++ [39, 93]))) := by rw [← hQ]; simp
              have hQs : Q.size ≤ 29 := by
                have h1 : Q.data.toList.length = Q.size := rfl
                have h2 : a9.data.toList.length = a9.size := rfl
                have h4 : t9.data.toList.length = t9.size := rfl
                rw [hQl] at h1
                simp only [List.length_cons, List.length_append, List.length_nil] at h1
                omega
              have hQn : Q.data.toList.length = Q.size := rfl
              obtain ⟨y0, y1, y2, y3⟩ := four_cells eV
              go_wp2_with fail
              rw [HV.out]
              refine (write_kept v1.heap.size (putL D N A T k) n9 V IV (by (try simp only [List.length_append]); omega) (by omega)).mono ?_
              rintro e Y1 ⟨rfl, IY1, pY1, kY1⟩
              have bY1 := bV.trans pY1
              have eY1 := kY1 wr.heap.size _ eV (fun e => by have := Option.some.inj e; omega) (fun c fz e => by injection e with e1 e2; exact absurd e2 (by decide))
              have lY1 : v1.heap.size < Y1.heap.size := Nat.lt_of_le_of_lt (Nat.le_of_lt lw) (Array.getElem?_eq_some_iff.1 eY1).1
              clear y0 y1 y2 y3
              obtain ⟨y0, y1, y2, y3⟩ := four_cells eY1
              go_wp2_with fail
              try rw [hQ]
              clear hQ
              refine (write_kept v1.heap.size (putL D N A T k ++ (n9 : ByteArray).data.toList) Q Y1 IY1 (by (try simp only [List.length_append]); omega) (by omega)).mono ?_
              rintro e Y2 ⟨rfl, IY2, pY2, kY2⟩
              have bY2 := bY1.trans pY2
              have eY2 := kY2 wr.heap.size _ eY1 (fun e => by have := Option.some.inj e; omega) (fun c fz e => by injection e with e1 e2; exact absurd e2 (by decide))
              have lY2 : v1.heap.size < Y2.heap.size := Nat.lt_of_le_of_lt (Nat.le_of_lt lw) (Array.getElem?_eq_some_iff.1 eY2).1
              clear y0 y1 y2 y3
              obtain ⟨y0, y1, y2, y3⟩ := four_cells eY2
              have hacc : putL D N A T (k + 1) = putL D N A T k ++ (n9 : ByteArray).data.toList ++ (Q : ByteArray).data.toList := by rw [HP2.out]; unfold stepL; simp [hkq, hae, hQl]
              rw [← hacc] at IY2
              clear hacc
              try go_wp2_with fail
              go_roundw
              case rel => exact ⟨k + 1, by omega, by go_num, IY2, bY2, lY2⟩
              case measure => simp [intOf]; omega
            · have hkp : (0 : Int) < (k : Int) := by omega
              have hkq : 0 < k := by omega
              clear hk0
              obtain ⟨Q, hQ⟩ : ∃ Q : ByteArray, (⟨#[91]⟩ : ByteArray) ++ a9 ++ ⟨#[61, 39]⟩ ++ t9 ++ ⟨#[39, 93]⟩ = Q := ⟨_, rfl⟩
              have hQl : Q.data.toList = 91 :: (a9.data.toList ++ ([61, 39] ++ (t9.data.toList ++ [39, 93]))) := by rw [← hQ]; simp
              have hQs : Q.size ≤ 29 := by
                have h1 : Q.data.toList.length = Q.size := rfl
                have h2 : a9.data.toList.length = a9.size := rfl
                have h4 : t9.data.toList.length = t9.size := rfl
                rw [hQl] at h1
                simp only [List.length_cons, List.length_append, List.length_nil] at h1
                omega
              have hQn : Q.data.toList.length = Q.size := rfl
              obtain ⟨y0, y1, y2, y3⟩ := four_cells eV
              go_wp2_with fail
              rw [HV.out]
              refine (write_kept v1.heap.size (putL D N A T k) ⟨#[47]⟩ V IV (by (try simp only [List.length_append]); omega) (by omega)).mono ?_
              rintro e Y1 ⟨rfl, IY1, pY1, kY1⟩
              have bY1 := bV.trans pY1
              have eY1 := kY1 wr.heap.size _ eV (fun e => by have := Option.some.inj e; omega) (fun c fz e => by injection e with e1 e2; exact absurd e2 (by decide))
              have lY1 : v1.heap.size < Y1.heap.size := Nat.lt_of_le_of_lt (Nat.le_of_lt lw) (Array.getElem?_eq_some_iff.1 eY1).1
              clear y0 y1 y2 y3
              obtain ⟨y0, y1, y2, y3⟩ := four_cells eY1
              go_wp2_with fail
              refine (write_kept v1.heap.size (putL D N A T k ++ (⟨#[47]⟩ : ByteArray).data.toList) n9 Y1 IY1 (by (try simp only [List.length_append]); omega) (by omega)).mono ?_
              rintro e Y2 ⟨rfl, IY2, pY2, kY2⟩
              have bY2 := bY1.trans pY2
              have eY2 := kY2 wr.heap.size _ eY1 (fun e => by have := Option.some.inj e; omega) (fun c fz e => by injection e with e1 e2; exact absurd e2 (by decide))
              have lY2 : v1.heap.size < Y2.heap.size := Nat.lt_of_le_of_lt (Nat.le_of_lt lw) (Array.getElem?_eq_some_iff.1 eY2).1
              clear y0 y1 y2 y3
              obtain ⟨y0, y1, y2, y3⟩ := four_cells eY2
              go_wp2_with fail
              try rw [hQ]
              clear hQ
              refine (write_kept v1.heap.size (putL D N A T k ++ (⟨#[47]⟩ : ByteArray).data.toList ++ (n9 : ByteArray).data.toList) Q Y2 IY2 (by (try simp only [List.length_append]); omega) (by omega)).mono ?_
              rintro e Y3 ⟨rfl, IY3, pY3, kY3⟩
              have bY3 := bY2.trans pY3
              have eY3 := kY3 wr.heap.size _ eY2 (fun e => by have := Option.some.inj e; omega) (fun c fz e => by injection e with e1 e2; exact absurd e2 (by decide))
              have lY3 : v1.heap.size < Y3.heap.size := Nat.lt_of_le_of_lt (Nat.le_of_lt lw) (Array.getElem?_eq_some_iff.1 eY3).1
              clear y0 y1 y2 y3
              obtain ⟨y0, y1, y2, y3⟩ := four_cells eY3
              have hacc : putL D N A T (k + 1) = putL D N A T k ++ (⟨#[47]⟩ : ByteArray).data.toList ++ (n9 : ByteArray).data.toList ++ (Q : ByteArray).data.toList := by rw [HP2.out]; unfold stepL; simp [hkq, hae, hQl]
              rw [← hacc] at IY3
              clear hacc
              try go_wp2_with fail
              go_roundw
              case rel => exact ⟨k + 1, by omega, by go_num, IY3, bY3, lY3⟩
              case measure => simp [intOf]; omega
          · skip
            obtain ⟨Q, hQ⟩ : ∃ Q : ByteArray, (⟨#[91]⟩ : ByteArray) ++ a9 ++ ⟨#[61, 39]⟩ ++ t9 ++ ⟨#[39, 93]⟩ = Q := ⟨_, rfl⟩
            have hQl : Q.data.toList = 91 :: (a9.data.toList ++ ([61, 39] ++ (t9.data.toList ++ [39, 93]))) := by rw [← hQ]; simp
            have hQs : Q.size ≤ 29 := by
              have h1 : Q.data.toList.length = Q.size := rfl
              have h2 : a9.data.toList.length = a9.size := rfl
              have h4 : t9.data.toList.length = t9.size := rfl
              rw [hQl] at h1
              simp only [List.length_cons, List.length_append, List.length_nil] at h1
              omega
            have hQn : Q.data.toList.length = Q.size := rfl
            obtain ⟨y0, y1, y2, y3⟩ := four_cells eV
            go_wp2_with fail
            rw [HV.out]
            refine (write_kept v1.heap.size (putL D N A T k) ⟨#[47, 47]⟩ V IV (by (try simp only [List.length_append]); omega) (by omega)).mono ?_
            rintro e Y1 ⟨rfl, IY1, pY1, kY1⟩
            have bY1 := bV.trans pY1
            have eY1 := kY1 wr.heap.size _ eV (fun e => by have := Option.some.inj e; omega) (fun c fz e => by injection e with e1 e2; exact absurd e2 (by decide))
            have lY1 : v1.heap.size < Y1.heap.size := Nat.lt_of_le_of_lt (Nat.le_of_lt lw) (Array.getElem?_eq_some_iff.1 eY1).1
            clear y0 y1 y2 y3
            obtain ⟨y0, y1, y2, y3⟩ := four_cells eY1
            go_wp2_with fail
            refine (write_kept v1.heap.size (putL D N A T k ++ (⟨#[47, 47]⟩ : ByteArray).data.toList) n9 Y1 IY1 (by (try simp only [List.length_append]); omega) (by omega)).mono ?_
            rintro e Y2 ⟨rfl, IY2, pY2, kY2⟩
            have bY2 := bY1.trans pY2
            have eY2 := kY2 wr.heap.size _ eY1 (fun e => by have := Option.some.inj e; omega) (fun c fz e => by injection e with e1 e2; exact absurd e2 (by decide))
            have lY2 : v1.heap.size < Y2.heap.size := Nat.lt_of_le_of_lt (Nat.le_of_lt lw) (Array.getElem?_eq_some_iff.1 eY2).1
            clear y0 y1 y2 y3
            obtain ⟨y0, y1, y2, y3⟩ := four_cells eY2
            go_wp2_with fail
            try rw [hQ]
            clear hQ
            refine (write_kept v1.heap.size (putL D N A T k ++ (⟨#[47, 47]⟩ : ByteArray).data.toList ++ (n9 : ByteArray).data.toList) Q Y2 IY2 (by (try simp only [List.length_append]); omega) (by omega)).mono ?_
            rintro e Y3 ⟨rfl, IY3, pY3, kY3⟩
            have bY3 := bY2.trans pY3
            have eY3 := kY3 wr.heap.size _ eY2 (fun e => by have := Option.some.inj e; omega) (fun c fz e => by injection e with e1 e2; exact absurd e2 (by decide))
            have lY3 : v1.heap.size < Y3.heap.size := Nat.lt_of_le_of_lt (Nat.le_of_lt lw) (Array.getElem?_eq_some_iff.1 eY3).1
            clear y0 y1 y2 y3
            obtain ⟨y0, y1, y2, y3⟩ := four_cells eY3
            have hacc : putL D N A T (k + 1) = putL D N A T k ++ (⟨#[47, 47]⟩ : ByteArray).data.toList ++ (n9 : ByteArray).data.toList ++ (Q : ByteArray).data.toList := by rw [HP2.out]; unfold stepL; simp [hae, hQl]
            rw [← hacc] at IY3
            clear hacc
            try go_wp2_with fail
            go_roundw
            case rel => exact ⟨k + 1, by omega, by go_num, IY3, bY3, lY3⟩
            case measure => simp [intOf]; omega
      · obtain rfl : k = n := by omega
        have HSS := Try.Builder_String_any_k v1.heap.size v1.heap.size (putL D N A T k) wr I0 (by omega)
        rw [← HPS.out] at HSS
        go_wp2_with fail
        go_fit HSS
        rintro e W9 ⟨rfl, _, b9, _⟩
        go_wp2_with fail
        go_ret
        exact ⟨rfl, b1.trans ((bw.trans b9).mono b1.size)⟩
end Go.Proofs.Ytocpbcghkphcgaa.Hub
