/-
  The model's l4Put and JidPut, and the program's JidPut: at every address they answer jputT.
-/
import Derived.Test.YtjpebjmjpilbbaaDoorJidImpl
import Derived.Test.YtjpebjmjpilbbaaDoorBuilder
namespace Go.Proofs.YtjpebjmjpilbbaaDoor.Hub
open Go.RowKit Go.Shelf Go.Proofs
set_option linter.unusedVariables false

/-- How an address is written. -/
def jputL (u h n : List UInt8) : List UInt8 := (if u = [] then [] else u ++ [64]) ++ (h ++ (if n = [] then [] else 47 :: n))
def jput (u h n : ByteArray) : ByteArray := ofL (jputL u.data.toList h.data.toList n.data.toList)
def jputT (u h n : ByteArray) : ByteArray := if jidT u h n = true then jput u h n else ⟨#[]⟩
theorem list_nil {s : ByteArray} (h : s.size = 0) : s.data.toList = [] := List.eq_nil_of_length_eq_zero h
theorem list_ne {s : ByteArray} (h : ¬ s.size = 0) : s.data.toList ≠ [] := fun e => h (by have : s.data.toList.length = s.size := rfl; rw [← this, e]; rfl)
theorem bytes_append (a b : ByteArray) : (a ++ b).data.toList = a.data.toList ++ b.data.toList := by simp
theorem jput_none (u h n : ByteArray) (hu : u.size = 0) (hn : n.size = 0) : jput u h n = h := by
  apply WideShapes.bytes_inj
  simp [jput, jputL, list_nil hu, list_nil hn, ofL]
theorem jput_nick (u h n : ByteArray) (hu : u.size = 0) (hn : ¬ n.size = 0) : jput u h n = h ++ ⟨#[47]⟩ ++ n := by
  apply WideShapes.bytes_inj
  simp [jput, jputL, list_nil hu, list_ne hn, ofL]
theorem jput_user (u h n : ByteArray) (hu : ¬ u.size = 0) (hn : n.size = 0) : jput u h n = u ++ ⟨#[64]⟩ ++ h := by
  apply WideShapes.bytes_inj
  simp [jput, jputL, list_ne hu, list_nil hn, ofL]
theorem jput_both (u h n : ByteArray) (hu : ¬ u.size = 0) (hn : ¬ n.size = 0) : jput u h n = u ++ ⟨#[64]⟩ ++ h ++ ⟨#[47]⟩ ++ n := by
  apply WideShapes.bytes_inj
  simp [jput, jputL, list_ne hu, list_ne hn, ofL]

theorem bc_str (acc : List UInt8) (s : ByteArray) : Lib.byteCells acc ++ Lib.strCells s = Lib.byteCells (acc ++ s.data.toList) := by simp [Lib.byteCells, Lib.strCells]
/-- A text written behind what a builder holds. -/
theorem write_more (B : Nat) (acc : List UInt8) (s : ByteArray) (w : World) (h : Lib.IsBuilderF 58 5 B B (Lib.byteCells acc) w) (hlen : acc.length + s.size ≤ 140737488355328) (hBw : B ≤ w.heap.size) :
    Calls Tryd.prog 26 #[.pointer (some ⟨B, 0, none⟩), .string s] w fun e w' => e = .returned (.tuple #[.int .i64 s.size, .nilIface]) ∧ Lib.IsBuilderF 58 5 B B (Lib.byteCells (acc ++ s.data.toList)) w' ∧ Below B w w' := by
  refine (writeString_any B B _ s w h (by rw [Lib.byteCells_length]; exact hlen) hBw).mono ?_
  rintro e w' ⟨rfl, h1, b1, _⟩
  rw [bc_str] at h1
  exact ⟨rfl, .inr h1, b1⟩

set_option maxRecDepth 100000 in
set_option maxHeartbeats 1000000 in
theorem jidPut_any (u h n : ByteArray) (w : World) (hT : Tabs w) (hu : u.size ≤ 1099511627776) (hh : h.size ≤ 1099511627776) (hn : n.size ≤ 1099511627776) :
    Calls Tryd.prog 9 #[.agg #[.string u, .string h, .string n]] w fun e w' => e = .returned (.string (jputT u h n)) ∧ Below w.heap.size w w' := by
  have b0 : Below w.heap.size w (w.alloc (.cells #[.string u, .string h, .string n] 24)) := (Below.refl _ w).alloc (Nat.le_refl _) _
  have hO := jidOk_any u h n (w.alloc (.cells #[.string u, .string h, .string n] 24)) (Utf8Tabs_below hT b0) hu hh hn
  have n0 : (w.alloc (.cells #[.string u, .string h, .string n] 24)).cell? ⟨w.heap.size, 0, none⟩ = some (.string u) := (cellLit w _ _ 0).trans rfl
  have n1 : (w.alloc (.cells #[.string u, .string h, .string n] 24)).cell? ⟨w.heap.size, 1, none⟩ = some (.string h) := (cellLit w _ _ 1).trans rfl
  have n2 : (w.alloc (.cells #[.string u, .string h, .string n] 24)).cell? ⟨w.heap.size, 2, none⟩ = some (.string n) := (cellLit w _ _ 2).trans rfl
  cases hj : jidT u h n
  · have e : jputT u h n = ⟨#[]⟩ := by unfold jputT; rw [hj]; rfl
    rw [hj] at hO
    rw [e]
    clear e hj
    go_enter Tryd.func9, Tryd.ntmps9
    go_wp2_with (go_at_call 7; go_fit hO; rintro e w1 ⟨rfl, b1⟩)
    go_ret
    exact ⟨rfl, b0.trans (b1.mono b0.size)⟩
  · have e : jputT u h n = jput u h n := by unfold jputT; rw [if_pos hj]
    rw [hj] at hO
    rw [e]
    have HJ : Hid (jput u h n = ofL (jputL u.data.toList h.data.toList n.data.toList)) := (rfl : jput u h n = _)
    clear e hj
    generalize jput u h n = E at *
    have hlu : u.data.toList.length = u.size := rfl
    have hlh : h.data.toList.length = h.size := rfl
    have hln : n.data.toList.length = n.size := rfl
    go_enter Tryd.func9, Tryd.ntmps9
    go_wp2_with (go_at_call 7; go_fit hO)
    rintro e v ⟨rfl, b1⟩
    have c1 := b0.trans (b1.mono b0.size)
    have hbox : ∀ W : World, Below v.heap.size v W → W.cell? ⟨w.heap.size, 0, none⟩ = some (.string u) ∧ W.cell? ⟨w.heap.size, 1, none⟩ = some (.string h) ∧ W.cell? ⟨w.heap.size, 2, none⟩ = some (.string n) := fun W b => by
      have hlt : w.heap.size < v.heap.size := Nat.lt_of_lt_of_le (by simp) b1.size
      exact ⟨(b.cell (p := ⟨w.heap.size, 0, none⟩) hlt).trans ((b1.cell (p := ⟨w.heap.size, 0, none⟩) (by simp)).trans n0), (b.cell (p := ⟨w.heap.size, 1, none⟩) hlt).trans ((b1.cell (p := ⟨w.heap.size, 1, none⟩) (by simp)).trans n1), (b.cell (p := ⟨w.heap.size, 2, none⟩) hlt).trans ((b1.cell (p := ⟨w.heap.size, 2, none⟩) (by simp)).trans n2)⟩
    have HB : Hid (∀ W : World, Below v.heap.size v W → W.cell? ⟨w.heap.size, 0, none⟩ = some (.string u) ∧ W.cell? ⟨w.heap.size, 1, none⟩ = some (.string h) ∧ W.cell? ⟨w.heap.size, 2, none⟩ = some (.string n)) := hbox
    have hI0 := Lib.IsBuilderF.of (Lib.fresh_isBuilder 58 5 v)
    have bel0 : Below v.heap.size v (v.alloc (.cells #[.pointer none, .slice none 0 0] 58)) := (Below.refl _ v).alloc (Nat.le_refl _) _
    obtain ⟨x0, x1, x2⟩ := hbox _ bel0
    obtain ⟨y0, y1, y2⟩ := hbox v (Below.refl _ v)
    clear hbox n0 n1 n2 hO
    by_cases eu : u.size = 0
    · have zu := size_zero u eu
      subst zu
      have hI1 : Lib.IsBuilderF 58 5 v.heap.size v.heap.size (Lib.byteCells []) (v.alloc (.cells #[.pointer none, .slice none 0 0] 58)) := hI0
      go_wp2_with fail
      go_fit (write_more v.heap.size (([] : List UInt8)) h _ hI1 (by rw [List.length_nil]; omega) (by have := (bel0).size; omega))
      rintro e W2 ⟨rfl, I2, d2⟩
      have e2 := (bel0).trans d2
      obtain ⟨z0, z1, z2⟩ := HB.out W2 e2
      by_cases en : n.size = 0
      · have zn := size_zero n en
        subst zn
        have HS := Tryd.Builder_String_any_k v.heap.size v.heap.size (([] : List UInt8) ++ h.data.toList) W2 I2 (by have := (e2).size; omega)
        have hE : (⟨(([] : List UInt8) ++ h.data.toList).toArray⟩ : ByteArray) = E := by
          rw [HJ.out]
          show ofL _ = ofL _
          congr 1
          simp [jputL]
        rw [hE] at HS
        clear hE
        go_wp2_with fail
        go_fit HS
        rintro e W9 ⟨rfl, _, b9, _⟩
        go_wp2_with fail
        go_ret
        exact ⟨rfl, c1.trans (((e2).trans b9).mono c1.size)⟩
      · have zn := not_empty n (by omega)
        have hnn := list_ne en
        obtain ⟨X, hX⟩ : ∃ X : ByteArray, (⟨#[47]⟩ : ByteArray) ++ n = X := ⟨_, rfl⟩
        have hXl : X.data.toList = 47 :: n.data.toList := by rw [← hX]; simp
        have hXs : X.size = n.size + 1 := by rw [← hX, ByteArray.size_append]; show 1 + n.size = _; omega
        go_wp2_with fail
        clear hX
        go_fit (write_more v.heap.size (([] : List UInt8) ++ h.data.toList) X _ I2 (by rw [List.length_append]; rw [List.length_nil]; omega) (by have := e2.size; omega))
        rintro e W3 ⟨rfl, I3, d3⟩
        have e3 := e2.trans d3
        have HS := Tryd.Builder_String_any_k v.heap.size v.heap.size ((([] : List UInt8) ++ h.data.toList) ++ X.data.toList) W3 I3 (by have := (e3).size; omega)
        have hE : (⟨((([] : List UInt8) ++ h.data.toList) ++ X.data.toList).toArray⟩ : ByteArray) = E := by
          rw [HJ.out]
          show ofL _ = ofL _
          congr 1
          simp [jputL, hnn, hXl]
        rw [hE] at HS
        clear hE
        go_wp2_with fail
        go_fit HS
        rintro e W9 ⟨rfl, _, b9, _⟩
        go_wp2_with fail
        go_ret
        exact ⟨rfl, c1.trans (((e3).trans b9).mono c1.size)⟩
    · have zu := not_empty u (by omega)
      have hun := list_ne eu
      obtain ⟨U, hU⟩ : ∃ U : ByteArray, u ++ (⟨#[64]⟩ : ByteArray) = U := ⟨_, rfl⟩
      have hUl : U.data.toList = u.data.toList ++ [64] := by rw [← hU]; simp
      have hUs : U.size = u.size + 1 := by rw [← hU, ByteArray.size_append]; rfl
      have hUn : U.data.toList.length = U.size := rfl
      go_wp2_with fail
      clear hU
      go_fit (write_more v.heap.size [] U _ hI0 (by rw [List.length_nil]; omega) (by have := bel0.size; omega))
      rintro e W1 ⟨rfl, I1, d1⟩
      rw [List.nil_append] at I1
      have e1 := bel0.trans d1
      obtain ⟨r0, r1, r2⟩ := HB.out W1 e1
      go_wp2_with fail
      go_fit (write_more v.heap.size (U.data.toList) h _ I1 (by rw [hUn]; omega) (by have := (e1).size; omega))
      rintro e W2 ⟨rfl, I2, d2⟩
      have e2 := (e1).trans d2
      obtain ⟨z0, z1, z2⟩ := HB.out W2 e2
      by_cases en : n.size = 0
      · have zn := size_zero n en
        subst zn
        have HS := Tryd.Builder_String_any_k v.heap.size v.heap.size (U.data.toList ++ h.data.toList) W2 I2 (by have := (e2).size; omega)
        have hE : (⟨(U.data.toList ++ h.data.toList).toArray⟩ : ByteArray) = E := by
          rw [HJ.out]
          show ofL _ = ofL _
          congr 1
          simp [jputL, hun, hUl]
        rw [hE] at HS
        clear hE
        go_wp2_with fail
        go_fit HS
        rintro e W9 ⟨rfl, _, b9, _⟩
        go_wp2_with fail
        go_ret
        exact ⟨rfl, c1.trans (((e2).trans b9).mono c1.size)⟩
      · have zn := not_empty n (by omega)
        have hnn := list_ne en
        obtain ⟨X, hX⟩ : ∃ X : ByteArray, (⟨#[47]⟩ : ByteArray) ++ n = X := ⟨_, rfl⟩
        have hXl : X.data.toList = 47 :: n.data.toList := by rw [← hX]; simp
        have hXs : X.size = n.size + 1 := by rw [← hX, ByteArray.size_append]; show 1 + n.size = _; omega
        go_wp2_with fail
        clear hX
        go_fit (write_more v.heap.size (U.data.toList ++ h.data.toList) X _ I2 (by rw [List.length_append]; rw [hUn]; omega) (by have := e2.size; omega))
        rintro e W3 ⟨rfl, I3, d3⟩
        have e3 := e2.trans d3
        have HS := Tryd.Builder_String_any_k v.heap.size v.heap.size ((U.data.toList ++ h.data.toList) ++ X.data.toList) W3 I3 (by have := (e3).size; omega)
        have hE : (⟨((U.data.toList ++ h.data.toList) ++ X.data.toList).toArray⟩ : ByteArray) = E := by
          rw [HJ.out]
          show ofL _ = ofL _
          congr 1
          simp [jputL, hun, hUl, hnn, hXl]
        rw [hE] at HS
        clear hE
        go_wp2_with fail
        go_fit HS
        rintro e W9 ⟨rfl, _, b9, _⟩
        go_wp2_with fail
        go_ret
        exact ⟨rfl, c1.trans (((e3).trans b9).mono c1.size)⟩
end Go.Proofs.YtjpebjmjpilbbaaDoor.Hub
