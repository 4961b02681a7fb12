/-
  For every slice of bytes the law FnLineSent returns true: of a drawn line impl.LineSent answers as spec.LineSent; of one that is ok and not Over all of them can be told to have come, and not one more. No condition: the law itself passes slices of more than 1048576 bytes by.
-/
import Derived.Test.YtpicccdlaiaemaaRows
import Derived.Test.YtpicccdlaiaemaaLineLaw
import Derived.Test.YtpicccdlaiaemaaLineAck
import Derived.ProofKit
import Derived.OpenShut
import Derived.ShutString
import Derived.Carry
namespace Go.Proofs.Ytpicccdlaiaemaa.fnLineSent
open Go.ChangeShapes Go.WideShapes Go.ChangeAt Go.RowKit
open Go.ChangeMaps (open_string shut_string)
set_option linter.unusedVariables false

set_option maxRecDepth 100000 in
set_option maxHeartbeats 8000000 in
theorem walk (v1 : Value) (n1 : Nat) (w : World) (hb1 : Hub.BytesAt w.heap.size w v1 n1) :
    Calls Try.prog 5 #[v1] w fun e w' => e = .returned (.bool true) ∧ Below w.heap.size w w' := by
  obtain ⟨oo, cc, rfl⟩ := Hub.bytes_shape hb1
  by_cases hbig : (1048576 : Int) < (n1 : Int)
  · go_enter Try.func5, Try.ntmps5
    go_wp2_with fail
    go_ret
    exact ⟨rfl, Below.refl _ _⟩
  · have cD := Hub.drawLineSent_any _ n1 w hb1
    clear hb1
    go_enter Try.func5, Try.ntmps5
    go_wp2_with fail
    go_fit cD
    rintro e w1 ⟨b, g, o, q, n, S, rfl, hm, hn9, hS, hb, hg, c1⟩
    obtain ⟨o1, c1', rfl⟩ := hm.shape
    clear cD
    obtain ⟨X3, hX3⟩ : ∃ X3, X3 = w1.heap.size := ⟨_, rfl⟩
    obtain ⟨W2, hW2⟩ : ∃ W2, W2 = w1.alloc (.cells #[.int .i64 b, .slice o1 n c1', .int .i64 g, .bool o] 28) := ⟨_, rfl⟩
    have b2 : Below w1.heap.size w1 W2 := by rw [hW2]; exact Hub.below_alloc _ _
    have c2 := c1.trans (b2.mono c1.size)
    have s2 : W2.heap.size = X3 + 1 := by rw [hW2, hX3]; simp
    have e3 : W2.heap[X3]? = some (.cells #[.int .i64 b, .slice o1 n c1', .int .i64 g, .bool o] 28 (0, 0)) := by rw [hW2, hX3]; exact World.alloc_heap_new _ _
    have HM : Hid (Hub.StrAt W2 (.slice o1 n c1') n S) := hm.below b2
    have HS : Hid (∀ j, j < n → (S j).size ≤ 9223372036854775807) := fun j hj => by have := hS j hj; omega
    have hn : n ≤ 1048576 := by omega
    have NEW3 : Hid (∀ W : World, Below W2.heap.size W2 W → W.cell? ⟨X3, 0, none⟩ = some (.int .i64 b) ∧ W.cell? ⟨X3, 1, none⟩ = some (.slice o1 n c1') ∧ W.cell? ⟨X3, 2, none⟩ = some (.int .i64 g) ∧ W.cell? ⟨X3, 3, none⟩ = some (.bool o)) := fun W bb => by
      have q := (bb.block X3 (by omega)).trans e3
      exact ⟨Hub.cell_of _ _ _ _ _ q, Hub.cell_of _ _ _ _ _ q, Hub.cell_of _ _ _ _ _ q, Hub.cell_of _ _ _ _ _ q⟩
    have IM := Hub.lineSent_any b g o (.slice o1 n c1') n S W2 HM.out hn HS.out
    have SP := fun W (bb : Below W2.heap.size W2 W) => Hub.specLineSent_any b g o (.slice o1 n c1') n S W (HM.out.below bb) hn HS.out
    obtain ⟨z, hz⟩ : ∃ z, Hub.sentT b g o n S = z := ⟨_, rfl⟩
    simp only [hz] at IM SP
    have HZ : Hid (Hub.sentT b g o n S = z) := hz
    clear hz hm hS e3
    go_wp2_with fail
    rw [← hW2, ← hX3]
    clear hW2 hX3 b2
    go_fit IM
    rintro e w3 ⟨rfl, b3⟩
    have c3 := c2.trans (b3.mono c2.size)
    clear IM
    obtain ⟨x0, x1, x2, x3⟩ := NEW3.out w3 b3
    have hzz : (z != z) = false := bne_self_eq_false z
    have hze : (z == z) = true := beq_self_eq_true z
    go_wp2_with fail
    go_fit (SP w3 b3)
    rintro e w4 ⟨rfl, p4⟩
    have b4 : Below W2.heap.size W2 w4 := b3.trans (p4.mono b3.size)
    have c4 := c2.trans (b4.mono c2.size)
    clear x0 x1 x2 x3 p4
    obtain ⟨x0, x1, x2, x3⟩ := NEW3.out w4 b4
    cases hT : Hub.lineT b g o n S
    · have hz1 : z < 0 := by
        have := HZ.out
        unfold Hub.sentT at this
        rw [hT] at this
        simp at this
        omega
      clear hT
      go_wp2_with fail
      go_fit (SP w4 b4)
      rintro e w5 ⟨rfl, p5⟩
      have c5 := c4.trans (p5.mono c4.size)
      go_wp2_with fail
      go_ret
      exact ⟨rfl, c5⟩
    · have hz2 : z = (b + n) % 256 := by
        have := HZ.out
        unfold Hub.sentT at this
        rw [hT, if_pos rfl] at this
        exact this.symm
      have hz1 : ¬ z < 0 := by omega
      cases o
      · obtain ⟨_, hb2, _, hn8, _⟩ := Hub.lineT_parts hT
        have hz3 : 0 ≤ z ∧ z ≤ 255 := by omega
        have k1 : (z - b) % 256 = (n : Int) := by omega
        have k2 : ((z + 1) % 256 - b) % 256 = (n : Int) + 1 := by omega
        have AY := fun W (bb : Below W2.heap.size W2 W) => Hub.lineAck_yes b g z (.slice o1 n c1') n S W (HM.out.below bb) hn HS.out hT hz3 (by omega)
        have AN := fun W (bb : Below W2.heap.size W2 W) => Hub.lineAck_no b g ((z + 1) % 256) (.slice o1 n c1') n S W (HM.out.below bb) hn HS.out hT (by omega) (by omega)
        rw [k1] at AY
        simp only [Int.toNat_natCast, Nat.sub_self] at AY
        have e1 : IntKind.i64.wrap (z + 1) = z + 1 := by rw [IntKind.wrap_i64]; omega
        clear k1 k2 hz2 hT
        go_wp2_with fail
        go_fit (AY w4 b4)
        rintro e w5 ⟨⟨q5, rfl, hm5⟩, p5⟩
        obtain ⟨o5, c5', rfl⟩ := hm5.shape
        have b5 : Below W2.heap.size W2 w5 := b4.trans (p5.mono b4.size)
        clear x0 x1 x2 x3 hm5
        obtain ⟨x0, x1, x2, x3⟩ := NEW3.out w5 b5
        obtain ⟨X5, hX5⟩ : ∃ X5, X5 = w5.heap.size := ⟨_, rfl⟩
        obtain ⟨W6, hW6⟩ : ∃ W6, W6 = w5.alloc (.cells #[.int .i64 z, .slice o5 0 c5', .int .i64 g, .bool false] 28) := ⟨_, rfl⟩
        have b6' : Below w5.heap.size w5 W6 := by rw [hW6]; exact Hub.below_alloc _ _
        have b6 : Below W2.heap.size W2 W6 := b5.trans (b6'.mono b5.size)
        have e6 : W6.heap[X5]? = some (.cells #[.int .i64 z, .slice o5 0 c5', .int .i64 g, .bool false] 28 (0, 0)) := by rw [hW6, hX5]; exact World.alloc_heap_new _ _
        have s6 : X5 < W6.heap.size := by rw [hW6, hX5]; simp
        have l5 : X3 < w5.heap.size := by have := b5.size; omega
        go_wp2_with fail
        rw [← hW6, ← hX5]
        clear hW6 hX5 x0 x1 x2 x3
        go_fit (AN W6 b6)
        rintro e w7 ⟨⟨q7, rfl, hm7⟩, p7⟩
        obtain ⟨o7, c7', rfl⟩ := hm7.shape
        have l7 : X5 < w7.heap.size := by have := p7.size; omega
        have y1 : w7.cell? ⟨X5, 1, none⟩ = some (.slice o5 0 c5') := Hub.cell_of _ _ _ _ _ ((p7.block X5 s6).trans e6)
        have b7 : Below W2.heap.size W2 w7 := b6.trans (p7.mono b6.size)
        have c7 := (c2.trans (b7.mono c2.size)).alloc (by have := (c2.trans (b7.mono c2.size)).size; omega) (.cells #[.int .i64 b, .slice o7 n c7', .int .i64 g, .bool false] 28)
        clear hm7 e6 AY AN
        go_wp2_with fail
        go_ret
        exact ⟨rfl, c7⟩
      · clear hT hz2
        go_wp2_with fail
        go_fit (SP w4 b4)
        rintro e w5 ⟨rfl, p5⟩
        have c5 := c4.trans (p5.mono c4.size)
        go_wp2_with fail
        go_ret
        exact ⟨rfl, c5⟩

theorem own : ownKnob Try.prog.godebug = none := by kernel_rfl
theorem laidOut : laidOutB Try.prog = true := by kernel_rfl
set_option maxRecDepth 100000 in
theorem lifted (os : Os) (started : os.Started) (H : Type) (enc : TypeId × Value → H) :
    ReturnsInHanded {} Try.checked os 5 .any (Rows.fnLineSentSpec.pre6 enc Try.prog Try.f5 Rows.fnLineSentRow.domain false) (Rows.fnLineSentSpec.post enc Try.prog Try.f5 false true false false) := by
  refine returnsInHanded_of_change (C := Try.checked) own started (by kernel_rfl) Try.func5
    (ChangeSpec.witness6 (enc := enc) (C := Try.checked) false ⟨#[], #[.slice none 0 0], []⟩ 8 (by kernel_rfl) (by kernel_rfl) (by kernel_rfl) (by kernel_rfl)) ?_
  intro W base args ds gs before hval0 hW hcnd _
  have hval : ∀ (j : Nat) t v, Try.f5.params[j]? = some t → args[j]? = some v → Value.okWide Try.prog W .any base t v := hval0
  have hW' := hW
  obtain ⟨p, q, hA0, hV, rfl, hfz, hnd⟩ := hW
  have hA : DataW.TrodAll enc Try.prog W 0 (fun _ => true) true Try.f5.params.toList args.toList ds p := hA0
  rw [Try.params5] at hA hval
  obtain ⟨v0, vs0, d0, ds0, p0, q_0, hargs, rfl, rfl, h0, r0⟩ := trodAll_cons hA
  obtain ⟨rfl, rfl, rfl⟩ := trodAll_nil r0
  obtain rfl : args = #[v0] := by cases args; simp_all
  obtain ⟨rfl, rfl⟩ := trodVars_none hV
  obtain ⟨n0, hb0⟩ := Hub.open_bytes (hval 0 22 v0 rfl rfl) h0
  clear hA0 hval0
  simp only [List.append_nil] at hW'
  have hlt0 := hW'.lt
  refine (walk v0 n0 W hb0).mono fun e W' ⟨he, bel⟩ => ?_
  subst he
  exact ⟨_, rfl, _, _, _, [], _, [], hW', trodAll_mk1 (shut_bool Try.underlying4 _), (trodAll_cons_mk (Below.trod laidOut (by kernel_rfl) (of_decide_eq_true (by kernel_rfl)) h0 bel (fun x hx => hlt0 x (by simp [hx]))) trodAll_mk0), rfl, bel.frame _, fun h => by cases h⟩

theorem over : Rows.fnLineSentRow.holds Try.pinned (OpenSpec.ofChange Rows.fnLineSentSpec) :=
  OpenClaim.holds_of_wide 5 Try.f5 rfl rfl rfl rfl rfl rfl rfl ⟨rfl, rfl, rfl, rfl, rfl⟩ rfl rfl rfl rfl rfl (by kernel_rfl) Try.func5 (by kernel_rfl)
    (of_decide_eq_true (by kernel_rfl)) (by unfold Func.isWrapper; first | (rw [if_pos (by decide +kernel)]; kernel_rfl) | (rw [if_neg (by decide +kernel)]; exact ⟨rfl, rfl⟩))
    (fun os started H enc _ => lifted os started H enc)
theorem proved : Rows.FnLineSentSaid := over
#print axioms proved
end Go.Proofs.Ytpicccdlaiaemaa.fnLineSent

namespace Go.Proofs.Ytpicccdlaiaemaa
/-- The statement. -/
theorem fnLineSent_holds : Rows.FnLineSentSaid := fnLineSent.proved
end Go.Proofs.Ytpicccdlaiaemaa
