/-
  Plain facts on the texts that the laws draw, reckoned: one that is ok comes back from how it stands in marked text, and there no sign of it would mark something. And what spec.DrawEscape draws.
-/
import Derived.Test.YtkacbbkpglmibaaDoorTwoPlain
import Derived.Test.YtkacbbkpglmibaaDoorPartsPlain
namespace Go.Proofs.YtkacbbkpglmibaaDoor.Hub
open Go.RowKit
set_option linter.unusedVariables false

def plainB (c : UInt8) : Bool := c != 60 && c != 62 && c != 39 && c != 34
def backOk (a : ByteArray) : Bool := !okT a || ((unT (escT a)).1.data.toList == a.data.toList && (unT (escT a)).2 && okT (escT a) && (escT a).data.toList.all plainB && decide ((escT a).size ≤ 600))
set_option maxRecDepth 100000 in
theorem back_all : (texts.all fun a => backOk a) = true := by kernel_rfl
theorem back_any {a t : ByteArray} (ha : a ∈ texts) (ht : t ∈ ends) (hok : okT (a ++ t) = true) :
    unT (escT (a ++ t)) = (a ++ t, true) ∧ okT (escT (a ++ t)) = true ∧ (escT (a ++ t)).size ≤ 600 ∧ (escT (a ++ t)).data.toList.all plainB = true := by
  have h := List.all_eq_true.1 (List.all_eq_true.1 one_all a ha) t (ends_mem ht)
  unfold oneOk at h
  rw [hok] at h
  have he : t.data.toList = [] := by simpa using h
  have he2 : a ++ t = a := by
    apply ByteArray.ext
    apply Array.toList_inj.1
    rw [ByteArray.data_append, Array.toList_append, he, List.append_nil]
  rw [he2] at hok ⊢
  have h2 := List.all_eq_true.1 back_all a ha
  unfold backOk at h2
  rw [hok] at h2
  simp only [Bool.not_true, Bool.false_or, Bool.and_eq_true, beq_iff_eq, decide_eq_true_eq] at h2
  obtain ⟨⟨⟨⟨h3, h4⟩, h5⟩, h6⟩, h7⟩ := h2
  exact ⟨Prod.ext (ByteArray.ext (Array.toList_inj.1 h3)) h4, h5, h7, h6⟩
theorem plain_at {E : ByteArray} (h : E.data.toList.all plainB = true) (k : Nat) (hk : k < E.size) : E[k].toNat ≠ 60 ∧ E[k].toNat ≠ 62 ∧ E[k].toNat ≠ 39 ∧ E[k].toNat ≠ 34 := by
  have hm : E[k] ∈ E.data.toList := by
    show E.data[k] ∈ E.data.toList
    exact Array.mem_toList_iff.2 (Array.getElem_mem _)
  have h2 := List.all_eq_true.1 h _ hm
  unfold plainB at h2
  simp only [Bool.and_eq_true, bne_iff_ne] at h2
  obtain ⟨⟨⟨h3, h4⟩, h5⟩, h6⟩ := h2
  refine ⟨fun e => h3 (UInt8.toNat_inj.1 e), fun e => h4 (UInt8.toNat_inj.1 e), fun e => h5 (UInt8.toNat_inj.1 e), fun e => h6 (UInt8.toNat_inj.1 e)⟩
set_option maxHeartbeats 1000000 in
theorem drawEscape_any (v : Value) (n : Nat) (w : World) (h : BytesAt w.heap.size w v n) :
    Calls Tryd.prog 8 #[v] w fun e w' => (∃ s t, s ∈ texts ∧ t ∈ ends ∧ e = .returned (.string (s ++ t))) ∧ Below w.heap.size w w' := by
  go_enter Tryd.func8, Tryd.ntmps8
  go_wp2_with (go_at_call 22; refine (open_any v n _ h).mono ?_)
  rintro e w1 ⟨rfl, hrd, hb1⟩
  go_wp2_with fail
  refine (any_any w.heap.size _ 0 (by omega) _ hb1.size hrd).mono ?_
  rintro e w2 ⟨⟨s, t, hs, ht, rfl⟩, _, _, hb2⟩
  go_wp2_with fail
  go_ret
  exact ⟨⟨s, t, hs, ht, rfl⟩, hb1.trans hb2⟩
end Go.Proofs.YtkacbbkpglmibaaDoor.Hub
