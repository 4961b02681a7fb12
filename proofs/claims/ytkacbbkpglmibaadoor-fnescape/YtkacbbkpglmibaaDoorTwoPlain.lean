/-
  Plain facts on the texts that the laws draw, reckoned: a text behind one that is ok is ok together with it just if it is ok alone; and what the escaped ones are, one behind the other.
-/
import Derived.Test.YtkacbbkpglmibaaDoorCutPlain
import Derived.Test.YtkacbbkpglmibaaDoorEscImpl
namespace Go.Proofs.YtkacbbkpglmibaaDoor.Hub
open Go.RowKit
set_option linter.unusedVariables false

def twoOk (a b : ByteArray) : Bool := okT (a ++ b) == okT b
def okTexts : List ByteArray := texts
def oneOk (a t : ByteArray) : Bool := !okT (a ++ t) || decide (t.data.toList = [])
set_option maxRecDepth 100000 in
theorem one_all : (texts.all fun a => endsD.all fun t => oneOk a t) = true := by kernel_rfl
set_option maxRecDepth 100000 in
theorem two_all : (texts.all fun a => texts.all fun b => endsD.all fun u => twoOk a (b ++ u)) = true := by kernel_rfl
theorem two_any {a t b u : ByteArray} (ha : a ∈ texts) (ht : t ∈ ends) (hb : b ∈ texts) (hu : u ∈ ends) (hok : okT (a ++ t) = true) :
    okT ((a ++ t) ++ (b ++ u)) = okT (b ++ u) := by
  have h := List.all_eq_true.1 (List.all_eq_true.1 one_all a ha) t (ends_mem ht)
  unfold oneOk at h
  rw [hok] at h
  have he : t.data.toList = [] := by simpa using h
  have he2 : a ++ t = a := by
    apply ByteArray.ext
    apply Array.toList_inj.1
    rw [ByteArray.data_append, Array.toList_append, he, List.append_nil]
  rw [he2]
  have h2 := List.all_eq_true.1 (List.all_eq_true.1 (List.all_eq_true.1 two_all a ha) b hb) u (ends_mem hu)
  unfold twoOk at h2
  exact beq_iff_eq.1 h2
theorem esc_two {x y : ByteArray} (hx : okT x = true) (hy : okT y = true) (hxy : okT (x ++ y) = true) : escT (x ++ y) = escT x ++ escT y := by
  unfold escT
  rw [if_pos hx, if_pos hy, if_pos hxy, ByteArray.data_append, Array.toList_append, escL_append, ofL_append]
end Go.Proofs.YtkacbbkpglmibaaDoor.Hub
