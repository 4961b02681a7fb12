/-
  Nothing of the library's is wanted here.
-/
import Derived.Test.YtkfdggcccegmlaaProg
