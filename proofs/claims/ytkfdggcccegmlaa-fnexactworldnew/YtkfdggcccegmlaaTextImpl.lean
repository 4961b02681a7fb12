/-
  Nothing of the program's own signs is wanted here.
-/
import Derived.Test.YtkfdggcccegmlaaTextSpec
import Derived.Test.YtkfdggcccegmlaaShelf
