/-
  Nothing of the program's texts is wanted here.
-/
import Derived.Test.YtmjdopaecbnjjaaTextSpec
import Derived.Test.YtmjdopaecbnjjaaShelf
