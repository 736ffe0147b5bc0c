/-
  All plain forms.
-/
import Derived.Test.YteapohlamngkpaaDoorP1
import Derived.Test.YteapohlamngkpaaDoorP2
