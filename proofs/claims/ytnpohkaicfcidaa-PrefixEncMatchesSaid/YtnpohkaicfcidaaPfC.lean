/- What the laws PrefixEncBack and PrefixEncRead need: the contracts of the landed code, wakes, and how lengths are opened. -/
import Derived.Test.YtnpohkaicfcidaaPfW
import Derived.Test.YtnpohkaicfcidaaOlC
