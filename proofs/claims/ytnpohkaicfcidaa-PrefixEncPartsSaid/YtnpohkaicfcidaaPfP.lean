/- What the law PrefixEncParts needs, too. -/
import Derived.Test.YtnpohkaicfcidaaPfC
import Derived.Test.YtnpohkaicfcidaaPeT
