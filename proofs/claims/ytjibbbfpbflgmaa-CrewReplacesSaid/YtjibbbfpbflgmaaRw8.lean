/-
  The document's Replace, and rows that are blanked: what CrewReplaces stands on.
-/
import Derived.Test.YtjibbbfpbflgmaaRv8
import Derived.Test.YtjibbbfpbflgmaaTl8
