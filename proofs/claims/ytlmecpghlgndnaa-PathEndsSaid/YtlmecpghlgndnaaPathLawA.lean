/-
  What the laws of path stand on.
-/
import Derived.Test.YtlmecpghlgndnaaPathAwake
import Derived.Test.YtlmecpghlgndnaaLabOpen
