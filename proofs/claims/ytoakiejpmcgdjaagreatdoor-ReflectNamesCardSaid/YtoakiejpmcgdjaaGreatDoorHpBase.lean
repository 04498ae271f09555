/-
  The seat's keys.
-/
import Derived.Test.YtoakiejpmcgdjaaGreatDoorRuKey
