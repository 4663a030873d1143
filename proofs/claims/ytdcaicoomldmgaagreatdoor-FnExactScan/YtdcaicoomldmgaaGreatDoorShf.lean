/- The shelf. -/
import Derived.Test.YtdcaicoomldmgaaGreatDoorShs
