/-
  The class of grown worlds (GR), beside the calendar's walks.
-/
import Derived.Test.YtffjpidjhcnnmabDoorWC1
import Derived.Test.YtffjpidjhcnnmabDoorGR
