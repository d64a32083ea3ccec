import Derived.Deep.RegionHeld3
import Derived.StillTactics
import Derived.Tactics2
import Derived.Deep.DeepMust

