import Derived.Test.YtaejgmdeiemhcaaZy
import Derived.Test.YtaejgmdeiemhcaaZf
import Derived.Test.YtaejgmdeiemhcaaZi
import Derived.Test.YtaejgmdeiemhcaaZc
import Derived.Deep.Cut
namespace Go.Proofs.Ytaejgmdeiemhcaa
open Go Go.RowKit
set_option maxHeartbeats 4000000
theorem half (lo hi : Nat) : ((lo : Int) + (hi : Int)).tdiv 2 = (((lo + hi) / 2 : Nat) : Int) := by
  rw [Int.tdiv_eq_ediv_of_nonneg (by omega)]; omega
end Go.Proofs.Ytaejgmdeiemhcaa
