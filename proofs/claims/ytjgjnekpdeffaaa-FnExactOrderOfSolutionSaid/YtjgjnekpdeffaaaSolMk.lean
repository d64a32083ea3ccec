import Derived.Test.YtjgjnekpdeffaaaZArg
import Derived.Test.YtjgjnekpdeffaaaBlk
import Derived.Test.YtjgjnekpdeffaaaMarkII
namespace Go.Proofs.Ytjgjnekpdeffaaa
open Go Go.RowKit
set_option maxHeartbeats 1000000


end Go.Proofs.Ytjgjnekpdeffaaa
