import Derived.Test.YtgahmfkmhaeniaaAllPS
import Derived.Test.YtgahmfkmhaeniaaGrowS
import Derived.Test.YtgahmfkmhaeniaaIn
namespace Go.Proofs.Ytgahmfkmhaeniaa
open Go Go.RowKit
set_option maxHeartbeats 2000000
end Go.Proofs.Ytgahmfkmhaeniaa
