/-
  The writers, the code's, of what is right: contracts.
-/
import Derived.Test.YtafpgglebjllbaaNoteX
import Derived.Test.YtafpgglebjllbaaPen3
import Derived.Test.YtafpgglebjllbaaTie
import Derived.Test.YtafpgglebjllbaaAwake1
namespace Go.Proofs.Ytafpgglebjllbaa
open Go.RowKit

end Go.Proofs.Ytafpgglebjllbaa
