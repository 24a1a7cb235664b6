/-
  Slices of slices of numbers: their sizes, copies, comparison and numbering, as contracts.
-/
import Derived.Test.YtihijigbdpjcoaaGreatKIndexOf2
import Derived.Test.YtihijigbdpjcoaaGreatKIndexOf5
import Derived.Test.YtihijigbdpjcoaaGreatKIndexOf8
import Derived.Test.YtihijigbdpjcoaaGreatKIndexOf4
import Derived.Test.YtihijigbdpjcoaaGreatKIndexOf3
import Derived.Test.YtihijigbdpjcoaaGreatKIndexOf18
namespace Go.Proofs.YtihijigbdpjcoaaGreat
open Go.RowKit Go.Sort
set_option linter.unusedVariables false

end Go.Proofs.YtihijigbdpjcoaaGreat
