/-
  When an orbit set can be told by more constants: plain words, no program is walked here. What is in one of two orbit sets, or in both: plain words, no program is walked here. The two function literals that tell which patterns are kept, in the program, as contracts.
-/
import Derived.Test.YtnamlgacjhnpnaaKCounted15
import Derived.Test.YtnamlgacjhnpnaaKCounted17
import Derived.Test.YtnamlgacjhnpnaaKCounted13
section
namespace Go.Proofs.Ytnamlgacjhnpnaa
open Go.RowKit
set_option linter.unusedVariables false

end Go.Proofs.Ytnamlgacjhnpnaa
end

section
namespace Go.Proofs.Ytnamlgacjhnpnaa
open Go.RowKit
set_option linter.unusedVariables false

end Go.Proofs.Ytnamlgacjhnpnaa
end

section
namespace Go.Proofs.Ytnamlgacjhnpnaa
open Go.RowKit Go.Sort
set_option linter.unusedVariables false

end Go.Proofs.Ytnamlgacjhnpnaa
end

