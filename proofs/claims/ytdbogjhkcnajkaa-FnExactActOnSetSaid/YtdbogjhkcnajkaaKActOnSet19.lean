/-
  When an orbit set can be told by more constants: plain words, no program is walked here. What is in one of two orbit sets, or in both: plain words, no program is walked here. The two function literals that tell which patterns are kept, in the program, as contracts.
-/
import Derived.Test.YtdbogjhkcnajkaaKActOnSet17
import Derived.Test.YtdbogjhkcnajkaaKActOnSet18
import Derived.Test.YtdbogjhkcnajkaaKActOnSet16
section
namespace Go.Proofs.Ytdbogjhkcnajkaa
open Go.RowKit
set_option linter.unusedVariables false

end Go.Proofs.Ytdbogjhkcnajkaa
end

section
namespace Go.Proofs.Ytdbogjhkcnajkaa
open Go.RowKit
set_option linter.unusedVariables false

end Go.Proofs.Ytdbogjhkcnajkaa
end

section
namespace Go.Proofs.Ytdbogjhkcnajkaa
open Go.RowKit Go.Sort
set_option linter.unusedVariables false

end Go.Proofs.Ytdbogjhkcnajkaa
end

