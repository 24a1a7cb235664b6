/-
  Numbers sorted, each once, in the program, as a contract. The atoms that two lists of pairs move: in the program, as contracts.
-/
import Derived.Test.YtdbogjhkcnajkaaKSameSet21
import Derived.Test.YtdbogjhkcnajkaaKSameSet4
import Derived.Test.YtdbogjhkcnajkaaKSameSet1
import Derived.Lib.OwnBridge
namespace Go.Proofs.Ytdbogjhkcnajkaa
section
open Go.RowKit Go.Sort

end

section
open Go.RowKit Go.Sort

end
end Go.Proofs.Ytdbogjhkcnajkaa
