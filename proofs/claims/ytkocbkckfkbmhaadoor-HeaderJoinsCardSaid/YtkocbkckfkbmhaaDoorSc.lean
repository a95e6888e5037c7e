/- What the texts behind this one import. -/
import Derived.Test.YtkocbkckfkbmhaaDoorB
import Derived.WalkSmall
import Derived.WalkSpells
namespace Go.Proofs.YtkocbkckfkbmhaaDoor
end Go.Proofs.YtkocbkckfkbmhaaDoor
