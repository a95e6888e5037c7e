/- What the texts behind this one import. -/
import Derived.Test.YtgnomopiofpknaaB
import Derived.WalkSmall
import Derived.WalkSpells
namespace Go.Proofs.Ytgnomopiofpknaa
end Go.Proofs.Ytgnomopiofpknaa
