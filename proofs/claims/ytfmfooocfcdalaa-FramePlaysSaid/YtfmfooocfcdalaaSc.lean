/- What the texts behind this one import. -/
import Derived.Test.YtfmfooocfcdalaaB
import Derived.WalkSmall
import Derived.WalkSpells
namespace Go.Proofs.Ytfmfooocfcdalaa
end Go.Proofs.Ytfmfooocfcdalaa
