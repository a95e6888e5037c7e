/- What the texts behind this one import. -/
import Derived.Test.YtmieoeplbmfemaaDoorB
import Derived.WalkSmall
import Derived.WalkSpells
namespace Go.Proofs.YtmieoeplbmfemaaDoor
end Go.Proofs.YtmieoeplbmfemaaDoor
