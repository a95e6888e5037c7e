/- What the texts behind this one import. -/
import Derived.Test.YtdenibigefchpaaDoorB
import Derived.WalkSmall
import Derived.WalkSpells
namespace Go.Proofs.YtdenibigefchpaaDoor
end Go.Proofs.YtdenibigefchpaaDoor
