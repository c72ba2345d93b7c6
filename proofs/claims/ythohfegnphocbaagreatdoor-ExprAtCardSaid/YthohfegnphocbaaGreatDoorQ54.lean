/- Worlds later than one, and a region's walk over a class of worlds. No condition. -/
import Derived.Test.YthohfegnphocbaaGreatDoorQ10
import Derived.Deep.Quiet
namespace Go.Proofs.YthohfegnphocbaaGreatDoor
open Go.RowKit
end Go.Proofs.YthohfegnphocbaaGreatDoor
