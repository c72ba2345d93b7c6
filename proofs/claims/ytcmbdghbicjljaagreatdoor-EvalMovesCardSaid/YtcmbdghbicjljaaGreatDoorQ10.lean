/- Contract of scalar's Call, of the functions coalesce, nullif, of values that are as the function wants them. No condition. -/
import Derived.Test.YtcmbdghbicjljaaGreatDoorQ03
namespace Go.Proofs.YtcmbdghbicjljaaGreatDoor.BV
end Go.Proofs.YtcmbdghbicjljaaGreatDoor.BV
namespace Go.Proofs.YtcmbdghbicjljaaGreatDoor.SC
open Go.Proofs.YtcmbdghbicjljaaGreatDoor.BV
open Go.RowKit
end Go.Proofs.YtcmbdghbicjljaaGreatDoor.SC
