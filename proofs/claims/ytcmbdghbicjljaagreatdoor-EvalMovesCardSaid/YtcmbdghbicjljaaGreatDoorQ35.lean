/- Plain facts on expressions (no program): when Parse tells an expression, and that it tells a text's own, one in brackets, and a NOT ahead of one in brackets. No condition. -/
import Derived.Test.YtcmbdghbicjljaaGreatDoorQ09
import Derived.Test.YtcmbdghbicjljaaGreatDoorQ33
namespace Go.Proofs.YtcmbdghbicjljaaGreatDoor
open Go.RowKit
end Go.Proofs.YtcmbdghbicjljaaGreatDoor
namespace Go.Proofs.YtcmbdghbicjljaaGreatDoor
open Go.RowKit
def E.lng : List UInt8 → Vl → List UInt8 → List UInt8 → Bool := fun o v t n => decide (2000 < v.s.length) || decide (2000 < n.length) || decide (2000 < t.length) || decide (100 < o.length)
mutual
def E.heavy : E → Bool
  | .mk o v t n l => E.lng o v t n || E.heavyL l
def E.heavyL : List E → Bool
  | [] => false
  | x :: l => x.heavy || E.heavyL l
end
def E.big (e : E) : Bool := decide (e.left 500 < 0) || e.heavy
end Go.Proofs.YtcmbdghbicjljaaGreatDoor
