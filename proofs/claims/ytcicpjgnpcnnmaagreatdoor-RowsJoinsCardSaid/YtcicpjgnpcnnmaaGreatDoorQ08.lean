import Derived.Test.YtcicpjgnpcnnmaaGreatDoorQ07
import Derived.Lib.ItoaNum
namespace Go.Proofs.YtcicpjgnpcnnmaaGreatDoor
section
variable {res : List UInt8 → Bool}
end
section
variable {res : List UInt8 → Bool}
end
section
variable (res : List UInt8 → Bool)
end
section
variable {res : List UInt8 → Bool}
end
section
variable {res : List UInt8 → Bool}
end
section
variable {res : List UInt8 → Bool}
end
section
variable {res : List UInt8 → Bool}
end
section
variable {res : List UInt8 → Bool}
end
section
variable {res : List UInt8 → Bool}
end
section
variable {res : List UInt8 → Bool}
end
end Go.Proofs.YtcicpjgnpcnnmaaGreatDoor
