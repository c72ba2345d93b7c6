import Derived.Test.YtkigddankkoahaaGreatDoorQ07
import Derived.Test.YtkigddankkoahaaGreatDoorQ06
import Derived.Lib.ItoaNum
namespace Go.Proofs.YtkigddankkoahaaGreatDoor
section
variable {res : List UInt8 → Bool}
end
section
variable {res : List UInt8 → Bool}
end
section
variable (res : List UInt8 → Bool)
end
section
variable {res : List UInt8 → Bool}
end
section
variable {res : List UInt8 → Bool}
end
section
variable {res : List UInt8 → Bool}
end
section
variable {res : List UInt8 → Bool}
end
section
variable {res : List UInt8 → Bool}
end
section
variable {res : List UInt8 → Bool}
end
section
variable {res : List UInt8 → Bool}
end
end Go.Proofs.YtkigddankkoahaaGreatDoor
