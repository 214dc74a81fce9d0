/-
  chacha.Stream on lists: the bytes, turned by the blocks of a key, a counter and a nonce.
-/
import Derived.Test.YtclelancbfoenaaGreatDoorMade
import Derived.Test.YtclelancbfoenaaGreatDoorReStream
import Derived.Test.YtclelancbfoenaaGreatDoorStr
import Derived.Test.YtclelancbfoenaaGreatDoorHeld
namespace Go.Proofs.YtclelancbfoenaaGreatDoor.Re
open Go.RowKit
end Go.Proofs.YtclelancbfoenaaGreatDoor.Re
