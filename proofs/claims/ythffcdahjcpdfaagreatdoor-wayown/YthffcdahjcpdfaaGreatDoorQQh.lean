import Derived.Test.YthffcdahjcpdfaaGreatDoorQQq
namespace Go.Proofs.YthffcdahjcpdfaaGreatDoor.Q
open Go.RowKit
set_option linter.unusedVariables false
set_option linter.unusedSimpArgs false

attribute [local go_sem ↓] index_digits
end Go.Proofs.YthffcdahjcpdfaaGreatDoor.Q
