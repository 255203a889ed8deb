/-
  'omNext', 'omPath' of the model.
-/
import Derived.Test.YtkikmmnmppikpaaOtG
import Derived.Test.YtkikmmnmppikpaaRem
import Derived.Test.YtkikmmnmppikpaaPath
import Derived.Deep.RegionWith
namespace Go.Proofs.Ytkikmmnmppikpaa
open Go.RowKit
set_option linter.unusedVariables false

end Go.Proofs.Ytkikmmnmppikpaa
