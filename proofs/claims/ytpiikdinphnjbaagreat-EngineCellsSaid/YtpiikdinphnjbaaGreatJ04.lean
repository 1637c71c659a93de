/-
  Texts of this claim put together: Take.
-/
import Derived.Test.YtpiikdinphnjbaaGreatJ02
import Derived.Deep.QuietTactic
import Derived.BigQuiet
/-
  Contracts of pack's reader: a nil one; one with an error; one that takes.
-/
namespace Go.Proofs.YtpiikdinphnjbaaGreat
open Go.RowKit

end Go.Proofs.YtpiikdinphnjbaaGreat