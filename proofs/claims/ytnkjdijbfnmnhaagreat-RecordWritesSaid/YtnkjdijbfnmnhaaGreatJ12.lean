/-
  Texts of this claim put together: Clone8.
-/
import Derived.Test.YtnkjdijbfnmnhaaGreatJ05
import Derived.Laws.OwnMore
import Derived.WalkSpells
/-
  slices.Clone at bytes.
-/
namespace Go.Proofs.YtnkjdijbfnmnhaaGreat
open Go.RowKit

end Go.Proofs.YtnkjdijbfnmnhaaGreat