import Derived.Test.YtnkjdijbfnmnhaaGreatRows
import Derived.Test.YtnkjdijbfnmnhaaGreatChecked
import Derived.JoinedOf
import Derived.WalkKit
namespace Go.Proofs.YtnkjdijbfnmnhaaGreat.recordWrites
open Go.ChangeShapes Go.WideShapes Go.RowKit

theorem jf_laid : laidOutB Tryz.checked.prog = true := by kernel_rfl

theorem jf_maps : mapsRowed Tryz.checked.prog = true := by kernel_rfl

theorem jf_inpl : (Rows.recordWritesRow.inPlace == Tryz.checked.prog.inPlace 4) = true := by kernel_rfl

theorem jf_unf : (Rows.recordWritesRow.unfollowed == Tryz.checked.prog.unfollowed 4) = true := by kernel_rfl

theorem jf_rec : (Rows.recordWritesRow.recurses == Tryz.checked.prog.recurses 4) = true := by kernel_rfl

theorem jf_named : (Rows.recordWritesRow.named == Tryz.checked.prog.varsNamed 4) = true := by kernel_rfl

theorem jf_plain : (Rows.recordWritesRow.plainKeys == Tryz.checked.prog.plainKeys) = true := by kernel_rfl

theorem jf_heard : Tryz.checked.prog.stopsHeard = true := by kernel_rfl

theorem jf_enter : Tryz.checked.prog.mayEnter = true := by kernel_rfl

theorem jf_lifts : (Rows.recordWritesRow.lifted == Tryz.checked.prog.liftsFinal) = true := by kernel_rfl

theorem jf_mk : (Tryz.checked.prog.make == some Rows.recordWritesRow.make) = true := by kernel_rfl

set_option maxRecDepth 100000 in
theorem closed : joinedFacts Tryz.checked.prog 4 Tryz.f4 Rows.recordWritesSpec Rows.recordWritesRow = true := by
  unfold joinedFacts
  simp only [Bool.and_eq_true]
  repeat' apply And.intro
  all_goals first | with_reducible exact jf_laid | with_reducible exact jf_maps | with_reducible exact jf_inpl | with_reducible exact jf_unf | with_reducible exact jf_rec | with_reducible exact jf_named | with_reducible exact jf_plain | with_reducible exact jf_heard | with_reducible exact jf_enter | with_reducible exact jf_lifts | with_reducible exact jf_mk | kernel_rfl

end Go.Proofs.YtnkjdijbfnmnhaaGreat.recordWrites
