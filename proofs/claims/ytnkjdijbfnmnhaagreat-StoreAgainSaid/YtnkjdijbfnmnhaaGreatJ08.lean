/-
  Texts of this claim put together: Take.
-/
import Derived.Test.YtnkjdijbfnmnhaaGreatJ04
import Derived.Deep.QuietTactic
import Derived.BigQuiet

namespace Go.Proofs.YtnkjdijbfnmnhaaGreat
open Go.RowKit

theorem sJ (w:World):Calls Tryz.prog 138 #[.pointer none] w fun e w'=>e = .returned (.bool true)/\w=w':=by
 go_enter Tryz.func138,Tryz.ntmps138
 go_wp2
 go_ret
 exact ⟨rfl,rfl⟩

theorem EF (w:World):Calls Tryz.prog 67 #[.pointer none] w fun e w'=>e = .returned (.int .i64 1)/\w=w':=by
 go_enter Tryz.func67,Tryz.ntmps67
 go_wp2_with (refine (sJ _).mono ?_;rintro e w1 ⟨rfl,rfl⟩)
 go_ret
 exact ⟨rfl,rfl⟩
end Go.Proofs.YtnkjdijbfnmnhaaGreat
