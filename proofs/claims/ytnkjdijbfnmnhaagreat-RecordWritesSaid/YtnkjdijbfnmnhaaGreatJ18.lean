/-
  Texts of this claim put together: App2.
-/
import Derived.Test.YtnkjdijbfnmnhaaGreatJ14
import Derived.Test.YtnkjdijbfnmnhaaGreatJ15
import Derived.WalkSpells
/-
  Append of whatever elements onto a row of one's own; slices.Clone of numbers.
-/
namespace Go.Proofs.YtnkjdijbfnmnhaaGreat
open Go.RowKit

theorem i64_info : (Tryz.prog.info? 2).map (fun i => (i.zero, i.size, i.bytes)) = some (some (.int .i64 0), 1, 8) := by kernel_rfl
theorem iv_one (l : List Int) : ∀ u ∈ iv l, u.oneCell' = true := by
  intro u hu
  simp only [iv, List.mem_map] at hu
  obtain ⟨x, _, rfl⟩ := hu
  rfl
theorem iv_append (l m : List Int) : iv (l ++ m) = iv l ++ iv m := by simp [iv]

/-- messages as cells -/
def cellC (t : Int × Int × Int) : List Value := [.int .u64 0, .int .u8 t.1, .int .i64 t.2.1, .int .i64 t.2.2]
def cv (l : List (Int × Int × Int)) : List Value := l.flatMap cellC
theorem cv_append (l m : List (Int × Int × Int)) : cv (l ++ m) = cv l ++ cv m := by simp [cv]
theorem cv_length (l : List (Int × Int × Int)) : (cv l).length = l.length * 4 := flat_len (cs := cellC) (q := 4) (fun _ => rfl) l
theorem cell_info : (Tryz.prog.info? 108).map (fun i => (i.zero, i.size, i.bytes)) = some (some (.agg #[.int .u64 0, .int .u8 0, .int .i64 0, .int .i64 0]), 4, 32) := by kernel_rfl

end Go.Proofs.YtnkjdijbfnmnhaaGreat