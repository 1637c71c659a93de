/-
  No cell of these rows narrows 'for every input' (looked for: loops, veiled, ifaces, maps, wideKeys, modest, calm, conditions, laid).
  DERIVED. THE GIVEN ROWS OF THIS SEAT. 5 by the template 'for every input the law returns true; each argument reads behind the call as it read before'; 0 by the template 'total and deterministic' (their statements: YtdfancdhphdkdaaTotals.lean).
  GIVEN WITH THE SEED: the statements are not yours to turn. If you find one false, say at which input.
  Laid BY PROGRAM, IN A SANDBOX (cutbox-rows.mjs): the forced cells as the released guide's own fill.sh prints them over the translation f93b59c3f575804c… (all of the seat's roots in one cut). By AI agents, Wed Nov 11 2026. No macro, syntax, notation, axiom, sorry.
-/
import Derived.Test.YtdfancdhphdkdaaChecked
import GoSem.Claim
import GoSem.ClaimJoined
import GoSem.ClaimMapViews
import Derived.JoinedTies
import Derived.KernelRfl
namespace Go.Proofs.Ytdfancdhphdkdaa
/- THE CELL 'sum', in the pinned program and in every row, IS THE sha256 OF THE DUMP (.gsa) THAT YtdfancdhphdkdaaProg.lean LOADS. Nothing in Lean hashes anything: it is a label: what it is worth is what the hold of that sum in a sandbox is worth. -/
noncomputable def Try.pinned : Pinned := { name := "ytdfancdhphdkdaa", sum := "f93b59c3f575804c79a5c318526e83002e048edcf5e961f64af43fc57de6ef57", checked := Try.checked }
namespace Rows
def none {H : Type} : Left H := { results := [], args := [] }

/-- 'scrutineerlaw04.ExprEvals': WHATEVER THE INPUT: true; the input reads as it did. -/
def exprEvalsSpec : ChangeSpec := { name := "exprEvals", fn := fun _ => fun
  | [d1, d2, d3] => { results := [.lit (.bool true)], args := [d1, d2, d3] }
  | _ => none }
def exprEvalsRow : OpenClaim := { program := "ytdfancdhphdkdaa", sum := "f93b59c3f575804c79a5c318526e83002e048edcf5e961f64af43fc57de6ef57", func := "scrutineer/scrutineerlaw04.ExprEvals", spec := "exprEvals", recurses := true, apart := false }
def ExprEvalsSaid : Prop := exprEvalsRow.holds Try.pinned (OpenSpec.ofChange exprEvalsSpec)

/-- ITS FALSE NEIGHBOUR: 'it returns false'. Refute it at one input. -/
def exprEvalsWrong : ChangeSpec := { name := "exprEvals", fn := fun _ => fun
  | [d1, d2, d3] => { results := [.lit (.bool false)], args := [d1, d2, d3] }
  | _ => none }
def ExprEvalsWrongFalsely : Prop := exprEvalsRow.holds Try.pinned (OpenSpec.ofChange exprEvalsWrong)

/-- 'scrutineerlaw04.ExprTwo': WHATEVER THE INPUT: true; the input reads as it did. -/
def exprTwoSpec : ChangeSpec := { name := "exprTwo", fn := fun _ => fun
  | [d1, d2, d3] => { results := [.lit (.bool true)], args := [d1, d2, d3] }
  | _ => none }
def exprTwoRow : OpenClaim := { program := "ytdfancdhphdkdaa", sum := "f93b59c3f575804c79a5c318526e83002e048edcf5e961f64af43fc57de6ef57", func := "scrutineer/scrutineerlaw04.ExprTwo", spec := "exprTwo", recurses := true, apart := false }
def ExprTwoSaid : Prop := exprTwoRow.holds Try.pinned (OpenSpec.ofChange exprTwoSpec)

/-- ITS FALSE NEIGHBOUR: 'it returns false'. Refute it at one input. -/
def exprTwoWrong : ChangeSpec := { name := "exprTwo", fn := fun _ => fun
  | [d1, d2, d3] => { results := [.lit (.bool false)], args := [d1, d2, d3] }
  | _ => none }
def ExprTwoWrongFalsely : Prop := exprTwoRow.holds Try.pinned (OpenSpec.ofChange exprTwoWrong)

/-- 'scrutineerlaw04.ExprMay': WHATEVER THE INPUT: true; the input reads as it did. -/
def exprMaySpec : ChangeSpec := { name := "exprMay", fn := fun _ => fun
  | [d1, d2] => { results := [.lit (.bool true)], args := [d1, d2] }
  | _ => none }
def exprMayRow : OpenClaim := { program := "ytdfancdhphdkdaa", sum := "f93b59c3f575804c79a5c318526e83002e048edcf5e961f64af43fc57de6ef57", func := "scrutineer/scrutineerlaw04.ExprMay", spec := "exprMay", recurses := true, apart := false }
def ExprMaySaid : Prop := exprMayRow.holds Try.pinned (OpenSpec.ofChange exprMaySpec)

/-- ITS FALSE NEIGHBOUR: 'it returns false'. Refute it at one input. -/
def exprMayWrong : ChangeSpec := { name := "exprMay", fn := fun _ => fun
  | [d1, d2] => { results := [.lit (.bool false)], args := [d1, d2] }
  | _ => none }
def ExprMayWrongFalsely : Prop := exprMayRow.holds Try.pinned (OpenSpec.ofChange exprMayWrong)

/-- 'scrutineerlaw04.ExprJoins': WHATEVER THE INPUT: true; the input reads as it did. -/
def exprJoinsSpec : ChangeSpec := { name := "exprJoins", fn := fun _ => fun
  | [d1, d2, d3, d4, d5] => { results := [.lit (.bool true)], args := [d1, d2, d3, d4, d5] }
  | _ => none }
def exprJoinsRow : OpenClaim := { program := "ytdfancdhphdkdaa", sum := "f93b59c3f575804c79a5c318526e83002e048edcf5e961f64af43fc57de6ef57", func := "scrutineer/scrutineerlaw04.ExprJoins", spec := "exprJoins", recurses := true, apart := false }
def ExprJoinsSaid : Prop := exprJoinsRow.holds Try.pinned (OpenSpec.ofChange exprJoinsSpec)

/-- ITS FALSE NEIGHBOUR: 'it returns false'. Refute it at one input. -/
def exprJoinsWrong : ChangeSpec := { name := "exprJoins", fn := fun _ => fun
  | [d1, d2, d3, d4, d5] => { results := [.lit (.bool false)], args := [d1, d2, d3, d4, d5] }
  | _ => none }
def ExprJoinsWrongFalsely : Prop := exprJoinsRow.holds Try.pinned (OpenSpec.ofChange exprJoinsWrong)

/-- 'scrutineerlaw04.ExprNots': WHATEVER THE INPUT: true; the input reads as it did. -/
def exprNotsSpec : ChangeSpec := { name := "exprNots", fn := fun _ => fun
  | [d1, d2, d3] => { results := [.lit (.bool true)], args := [d1, d2, d3] }
  | _ => none }
def exprNotsRow : OpenClaim := { program := "ytdfancdhphdkdaa", sum := "f93b59c3f575804c79a5c318526e83002e048edcf5e961f64af43fc57de6ef57", func := "scrutineer/scrutineerlaw04.ExprNots", spec := "exprNots", recurses := true, apart := false }
def ExprNotsSaid : Prop := exprNotsRow.holds Try.pinned (OpenSpec.ofChange exprNotsSpec)

/-- ITS FALSE NEIGHBOUR: 'it returns false'. Refute it at one input. -/
def exprNotsWrong : ChangeSpec := { name := "exprNots", fn := fun _ => fun
  | [d1, d2, d3] => { results := [.lit (.bool false)], args := [d1, d2, d3] }
  | _ => none }
def ExprNotsWrongFalsely : Prop := exprNotsRow.holds Try.pinned (OpenSpec.ofChange exprNotsWrong)

/- THE SECOND FORM. 'bulk': how many values and letters a reading holds, each counted each time it is reached (what is shared counts as often as it is met; a slice's spare places count too). A statement '..UptoSaid' is the law's where the arguments, and the package variables that the reading takes, are together of bulk at most 1048576: NARROWER than '..Said'. Prove '..Said' where nothing that the law and all that it calls make is longer than what came in: it says more and counts as full. Else prove '..UptoSaid'. A law counts once. -/
mutual
def uptoBulk {H : Type} : DataW H → Nat
  | .lit (.string bytes) => bytes.length + 1
  | .lit _ => 1
  | .nil => 1
  | .ptr d => uptoBulk d + 1
  | .slice elems spare => uptoBulkAll elems + uptoBulkAll spare + 1
  | .agg parts => uptoBulkAll parts + 1
  | .iface _ d => uptoBulk d + 1
  | .map entries => uptoBulkEntries entries + 1
  | .held _ => 1
def uptoBulkAll {H : Type} : List (DataW H) → Nat
  | [] => 0
  | d :: r => uptoBulk d + uptoBulkAll r
def uptoBulkEntries {H : Type} : List (Lit × DataW H) → Nat
  | [] => 0
  | x :: r => uptoBulkEntry x + uptoBulkEntries r
def uptoBulkEntry {H : Type} : Lit × DataW H → Nat
  | (.string bytes, d) => bytes.length + uptoBulk d + 1
  | (_, d) => uptoBulk d + 1
 end
def uptoSmall : (H : Type) → List (DataW H) → Bool := fun _ ds => decide (uptoBulkAll ds ≤ 1048576)
def OpenSpec.upto (s : _root_.Go.ChangeSpec) : _root_.Go.OpenSpec := { _root_.Go.OpenSpec.ofChange s with cond := some uptoSmall }

/-- 'scrutineerlaw04.ExprEvals', WHERE WHAT IT READS IS OF BULK AT MOST 1048576: true; the input reads as it did. -/
def exprEvalsUptoRow : OpenClaim := { program := "ytdfancdhphdkdaa", sum := "f93b59c3f575804c79a5c318526e83002e048edcf5e961f64af43fc57de6ef57", func := "scrutineer/scrutineerlaw04.ExprEvals", spec := "exprEvals", recurses := true, apart := false, narrowed := true }
def ExprEvalsUptoSaid : Prop := exprEvalsUptoRow.holds Try.pinned (OpenSpec.upto exprEvalsSpec)

/-- 'scrutineerlaw04.ExprTwo', WHERE WHAT IT READS IS OF BULK AT MOST 1048576: true; the input reads as it did. -/
def exprTwoUptoRow : OpenClaim := { program := "ytdfancdhphdkdaa", sum := "f93b59c3f575804c79a5c318526e83002e048edcf5e961f64af43fc57de6ef57", func := "scrutineer/scrutineerlaw04.ExprTwo", spec := "exprTwo", recurses := true, apart := false, narrowed := true }
def ExprTwoUptoSaid : Prop := exprTwoUptoRow.holds Try.pinned (OpenSpec.upto exprTwoSpec)

/-- 'scrutineerlaw04.ExprMay', WHERE WHAT IT READS IS OF BULK AT MOST 1048576: true; the input reads as it did. -/
def exprMayUptoRow : OpenClaim := { program := "ytdfancdhphdkdaa", sum := "f93b59c3f575804c79a5c318526e83002e048edcf5e961f64af43fc57de6ef57", func := "scrutineer/scrutineerlaw04.ExprMay", spec := "exprMay", recurses := true, apart := false, narrowed := true }
def ExprMayUptoSaid : Prop := exprMayUptoRow.holds Try.pinned (OpenSpec.upto exprMaySpec)

/-- 'scrutineerlaw04.ExprJoins', WHERE WHAT IT READS IS OF BULK AT MOST 1048576: true; the input reads as it did. -/
def exprJoinsUptoRow : OpenClaim := { program := "ytdfancdhphdkdaa", sum := "f93b59c3f575804c79a5c318526e83002e048edcf5e961f64af43fc57de6ef57", func := "scrutineer/scrutineerlaw04.ExprJoins", spec := "exprJoins", recurses := true, apart := false, narrowed := true }
def ExprJoinsUptoSaid : Prop := exprJoinsUptoRow.holds Try.pinned (OpenSpec.upto exprJoinsSpec)

/-- 'scrutineerlaw04.ExprNots', WHERE WHAT IT READS IS OF BULK AT MOST 1048576: true; the input reads as it did. -/
def exprNotsUptoRow : OpenClaim := { program := "ytdfancdhphdkdaa", sum := "f93b59c3f575804c79a5c318526e83002e048edcf5e961f64af43fc57de6ef57", func := "scrutineer/scrutineerlaw04.ExprNots", spec := "exprNots", recurses := true, apart := false, narrowed := true }
def ExprNotsUptoSaid : Prop := exprNotsUptoRow.holds Try.pinned (OpenSpec.upto exprNotsSpec)

end Rows
end Go.Proofs.Ytdfancdhphdkdaa
