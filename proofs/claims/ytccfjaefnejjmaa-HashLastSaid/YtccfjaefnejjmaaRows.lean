/-
  No cell of these rows narrows 'for every input' (looked for: loops, veiled, ifaces, maps, wideKeys, modest, calm, conditions, laid).
  DERIVED. THE GIVEN ROWS OF THIS SEAT. 3 by the template 'for every input the law returns true; each argument reads behind the call as it read before'; 0 by the template 'total and deterministic' (their statements: YtccfjaefnejjmaaTotals.lean).
  GIVEN WITH THE SEED: the statements are not yours to turn. If you find one false, say at which input.
  Laid BY PROGRAM, IN A SANDBOX (cutbox-rows.mjs): the forced cells as the released guide's own fill.sh prints them over the translation 9e0c4d29c4851ec3… (all of the seat's roots in one cut). By AI agents, Wed Nov 11 2026. No macro, syntax, notation, axiom, sorry.
-/
import Derived.Test.YtccfjaefnejjmaaChecked
import GoSem.Claim
import GoSem.ClaimJoined
import GoSem.ClaimMapViews
import Derived.JoinedTies
import Derived.KernelRfl
namespace Go.Proofs.Ytccfjaefnejjmaa
/- THE CELL 'sum', in the pinned program and in every row, IS THE sha256 OF THE DUMP (.gsa) THAT YtccfjaefnejjmaaProg.lean LOADS. Nothing in Lean hashes anything: it is a label: what it is worth is what the hold of that sum in a sandbox is worth. -/
noncomputable def Try.pinned : Pinned := { name := "ytccfjaefnejjmaa", sum := "9e0c4d29c4851ec3f8ca10ad35f3daaaf8e954b29b63ff861480ec5628de596a", checked := Try.checked }
namespace Rows
def none {H : Type} : Left H := { results := [], args := [] }

/-- 'scrutineerlaw08.HashOf': WHATEVER THE INPUT: true; the input reads as it did. -/
def hashOfSpec : ChangeSpec := { name := "hashOf", fn := fun _ => fun
  | [d] => { results := [.lit (.bool true)], args := [d] }
  | _ => none }
def hashOfRow : OpenClaim := { program := "ytccfjaefnejjmaa", sum := "9e0c4d29c4851ec3f8ca10ad35f3daaaf8e954b29b63ff861480ec5628de596a", func := "scrutineer/scrutineerlaw08.HashOf", spec := "hashOf", apart := false }
def HashOfSaid : Prop := hashOfRow.holds Try.pinned (OpenSpec.ofChange hashOfSpec)

/-- ITS FALSE NEIGHBOUR: 'it returns false'. Refute it at one input. -/
def hashOfWrong : ChangeSpec := { name := "hashOf", fn := fun _ => fun
  | [d] => { results := [.lit (.bool false)], args := [d] }
  | _ => none }
def HashOfWrongFalsely : Prop := hashOfRow.holds Try.pinned (OpenSpec.ofChange hashOfWrong)

/-- 'scrutineerlaw08.HashStirs': WHATEVER THE INPUT: true; the input reads as it did. -/
def hashStirsSpec : ChangeSpec := { name := "hashStirs", fn := fun _ => fun
  | [d1, d2, d3, d4] => { results := [.lit (.bool true)], args := [d1, d2, d3, d4] }
  | _ => none }
def hashStirsRow : OpenClaim := { program := "ytccfjaefnejjmaa", sum := "9e0c4d29c4851ec3f8ca10ad35f3daaaf8e954b29b63ff861480ec5628de596a", func := "scrutineer/scrutineerlaw08.HashStirs", spec := "hashStirs", apart := false }
def HashStirsSaid : Prop := hashStirsRow.holds Try.pinned (OpenSpec.ofChange hashStirsSpec)

/-- ITS FALSE NEIGHBOUR: 'it returns false'. Refute it at one input. -/
def hashStirsWrong : ChangeSpec := { name := "hashStirs", fn := fun _ => fun
  | [d1, d2, d3, d4] => { results := [.lit (.bool false)], args := [d1, d2, d3, d4] }
  | _ => none }
def HashStirsWrongFalsely : Prop := hashStirsRow.holds Try.pinned (OpenSpec.ofChange hashStirsWrong)

/-- 'scrutineerlaw08.HashLast': WHATEVER THE INPUT: true; the input reads as it did. -/
def hashLastSpec : ChangeSpec := { name := "hashLast", fn := fun _ => fun
  | [d1, d2, d3] => { results := [.lit (.bool true)], args := [d1, d2, d3] }
  | _ => none }
def hashLastRow : OpenClaim := { program := "ytccfjaefnejjmaa", sum := "9e0c4d29c4851ec3f8ca10ad35f3daaaf8e954b29b63ff861480ec5628de596a", func := "scrutineer/scrutineerlaw08.HashLast", spec := "hashLast", apart := false }
def HashLastSaid : Prop := hashLastRow.holds Try.pinned (OpenSpec.ofChange hashLastSpec)

/-- ITS FALSE NEIGHBOUR: 'it returns false'. Refute it at one input. -/
def hashLastWrong : ChangeSpec := { name := "hashLast", fn := fun _ => fun
  | [d1, d2, d3] => { results := [.lit (.bool false)], args := [d1, d2, d3] }
  | _ => none }
def HashLastWrongFalsely : Prop := hashLastRow.holds Try.pinned (OpenSpec.ofChange hashLastWrong)

/- THE SECOND FORM. 'bulk': how many values and letters a reading holds, each counted each time it is reached (what is shared counts as often as it is met; a slice's spare places count too). A statement '..UptoSaid' is the law's where the arguments, and the package variables that the reading takes, are together of bulk at most 1048576: NARROWER than '..Said'. Prove '..Said' where nothing that the law and all that it calls make is longer than what came in: it says more and counts as full. Else prove '..UptoSaid'. A law counts once. -/
mutual
def uptoBulk {H : Type} : DataW H → Nat
  | .lit (.string bytes) => bytes.length + 1
  | .lit _ => 1
  | .nil => 1
  | .ptr d => uptoBulk d + 1
  | .slice elems spare => uptoBulkAll elems + uptoBulkAll spare + 1
  | .agg parts => uptoBulkAll parts + 1
  | .iface _ d => uptoBulk d + 1
  | .map entries => uptoBulkEntries entries + 1
  | .held _ => 1
def uptoBulkAll {H : Type} : List (DataW H) → Nat
  | [] => 0
  | d :: r => uptoBulk d + uptoBulkAll r
def uptoBulkEntries {H : Type} : List (Lit × DataW H) → Nat
  | [] => 0
  | x :: r => uptoBulkEntry x + uptoBulkEntries r
def uptoBulkEntry {H : Type} : Lit × DataW H → Nat
  | (.string bytes, d) => bytes.length + uptoBulk d + 1
  | (_, d) => uptoBulk d + 1
 end
def uptoSmall : (H : Type) → List (DataW H) → Bool := fun _ ds => decide (uptoBulkAll ds ≤ 1048576)
def OpenSpec.upto (s : _root_.Go.ChangeSpec) : _root_.Go.OpenSpec := { _root_.Go.OpenSpec.ofChange s with cond := some uptoSmall }

/-- 'scrutineerlaw08.HashOf', WHERE WHAT IT READS IS OF BULK AT MOST 1048576: true; the input reads as it did. -/
def hashOfUptoRow : OpenClaim := { program := "ytccfjaefnejjmaa", sum := "9e0c4d29c4851ec3f8ca10ad35f3daaaf8e954b29b63ff861480ec5628de596a", func := "scrutineer/scrutineerlaw08.HashOf", spec := "hashOf", apart := false, narrowed := true }
def HashOfUptoSaid : Prop := hashOfUptoRow.holds Try.pinned (OpenSpec.upto hashOfSpec)

/-- 'scrutineerlaw08.HashStirs', WHERE WHAT IT READS IS OF BULK AT MOST 1048576: true; the input reads as it did. -/
def hashStirsUptoRow : OpenClaim := { program := "ytccfjaefnejjmaa", sum := "9e0c4d29c4851ec3f8ca10ad35f3daaaf8e954b29b63ff861480ec5628de596a", func := "scrutineer/scrutineerlaw08.HashStirs", spec := "hashStirs", apart := false, narrowed := true }
def HashStirsUptoSaid : Prop := hashStirsUptoRow.holds Try.pinned (OpenSpec.upto hashStirsSpec)

/-- 'scrutineerlaw08.HashLast', WHERE WHAT IT READS IS OF BULK AT MOST 1048576: true; the input reads as it did. -/
def hashLastUptoRow : OpenClaim := { program := "ytccfjaefnejjmaa", sum := "9e0c4d29c4851ec3f8ca10ad35f3daaaf8e954b29b63ff861480ec5628de596a", func := "scrutineer/scrutineerlaw08.HashLast", spec := "hashLast", apart := false, narrowed := true }
def HashLastUptoSaid : Prop := hashLastUptoRow.holds Try.pinned (OpenSpec.upto hashLastSpec)

end Rows
end Go.Proofs.Ytccfjaefnejjmaa
