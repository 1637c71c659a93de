/-
  How a ballot comes in.
-/
import Derived.Test.YtlcgihdphdkhpaaLaw
import Derived.Lib.SmallJoins
namespace Go.Proofs.Ytlcgihdphdkhpaa
open Go.ChangeShapes Go.WideShapes Go.ChangeAt Go.RowKit Go.Joins

section
variable {H : Type} {enc : TypeId × Value → H} {w : World} {base : Nat} {spare : Nat → Bool} {held : Bool}

theorem open_num {P : Program} {fuel : Nat} {t : TypeId} {k : IntKind} {v : Value} {y : DataW H × List MemPlace} (ht : P.underlying t = some (.int k)) (h : DataW.trod enc P w base spare held fuel t [v] = some y) :
    ∃ n : Int, v = .int k n ∧ (Lit.int k n).wf = true := by
  obtain ⟨n, e, _, hw⟩ := DataW.trod_int ht h
  injection e with e _
  exact ⟨n, e, hw⟩

end
end Go.Proofs.Ytlcgihdphdkhpaa