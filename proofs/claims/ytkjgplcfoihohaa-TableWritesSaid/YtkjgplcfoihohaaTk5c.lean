/-
  Contracts of table's taker: rules, contracts; Get.
-/
import Derived.Test.YtkjgplcfoihohaaTk5b
import Derived.Deep.DeepCutAuto
namespace Go.Proofs.Ytkjgplcfoihohaa
open Go.RowKit

theorem BoxAt.frozen {w : World} {g : Nat} {cs : Array Value} {t : TypeId} (h : BoxAt w g cs t) (i : Nat) : w.frozen? ⟨g, i, none⟩ = false := by
  unfold BoxAt at h
  simp [World.frozen?, h]
def ruleS (s : RS) : RuM × RS :=
  let a := numS 1000 s
  let b := numS 1000 a.2
  let c := numS 1000 b.2
  let d := numS 1000 c.2
  let e := fmlS d.2
  let f := manyS 8 setS e.2
  let h := manyS 4 emS f.2
  (⟨(a.1 : Int), (b.1 : Int), (c.1 : Int), (d.1 : Int), ⟨none, 0, e.1⟩, ⟨none, 0, f.1⟩, ⟨none, 0, h.1⟩⟩, h.2)
def tabS (s : RS) : (Int × Int × List RuM) × RS :=
  let a := numS 1000 s
  let b := numS 1000 a.2
  let r := manyS 32 ruleS b.2
  (((a.1 : Int), (b.1 : Int), r.1), r.2)
theorem ruleS_ok {s : RS} (h : RSok s) : RSok (ruleS s).2 :=
  manyS_ok (fun _ h => emS_ok h) (manyS_ok (fun _ h => setS_ok h) (fmlS_ok (numS_ok (numS_ok (numS_ok (numS_ok h).1).1).1).1))
theorem tabS_ok {s : RS} (h : RSok s) : RSok (tabS s).2 := manyS_ok (fun _ h => ruleS_ok h) (numS_ok (numS_ok h).1).1

end Go.Proofs.Ytkjgplcfoihohaa
