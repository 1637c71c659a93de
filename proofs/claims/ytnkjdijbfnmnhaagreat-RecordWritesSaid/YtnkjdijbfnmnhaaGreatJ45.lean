/-
  Texts of this claim put together: Msg2, Msg4.
-/
import Derived.Test.YtnkjdijbfnmnhaaGreatJ44
import Derived.Test.YtnkjdijbfnmnhaaGreatJ41
import Derived.Test.YtnkjdijbfnmnhaaGreatJ09
import Derived.Lib.SmallJoins
/-
  A message's bytes: contracts of msg's heads, flag and Put.
-/
namespace Go.Proofs.YtnkjdijbfnmnhaaGreat
open Go.RowKit

def okN (b : Bool) : Nat := if b then 1 else 0
/-- a message's bytes -/
def msgB (p : MsgP) : List UInt8 := numB p.ki ++ (numB p.fr ++ (numB p.tt ++ (numB p.ke ++ (numB p.co ++ (balB p.bc p.bn p.bl ++ (numB (okN p.ok) ++ (balB p.ac p.an p.al ++ (regB p.r ++ (balB p.nc p.nn p.nl ++ numB p.mx)))))))))
def putM (p : MsgP) : List UInt8 × Int := if mayM p then (markB (msgB p), 0) else ([], 3)
theorem putM_yes {p : MsgP} (h : mayM p = true) : putM p = (markB (msgB p), 0) := by unfold putM; rw [if_pos h]
theorem putM_no {p : MsgP} (h : mayM p = false) : putM p = ([], 3) := by unfold putM; rw [h]; rfl
theorem has_reg {p : MsgP} (h : hasB p = true) : mayG p.r = true := by
  unfold hasB at h
  simp only [Bool.and_eq_true, decide_eq_true_eq] at h
  rw [h.2]
  rfl
theorem may_reg {p : MsgP} (h : mayM p = true) : mayG p.r = true := by
  unfold mayM at h
  simp only [Bool.and_eq_true] at h
  have h := h.2.2.2.2
  unfold tellB at h
  split at h
  · simp only [Bool.and_eq_true] at h
    exact has_reg h.2.1
  · split at h
    · simp only [Bool.and_eq_true] at h
      have h := h.1
      unfold promB at h
      split at h
      · simp only [Bool.and_eq_true] at h
        exact h.2.1
      · exact has_reg h
    · split at h
      · simp only [Bool.and_eq_true] at h
        exact h.2.2.1
      · split at h
        · simp only [Bool.and_eq_true] at h
          exact has_reg h.1
        · cases h

def headV (g : Nat) : Value := .agg #[.pointer (some ⟨g, 0, none⟩), .pointer (some ⟨g, 1, none⟩), .pointer (some ⟨g, 2, none⟩), .pointer (some ⟨g, 3, none⟩)]


def headsB (m : MsgM) (k : Nat) : List UInt8 := ([m.ki, m.fr, m.tt, m.ke].take k).flatMap numB

end Go.Proofs.YtnkjdijbfnmnhaaGreat
/-
  What was put is taken: contract of msg's take.
-/
namespace Go.Proofs.YtnkjdijbfnmnhaaGreat
open Go.RowKit

theorem Num_put {g n : Nat} (most : Nat) {t : List UInt8} {w : World} (h : Rdr w g (numB n ++ t) 0) (hn : n ≤ most) (hm : n < 18446744073709551616) (hl : (numB n ++ t).length ≤ 1000000) :
    Calls Tryz.prog 135 #[.pointer (some ⟨g, 0, none⟩), .int .u64 most] w (Leaves w g (.int .u64 n) t 0) := by
  have h1 := Num_live most h (by omega)
  rw [takeUp_put n most t hm hn] at h1
  exact h1

theorem BalGet_put {g c n l : Nat} {t : List UInt8} {w : World} (h : Rdr w g (balB c n l ++ t) 0) (hi : BalIn c n l) (hl : (balB c n l ++ t).length ≤ 1000000) :
    Calls Tryz.prog 133 #[.pointer (some ⟨g, 0, none⟩)] w (Leaves w g (.agg #[.int .u64 c, .int .u8 n, .int .u32 l]) t 0) := by
  have h1 := Get_live h (by omega)
  rw [takeB_put t hi.1 hi.2.1 hi.2.2] at h1
  exact h1

theorem getS_puts {w : World} {B : Nat} {r : RegM} (hr : RegM.ok w B r) (hm : mayG r.p = true) (t : List UInt8) : getS (regB r.p ++ t, 0) = (r.p, (t, 0)) := by
  have hk := hr.1.1
  unfold U8 at hk
  by_cases h0 : r.p.ki = 0
  · have hz : r.p = zeroP := by
      unfold mayG at hm
      rw [if_pos h0] at hm
      exact of_decide_eq_true hm
    rw [hz]
    unfold getS
    rw [regS_zero t]
    rfl
  · unfold getS
    rw [regS_put (regOk_of hr hm) h0 t]
    simp only [if_true, hm]

theorem RegGet_put {g : Nat} {rp : RegP} {rb t : List UInt8} {w : World} (hget : ∀ t, getS (rb ++ t, 0) = (rp, (t, 0))) (h : Rdr w g (rb ++ t) 0) (hl : (rb ++ t).length ≤ 1000000) :
    Calls Tryz.prog 134 #[.pointer (some ⟨g, 0, none⟩)] w fun e w' => ∃ y : RegM, e = .returned y.v ∧ y.p = rp ∧ RegM.ok w' w'.heap.size y ∧ Lies RegM.ft y w.heap.size w'.heap.size ∧ Rdr w' g t 0 ∧ w.grownBy w' (some g) := by
  have h1 := GetReg_any (s := (rb ++ t, 0)) h ⟨.inl rfl, hl⟩
  rw [hget t] at h1
  exact h1

theorem box_apart {w : World} {g b i : Nat} {v : Value} {cs : Array Value} {t : TypeId} (h : BoxAt w g cs t) (hne : g ≠ b) : BoxAt (w.setCell ⟨b, i, none⟩ v) g cs t := (Below.heap_setCell w ⟨b, i, none⟩ v g hne).trans h

def headC (ki fr tt ke k : Nat) : Array Value := #[.int .u8 ((if 0 < k then ki else 0 : Nat) : Int), .int .u8 ((if 1 < k then fr else 0 : Nat) : Int), .int .u8 ((if 2 < k then tt else 0 : Nat) : Int), .int .u8 ((if 3 < k then ke else 0 : Nat) : Int),
  .int .u64 0, .int .u64 0, .int .u8 0, .int .u32 0, .bool false, .int .u64 0, .int .u8 0, .int .u32 0, .int .u8 0, .int .u64 0, .int .i64 0, .slice none 0 0, .slice none 0 0, .slice none 0 0, .int .u64 0, .slice none 0 0, .int .u64 0, .int .u8 0, .int .u32 0, .int .u64 0]

/-- what a call leaves that takes a message: a message in memory, what is left -/
def TookM (p : MsgP) (t : List UInt8) (g : Nat) (w : World) (e : Ending) (w' : World) : Prop :=
  ∃ x : MsgM, e = .returned x.v ∧ x.p = p ∧ MsgM.good w' w'.heap.size x ∧ Lies (fun m => RegM.ft m.r) x w.heap.size w'.heap.size ∧ Rdr w' g t 0 ∧ w.grownBy w' (some g)


end Go.Proofs.YtnkjdijbfnmnhaaGreat