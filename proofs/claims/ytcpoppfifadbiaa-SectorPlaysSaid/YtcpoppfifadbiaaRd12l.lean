/-
  A step of both disks, whatever its kind.
-/
import Derived.Test.YtcpoppfifadbiaaRd12k
namespace Go.Proofs.Ytcpoppfifadbiaa
open Go.RowKit

/-- what a step does to a disk -/
def stepD (D : Dk) (s : StM) : Dk :=
  if s.ki = 1 then writeD D s.i s.b.l else if s.ki = 2 then syncD D else if s.ki = 3 then fuseD D s.i else if s.ki = 4 then fallD D else if s.ki = 5 then backD D s.i s.t else if s.ki = 6 then spoilD D s.i s.q s.y else D
theorem stepD_same (D : Dk) (s : StM) : (stepD D s).n = D.n ∧ (stepD D s).c = D.c := by
  have hf := fallD_n D
  have hb := burnD_n D
  unfold stepD
  split
  · unfold writeD
    split
    · split
      · exact burnD_n _
      · exact ⟨rfl, rfl⟩
    · exact ⟨rfl, rfl⟩
  split
  · unfold syncD
    split
    · split
      · exact hb
      · exact hb
    · exact ⟨rfl, rfl⟩
  split
  · exact ⟨rfl, rfl⟩
  split
  · exact hf
  split
  · exact ⟨hf.1, hf.2⟩
  split
  · unfold spoilD
    split <;> exact ⟨rfl, rfl⟩
  · exact ⟨rfl, rfl⟩
theorem stepD_waits (D : Dk) (s : StM) : (stepD D s).waits.length ≤ D.waits.length + 1 := by
  unfold stepD
  split
  · unfold writeD
    split
    · split
      · rw [burnD_waits]
        simp
      · exact Nat.le_succ _
    · exact Nat.le_succ _
  split
  · unfold syncD
    split
    · split
      · rw [burnD_waits]
        exact Nat.le_succ _
      · exact Nat.zero_le _
    · exact Nat.le_succ _
  split
  · exact Nat.le_succ _
  split
  · rw [fallD_waits]
    exact Nat.le_succ _
  split
  · exact Nat.zero_le _
  split
  · unfold spoilD
    split <;> exact Nat.le_succ _
  · exact Nat.le_succ _
theorem does_any {w : World} {L : Lay} {D : Dk} (h : DiskAt w L D) (x : RdM) (hx : RdM.ok w x) (hp : x.p = refOf D) (s : StM) (B : Nat) (hLB : ∀ g, L.has g → B ≤ g) (hBw : B ≤ w.heap.size) (hs : StM.ok w B s) (hn : D.waits.length + 1 ≤ 100000) (hl : s.b.l.length ≤ 999999) :
    Calls Try.prog 11 #[.pointer (some ⟨L.b, 0, none⟩), x.v, .agg s.cs.toArray] w (DoesP L (stepD D s) w) := by
  unfold stepD
  split
  · rename_i hk
    exact does1_any h x hx hp s hk B hLB hBw hs.2 hn hl
  split
  · rename_i hk
    exact does2_any h x hx hp s hk
  split
  · rename_i hk
    exact does3_any h x hx hp s hk (by have := hs.1.2.1; exact this.2)
  split
  · rename_i hk
    exact does4_any h x hx hp s hk
  split
  · rename_i hk
    exact does5_any h x hx hp s hk
  split
  · rename_i hk
    exact does6_any h x hx hp s hk
  · by_cases h0 : s.ki = 0
    · exact does0_any h x hx hp s h0
    · exact does7_any h x hx hp s (by omega)
end Go.Proofs.Ytcpoppfifadbiaa
