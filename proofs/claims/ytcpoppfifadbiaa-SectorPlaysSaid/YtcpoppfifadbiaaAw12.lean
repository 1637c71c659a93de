/-
  The law's example: a write that isn't synced is lost.
-/
import Derived.Test.YtcpoppfifadbiaaStep12
namespace Go.Proofs.Ytcpoppfifadbiaa
open Go.RowKit

/-- the row that the example writes -/
def ex12 : List UInt8 := (List.replicate 64 0).set 0 9
theorem ex_len : ex12.length = 64 := rfl

def exD1 : Dk := writeD (makeD 64 2) 1 ex12
def exD2 : Dk := backD exD1 0 false
theorem ex_err : errD (makeD 64 2) 1 ex12.length = 0 := by decide
theorem ex_reach : reachD exD2 1 = 0 := by decide
theorem ex_read : rdB exD2 1 = List.replicate 64 0 := by rfl

/-- a disk behind some calls is Back -/
theorem Back_at {w w0 : World} {L L' : Lay} {D : Dk} (eb : L'.b = L.b) (h : DiskAt w L' D) (ht : ∀ w' D', Does L' w w' D' → Does L w0 w' D') (keep : Int) (torn : Bool) :
    Calls Try.prog 15 #[.pointer (some ⟨L.b, 0, none⟩), .int .i64 keep, .bool torn] w fun e w' => e = .returned (.tuple #[]) ∧ Does L w0 w' (backD D keep torn) := by
  rw [← eb]
  exact (Back_any h keep torn).mono fun e w' ⟨h1, h2⟩ => ⟨h1, ht _ _ h2⟩
theorem Read_at {w : World} {L L' : Lay} {D : Dk} (eb : L'.b = L.b) (h : DiskAt w L' D) (i : Int) : Calls Try.prog 17 #[.pointer (some ⟨L.b, 0, none⟩), .int .i64 i] w (ReadR w D i) := by
  rw [← eb]
  exact Read_any h i

set_option maxRecDepth 100000 in
theorem awake12_any (w : World) : Calls Try.prog 6 #[] w fun e w' => e = .returned (.bool true) ∧ Below w.heap.size w w' := by
  have HN := hide_ (New_good 64 2 w (by omega) (by omega) (by omega) (by omega))
  go_enter Try.func6, Try.ntmps6
  go_wp2_with (go_at_call 7; refine HN.out.mono ?_; rintro e w1 ⟨L, rfl, hd, hb, hs⟩; (have hmk : (Instr.makeSlice 38 (.int .i64 64) (.int .i64 64)).run Try.prog w1 = .ok (.slice (some ⟨w1.heap.size, 0, none⟩) 64 64) (w1.alloc (.cells (zs12 64) 5)) := make12 64 (by omega) w1); (obtain ⟨W2, hW2⟩ : ∃ W2, w1.alloc (.cells (zs12 64) 5) = W2 := ⟨_, rfl⟩); (have hr := row_new12 w1 64); (have hd2 : DiskAt W2 L (makeD 64 2) := hW2 ▸ hd.below ((Below.refl _ _).alloc (Nat.le_refl _) _)); (have hb2 : Below w.heap.size w W2 := hW2 ▸ hb.alloc hb.size _); (rw [hW2] at hmk hr); (have HRW := hide_ hr); (obtain ⟨z0, f0⟩ := hr.get (j := 0) (by simp)); (have HD := hide_ hd2); (have HB := hide_ hb2); (have HS := hide_ hs); (have HBS := hide_ hb.size); (have HNW := hide_ (fun g (hg : L.has g) => show g ≠ w1.heap.size from fun e => absurd (hd.lt hg) (by omega))); clear hd hb hs hd2 hb2 hr hW2)
  obtain ⟨W3, hW3⟩ : ∃ W3, W2.setCell ⟨w1.heap.size, 0, none⟩ (.int .u8 9) = W3 := ⟨_, rfl⟩
  have hr3 : RowIs W3 w1.heap.size ex12 := by
    rw [← hW3]
    exact HRW.out.set_ (j := 0) 9
  have hlt : w1.heap.size < W2.heap.size := HRW.out.lt
  have hd3 : DiskAt W3 L (makeD 64 2) := HD.out.stay fun g hg => by
    rw [← hW3]
    refine Below.heap_setCell _ _ _ _ fun e => ?_
    have hz := HD.out.lt hg
    exact HNW.out g hg e
  have hb3 : Below w.heap.size w W3 := by
    rw [← hW3]
    exact HB.out.setCell (p := ⟨w1.heap.size, 0, none⟩) HBS.out _
  have HWR := hide_ (Write_any hd3 1 ex12 W3.heap.size (some ⟨w1.heap.size, 0, none⟩) 64 64 hr3.sees rfl (Nat.le_refl _) (by simp [makeD]) (by omega))
  have HB3 := hide_ hb3
  rw [hW3]
  clear hr3 hd3 hb3 hmk z0 f0 hW3
  refine HWR.out.mono ?_
  rintro e w4 ⟨rfl, hd4⟩
  obtain ⟨L4, eb4, hd4, ht4⟩ := hd4.open12
  rw [ex_err]
  have HBK := hide_ (Back_at eb4 hd4 ht4 0 false)
  clear hd4 ht4
  go_wp2_with (first | (go_at_call 15; refine HBK.out.mono ?_; rintro e w5 ⟨rfl, hd5⟩; (obtain ⟨L5, eb5, hd5, hc5, _⟩ := hd5); (have HC5 := hide_ hc5); (have HRD := hide_ (Read_at eb5 hd5 1)); clear hd5 hc5) | (go_at_call 17; refine HRD.out.mono ?_; rintro e w6 ⟨A6, c6, rfl, hown6, hb6⟩; (rw [show reachD (backD (writeD (makeD 64 2) 1 ex12) 0 false) 1 = 0 from ex_reach, show rdB (backD (writeD (makeD 64 2) 1 ex12) 0 false) 1 = List.replicate 64 0 from ex_read]); (rw [show rdB (backD (writeD (makeD 64 2) 1 ex12) 0 false) 1 = List.replicate 64 0 from ex_read] at hown6); (obtain ⟨g6, rfl, _, _, hr6⟩ := own_row hown6 rfl (by simp)); (obtain ⟨z6, _⟩ := hr6.get (j := 0) (by simp)); (have HB6 := hide_ hb6); clear hown6 hb6 hr6))
  go_ret
  have hb5 : Below w.heap.size w w5 := HB3.out.trans (HC5.out.below HB3.out.size HS.out)
  exact ⟨rfl, hb5.trans (HB6.out.mono hb5.size)⟩
end Go.Proofs.Ytcpoppfifadbiaa
