/-
  Contracts of ring's points and Build.
-/
import Derived.Test.YtlcgihdphdkhpaaRing1
import Derived.Test.YtlcgihdphdkhpaaRows2
import Derived.WalkSpells
namespace Go.Proofs.Ytlcgihdphdkhpaa
open Go.RowKit

theorem pt_info : (Try.prog.info? 65).map (fun i => (i.zero, i.size, i.bytes)) = some (some (.agg #[.int .u64 0, .int .u8 0]), 2, 16) := by kernel_rfl

set_option maxRecDepth 100000 in
theorem points_any (n : UInt8) (w : World) :
    Calls Try.prog 56 #[.int .u8 (n.toNat : Int)] w fun e w' => ∃ A c, e = .returned (.slice A 8 c) ∧ w'.ownsRow w.heap.size 65 2 (.slice A 8 c) 8 (pv (ptsOf n)) ∧ Below w.heap.size w w' := by
  have HB0 := hide_ (Below.refl w.heap.size w)
  have HO0 := hide_ (show w.ownsRow w.heap.size 65 2 (.slice none 0 0) 0 (pv (ptsUpto n 0)) from ⟨rfl, .inl ⟨rfl, rfl⟩⟩)
  go_enter Try.func56, Try.ntmps56
  go_wp2
  go_loopw [3, 5] (fun r i wx => ∃ (k : Nat) (A : Option Addr) (c : Nat), k ≤ 8 ∧ i = .int .u8 k ∧ r = .slice A k c ∧ Hid (wx.ownsRow w.heap.size 65 2 (.slice A k c) k (pv (ptsUpto n k))) ∧ Hid (Below w.heap.size w wx)) (fun _ i _ => 8 - (intOf i).toNat)
  case atStart => exact ⟨0, none, 0, by omega, rfl, rfl, HO0, HB0⟩
  case round =>
    obtain ⟨k, A, c, hk, rfl, rfl, HO, HB⟩ := hrel
    by_cases hlt : k < 8
    · have HP := hide_ (fun (u : World) => place_any n (UInt8.ofNat k) u)
      rw [byte_of (show k < 256 by omega)] at HP
      have HS := hide_ (ptsUpto_succ n k)
      have hpl : placeN n (UInt8.ofNat k) = stirN (fnv [110, n, UInt8.ofNat k]) := rfl
      rw [← hpl] at HP
      obtain ⟨x, hx⟩ : ∃ x, placeN n (UInt8.ofNat k) = x := ⟨_, rfl⟩
      rw [hx] at HP HS
      clear hpl hx
      go_wp2_with fail
      refine (HP.out _).mono ?_
      rintro e w1 ⟨rfl, hb1⟩
      have HB1 := hide_ (HB.out.trans (hb1.mono HB.out.size))
      have HO1 := hide_ ((own_below HO.out hb1).alloc (.cells #[.int .u64 (x : Nat), .int .u8 (n.toNat : Int)] 65))
      have HSN := hide_ (sees_box w1 #[.int .u64 (x : Nat), .int .u8 (n.toNat : Int)] 65 (pv [(x, n)]) rfl)
      have HCV := hide_ (show pv (ptsUpto n k) ++ pv [(x, n)] = pv (ptsUpto n (k + 1)) by rw [HS.out, pv_append])
      have hsz : w.heap.size ≤ w1.heap.size := HB1.out.size
      clear hb1
      go_wp2_with (at_builtin; refine wpList_append_cells _ rfl _ _ 58 rfl w.heap.size 65 _ 2 16 pt_info rfl (by omega) Try.underlying58 _ k (pv (ptsUpto n k)) rfl HO1.out (w1.heap.size + 1) (some ⟨w1.heap.size, 0, none⟩) 1 1 (pv [(x, n)]) rfl rfl HSN.out (pv_one _) (by omega) (by omega) (by simp; omega) (k + 1) rfl _ HCV.out ?_; intro A2 c2 w3 hown hb3; have HO3 := hide_ hown; have HB3 := hide_ hb3; clear hown hb3)
      go_roundw
      case rel => exact ⟨k + 1, A2, c2, by omega, by go_num, rfl, HO3, hide_ ((HB1.out.alloc hsz _).trans HB3.out)⟩
      case measure => simp [intOf]; omega
    · obtain rfl : k = 8 := by omega
      go_wp2
      go_ret
      exact ⟨_, _, rfl, HO.out, HB.out⟩
end Go.Proofs.Ytlcgihdphdkhpaa
