/-
  Contracts of the document's own answers for layer 1: a number's, a whole number's and a row's bytes.
-/
import Derived.Test.YtkgnondlcaklnaaGreatJ03
namespace Go.Proofs.YtkgnondlcaklnaaGreat
open Go.RowKit

set_option maxRecDepth 100000 in
set_option maxHeartbeats 400000 in
theorem refNum_any (x : Nat) (l : List UInt8) (w : World) (hres : numB x = l) (hx : x < 18446744073709551616) :
    Calls Tryz.prog 40 #[.int .u64 x] w (Puts w l) := by
  subst hres
  have hnl := numB_length x hx
  go_enter Tryz.func40, Tryz.ntmps40
  go_wp2
  go_loopw [0, 3] (fun n b wr => ∃ (y : Nat) (pre : List UInt8), y < 18446744073709551616 ∧ n = .int .u64 y ∧ wr.ownsRow w.heap.size 5 1 b pre.length (bv pre) ∧ Hid (pre ++ numB y = numB x) ∧ Below w.heap.size w wr) (fun n _ _ => (intOf n).toNat)
  case atStart => exact ⟨x, [], hx, rfl, World.ownsRow_lit w #[] 0 (Nat.le_refl _) (by simp [maxLen]) rfl, rfl, (Below.refl _ _).alloc (Nat.le_refl _) _⟩
  case round =>
    obtain ⟨y, pre, hy, rfl, hpre, HE, hbel⟩ := hrel
    have hlen : pre.length ≤ 70368744177700 := by
      have := congrArg List.length HE.out
      simp at this
      omega
    by_cases hlt : 127 < y
    · go_wp2_with (at_builtin; refine wpList_append_byte (P := Tryz.prog) _ rfl (.tmp 7) (.tmp 12) 52 rfl w.heap.size 5 u8_info Tryz.underlying52 _ pre.length (bv pre) _ rfl hpre rfl hlen hbel.size ?_; intro v1 w1 hown1 hbel1)
      have e1 : bv (pre ++ [UInt8.ofNat (y % 128 + 128)]) = bv pre ++ [.int .u8 (128 + (y : Int) % 128)] := by
        rw [bv_append, bv_one, byte_of (by omega)]
        simp
        omega
      go_roundw
      case rel =>
        refine ⟨y / 128, pre ++ [UInt8.ofNat (y % 128 + 128)], by omega, by go_num, ?_, ?_, hbel.trans hbel1⟩
        · rw [e1, List.length_append]
          exact hown1
        · show _ = _
          rw [← HE.out, numB_big (n := y) (by omega)]
          simp
      case measure => simp [intOf]; omega
    · have e1 : bv (pre ++ numB y) = bv pre ++ [.int .u8 (y : Int)] := by
        rw [numB_small (by omega), bv_append, bv_one, byte_of (by omega)]
      have e2 : (pre ++ numB y).length = pre.length + 1 := by rw [numB_small (by omega)]; simp
      have H1 := hide_ e1
      have H2 := hide_ e2
      clear e1 e2
      go_wp2_with (at_builtin; refine wpList_append_byte (P := Tryz.prog) _ rfl (.tmp 16) (.tmp 19) 52 rfl w.heap.size 5 u8_info Tryz.underlying52 _ pre.length (bv pre) _ rfl hpre rfl hlen hbel.size ?_; intro v1 w1 hown1 hbel1)
      go_ret
      have h2 : w1.ownsRow w.heap.size 5 1 v1 (numB x).length (bv (numB x)) := by
        rw [← HE.out, H1.out, H2.out]
        exact hown1
      obtain ⟨A', c', rfl⟩ := own_slice h2
      exact ⟨A', c', rfl, h2, hbel.trans hbel1⟩

set_option maxRecDepth 100000 in
theorem refInt_any (n : Int) (l : List UInt8) (w : World) (hres : intB n = l) (h1 : -9223372036854775808 ≤ n) (h2 : n ≤ 9223372036854775807) :
    Calls Tryz.prog 84 #[.int .i64 n] w (Puts w l) := by
  subst hres
  have hlt := foldN_lt n h1 h2
  by_cases h : n < 0
  · have e0 : 2 * (-1 - n) + 1 = ((foldN n : Nat) : Int) := by unfold foldN; rw [if_pos h]; omega
    have HE := hide_ e0
    clear e0
    go_enter Tryz.func84, Tryz.ntmps84
    go_wp2_with fail
    rw [HE.out]
    refine (refNum_any (foldN n) _ w rfl hlt).mono ?_
    rintro e w1 ⟨A', c', rfl, hown, hb⟩
    go_wp2
    go_ret
    exact ⟨A', c', rfl, hown, hb⟩
  · have e0 : 2 * n = ((foldN n : Nat) : Int) := by unfold foldN; rw [if_neg h]; omega
    have HE := hide_ e0
    clear e0
    go_enter Tryz.func84, Tryz.ntmps84
    go_wp2_with fail
    rw [HE.out]
    refine (refNum_any (foldN n) _ w rfl hlt).mono ?_
    rintro e w1 ⟨A', c', rfl, hown, hb⟩
    go_wp2
    go_ret
    exact ⟨A', c', rfl, hown, hb⟩

end Go.Proofs.YtkgnondlcaklnaaGreat