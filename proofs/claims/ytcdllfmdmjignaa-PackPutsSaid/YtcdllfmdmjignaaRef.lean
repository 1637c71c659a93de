/-
  Contracts of the document's own answers for layer 1: a number's, a whole number's and a row's bytes.
-/
import Derived.Test.YtcdllfmdmjignaaPut
namespace Go.Proofs.Ytcdllfmdmjignaa
open Go.RowKit

set_option maxRecDepth 100000 in
set_option maxHeartbeats 400000 in
theorem refNum_any (x : Nat) (l : List UInt8) (w : World) (hres : numB x = l) (hx : x < 18446744073709551616) :
    Calls Try.prog 11 #[.int .u64 x] w (Puts w l) := by
  subst hres
  have hnl := numB_length x hx
  go_enter Try.func11, Try.ntmps11
  go_wp2
  go_loopw [0, 3] (fun n b wr => ∃ (y : Nat) (pre : List UInt8), y < 18446744073709551616 ∧ n = .int .u64 y ∧ wr.ownsRow w.heap.size 5 1 b pre.length (bv pre) ∧ Hid (pre ++ numB y = numB x) ∧ Below w.heap.size w wr) (fun n _ _ => (intOf n).toNat)
  case atStart => exact ⟨x, [], hx, rfl, World.ownsRow_lit w #[] 0 (Nat.le_refl _) (by simp [maxLen]) rfl, rfl, (Below.refl _ _).alloc (Nat.le_refl _) _⟩
  case round =>
    obtain ⟨y, pre, hy, rfl, hpre, HE, hbel⟩ := hrel
    have hlen : pre.length ≤ 70368744177700 := by
      have := congrArg List.length HE.out
      simp at this
      omega
    by_cases hlt : 127 < y
    · go_wp2_with (at_builtin; refine wpList_append_byte (P := Try.prog) _ rfl (.tmp 7) (.tmp 12) 22 rfl w.heap.size 5 u8_info Try.underlying22 _ pre.length (bv pre) _ rfl hpre rfl hlen hbel.size ?_; intro v1 w1 hown1 hbel1)
      have e1 : bv (pre ++ [UInt8.ofNat (y % 128 + 128)]) = bv pre ++ [.int .u8 (128 + (y : Int) % 128)] := by
        rw [bv_append, bv_one, byte_of (by omega)]
        simp
        omega
      go_roundw
      case rel =>
        refine ⟨y / 128, pre ++ [UInt8.ofNat (y % 128 + 128)], by omega, by go_num, ?_, ?_, hbel.trans hbel1⟩
        · rw [e1, List.length_append]
          exact hown1
        · show _ = _
          rw [← HE.out, numB_big (n := y) (by omega)]
          simp
      case measure => simp [intOf]; omega
    · have e1 : bv (pre ++ numB y) = bv pre ++ [.int .u8 (y : Int)] := by
        rw [numB_small (by omega), bv_append, bv_one, byte_of (by omega)]
      have e2 : (pre ++ numB y).length = pre.length + 1 := by rw [numB_small (by omega)]; simp
      have H1 := hide_ e1
      have H2 := hide_ e2
      clear e1 e2
      go_wp2_with (at_builtin; refine wpList_append_byte (P := Try.prog) _ rfl (.tmp 16) (.tmp 19) 22 rfl w.heap.size 5 u8_info Try.underlying22 _ pre.length (bv pre) _ rfl hpre rfl hlen hbel.size ?_; intro v1 w1 hown1 hbel1)
      go_ret
      have h2 : w1.ownsRow w.heap.size 5 1 v1 (numB x).length (bv (numB x)) := by
        rw [← HE.out, H1.out, H2.out]
        exact hown1
      obtain ⟨A', c', rfl⟩ := own_slice h2
      exact ⟨A', c', rfl, h2, hbel.trans hbel1⟩

set_option maxRecDepth 100000 in
theorem refInt_any (n : Int) (l : List UInt8) (w : World) (hres : intB n = l) (h1 : -9223372036854775808 ≤ n) (h2 : n ≤ 9223372036854775807) :
    Calls Try.prog 12 #[.int .i64 n] w (Puts w l) := by
  subst hres
  have hlt := foldN_lt n h1 h2
  by_cases h : n < 0
  · have e0 : 2 * (-1 - n) + 1 = ((foldN n : Nat) : Int) := by unfold foldN; rw [if_pos h]; omega
    have HE := hide_ e0
    clear e0
    go_enter Try.func12, Try.ntmps12
    go_wp2_with fail
    rw [HE.out]
    refine (refNum_any (foldN n) _ w rfl hlt).mono ?_
    rintro e w1 ⟨A', c', rfl, hown, hb⟩
    go_wp2
    go_ret
    exact ⟨A', c', rfl, hown, hb⟩
  · have e0 : 2 * n = ((foldN n : Nat) : Int) := by unfold foldN; rw [if_neg h]; omega
    have HE := hide_ e0
    clear e0
    go_enter Try.func12, Try.ntmps12
    go_wp2_with fail
    rw [HE.out]
    refine (refNum_any (foldN n) _ w rfl hlt).mono ?_
    rintro e w1 ⟨A', c', rfl, hown, hb⟩
    go_wp2
    go_ret
    exact ⟨A', c', rfl, hown, hb⟩

theorem refRow_any (row l : List UInt8) (B : Nat) (A : Option Addr) (n c : Nat) (w : World) (hn : row.length = n) (hres : rowB row = l) (hs : Sees w B A (bv row)) (hB : B ≤ w.heap.size) (hr : row.length ≤ 70368744170000) :
    Calls Try.prog 13 #[.slice A n c] w (Puts w l) := by
  subst hn hres
  obtain ⟨i0, hi, hz0, hz1, hz2⟩ := info_parts u8_info
  have hnl := numB_length row.length (by omega)
  go_enter Try.func13, Try.ntmps13
  go_wp2_with fail
  refine (refNum_any row.length _ w rfl (by omega)).mono ?_
  rintro e w1 ⟨A1, c1, rfl, hown1, hb1⟩
  go_wp2_with (at_builtin; refine wpList_append_sees (P := Try.prog) _ rfl (.tmp 6) (.tmp 7) 22 rfl w.heap.size 5 i0 (.int .u8 0) 1 Try.underlying22 hi hz0 hz1 hz2 rfl _ (numB row.length).length (bv (numB row.length)) rfl hown1 B A row.length c (bv row) rfl (bv_length row) (hs.below (hb1.mono hB)) (bv_oneCell row) (by unfold maxLen; omega) (by omega) hb1.size ?_; intro v3 w3 hown3 hg3 _)
  go_ret
  have e1 : bv (rowB row) = bv (numB row.length) ++ bv row := by simp [rowB, bv]
  have e2 : (rowB row).length = (numB row.length).length + row.length := by simp [rowB]
  rw [← e1, ← e2] at hown3
  obtain ⟨A', c', rfl⟩ := own_slice hown3
  exact ⟨A', c', rfl, hown3, hb1.grown hg3 hb1.size fun k hk => (hown1.lt k hk).1⟩
end Go.Proofs.Ytcdllfmdmjignaa
