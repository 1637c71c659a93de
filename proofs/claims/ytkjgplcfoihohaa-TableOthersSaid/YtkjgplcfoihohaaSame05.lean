/-
  The law's Same: two answers that hold the same are the same.
-/
import Derived.Test.YtkjgplcfoihohaaLaw05
import Derived.Deep.RegionHeld
namespace Go.Proofs.Ytkjgplcfoihohaa
open Go.RowKit

set_option maxRecDepth 100000 in
set_option maxHeartbeats 1600000 in
theorem same_any (s er : Int) (a : List Int) (c : List (Int × Int × Int)) (n q : Nat) (A1 A2 A3 A4 : Option Addr) (c1 c2 c3 c4 B : Nat) (w : World) (hn : a.length = n) (hq : c.length = q) (hn1 : n ≤ 1000) (hq1 : q ≤ 1000) (h1 : Sees w B A1 (iv a)) (h2 : Sees w B A2 (cv c)) (h3 : Sees w B A3 (iv a)) (h4 : Sees w B A4 (cv c)) (hB : B ≤ w.heap.size) :
    Calls Try.prog 16 #[.int .i64 s, .slice A1 n c1, .slice A2 q c2, .int .i64 er, .agg #[.int .i64 s, .slice A3 n c3, .slice A4 q c4, .int .i64 er]] w fun e w' => e = .returned (.bool true) ∧ Below w.heap.size w w' := by
  have HN := hide_ hn
  have HQ := hide_ hq
  have H1 := hide_ h1
  have H2 := hide_ h2
  have H3 := hide_ h3
  have H4 := hide_ h4
  have HX := hide_ (BoxAt.new w #[.int .i64 s, .slice A3 n c3, .slice A4 q c4, .int .i64 er] 47)
  have HW := hide_ ((Below.refl w.heap.size w).alloc (Nat.le_refl _) (.cells #[.int .i64 s, .slice A3 n c3, .slice A4 q c4, .int .i64 er] 47))
  clear hn hq h1 h2 h3 h4
  go_enter Try.func16, Try.ntmps16
  go_wp2
  go_loopw [11] (fun i wr => ∃ k : Nat, k ≤ n ∧ i = .int .i64 k ∧ Hid (BoxAt wr w.heap.size #[.int .i64 s, .slice A3 n c3, .slice A4 q c4, .int .i64 er] 47) ∧ Below w.heap.size w wr) (fun i _ => n - (intOf i).toNat)
  case atStart => exact ⟨0, Nat.zero_le _, rfl, HX, HW.out⟩
  case round =>
    clear HX HW
    obtain ⟨k, hk, rfl, HX, hb⟩ := hrel
    have HB0 := hide_ hb
    have hzw : w.heap.size < wr.heap.size := HX.out.lt
    by_cases hlt : k < n
    · obtain ⟨b1, o1, e1, hb1, g1⟩ := (H1.out.below (hb.mono hB)).int (k := k) (by rw [HN.out]; exact hlt)
      obtain ⟨b3, o3, e3, hb3, g3⟩ := (H3.out.below (hb.mono hB)).int (k := k) (by rw [HN.out]; exact hlt)
      generalize a.getD k 0 = x at g1 g3
      have hw1 : b1 < wr.heap.size := by omega
      have hw3 : b3 < wr.heap.size := by omega
      subst e1 e3
      have HF := hide_ (show ∀ u, Below wr.heap.size wr u → (∀ i : Nat, u.cell? ⟨w.heap.size, i, none⟩ = (#[.int .i64 s, .slice (some ⟨b3, o3, none⟩) n c3, .slice A4 q c4, .int .i64 er] : Array Value)[i]?) ∧ u.cell? ⟨b1, o1 + k, none⟩ = some (.int .i64 x) ∧ u.cell? ⟨b3, o3 + k, none⟩ = some (.int .i64 x) from
        fun u hb => ⟨(HX.out.below hb).cell, (hb.cell (p := ⟨b1, o1 + k, none⟩) hw1).trans g1, (hb.cell (p := ⟨b3, o3 + k, none⟩) hw3).trans g3⟩)
      clear hb g1 g3
      go_wp2
      go_region_held (fun u => (∀ i : Nat, u.cell? ⟨w.heap.size, i, none⟩ = (#[.int .i64 s, .slice (some ⟨b3, o3, none⟩) n c3, .slice A4 q c4, .int .i64 er] : Array Value)[i]?) ∧ u.cell? ⟨b1, o1 + k, none⟩ = some (.int .i64 x) ∧ u.cell? ⟨b3, o3 + k, none⟩ = some (.int .i64 x)) (exact HF.out _ (Below.refl _ _).drew) (fail)
      go_wp2
      go_roundw
      case rel => exact ⟨k + 1, by omega, by go_num, HX.out.below (Below.refl _ _).drew, HB0.out.drew⟩
      case measure => simp [intOf]; omega
    · obtain rfl : k = n := by omega
      clear hb
      go_wp2
      go_loopw [12] (fun i wq => ∃ j : Nat, j ≤ q ∧ i = .int .i64 j ∧ Hid (BoxAt wq w.heap.size #[.int .i64 s, .slice A3 k c3, .slice A4 q c4, .int .i64 er] 47) ∧ Below w.heap.size w wq) (fun i _ => q - (intOf i).toNat)
      case atStart => exact ⟨0, Nat.zero_le _, rfl, HX, HB0.out⟩
      case round =>
        clear HX HB0 hzw
        obtain ⟨j, hj, rfl, HX, hb⟩ := hrel
        have HB0 := hide_ hb
        have hzw : w.heap.size < wr.heap.size := HX.out.lt
        by_cases hltj : j < q
        · obtain ⟨x, hx⟩ : ∃ x, c[j]? = some x := ⟨_, List.getElem?_eq_getElem (by rw [HQ.out]; exact hltj)⟩
          obtain ⟨b2, o2, e2, hb2, g0, g1, g2, g3⟩ := (H2.out.below (hb.mono hB)).msg hx
          obtain ⟨b4, o4, e4, hb4, f0, f1, f2, f3⟩ := (H4.out.below (hb.mono hB)).msg hx
          obtain ⟨x1, x2, x3⟩ := x
          simp only at g1 g2 g3 f1 f2 f3
          have hw2 : b2 < wr.heap.size := by omega
          have hw4 : b4 < wr.heap.size := by omega
          subst e2 e4
          have HF := hide_ (show ∀ u, Below wr.heap.size wr u → (∀ i : Nat, u.cell? ⟨w.heap.size, i, none⟩ = (#[.int .i64 s, .slice A3 k c3, .slice (some ⟨b4, o4, none⟩) q c4, .int .i64 er] : Array Value)[i]?) ∧ (u.cell? ⟨b2, o2 + j * 4, none⟩ = some (.int .u64 0) ∧ u.cell? ⟨b2, o2 + j * 4 + 1, none⟩ = some (.int .u8 x1) ∧ u.cell? ⟨b2, o2 + j * 4 + 2, none⟩ = some (.int .i64 x2) ∧ u.cell? ⟨b2, o2 + j * 4 + 3, none⟩ = some (.int .i64 x3)) ∧ u.cell? ⟨b4, o4 + j * 4, none⟩ = some (.int .u64 0) ∧ u.cell? ⟨b4, o4 + j * 4 + 1, none⟩ = some (.int .u8 x1) ∧ u.cell? ⟨b4, o4 + j * 4 + 2, none⟩ = some (.int .i64 x2) ∧ u.cell? ⟨b4, o4 + j * 4 + 3, none⟩ = some (.int .i64 x3) from
            fun u hb => ⟨(HX.out.below hb).cell, ⟨(hb.cell (p := ⟨b2, o2 + j * 4, none⟩) hw2).trans g0, (hb.cell (p := ⟨b2, o2 + j * 4 + 1, none⟩) hw2).trans g1, (hb.cell (p := ⟨b2, o2 + j * 4 + 2, none⟩) hw2).trans g2, (hb.cell (p := ⟨b2, o2 + j * 4 + 3, none⟩) hw2).trans g3⟩, (hb.cell (p := ⟨b4, o4 + j * 4, none⟩) hw4).trans f0, (hb.cell (p := ⟨b4, o4 + j * 4 + 1, none⟩) hw4).trans f1, (hb.cell (p := ⟨b4, o4 + j * 4 + 2, none⟩) hw4).trans f2, (hb.cell (p := ⟨b4, o4 + j * 4 + 3, none⟩) hw4).trans f3⟩)
          clear hb hx g0 g1 g2 g3 f0 f1 f2 f3
          go_wp2
          go_region_held (fun u => (∀ i : Nat, u.cell? ⟨w.heap.size, i, none⟩ = (#[.int .i64 s, .slice A3 k c3, .slice (some ⟨b4, o4, none⟩) q c4, .int .i64 er] : Array Value)[i]?) ∧ (u.cell? ⟨b2, o2 + j * 4, none⟩ = some (.int .u64 0) ∧ u.cell? ⟨b2, o2 + j * 4 + 1, none⟩ = some (.int .u8 x1) ∧ u.cell? ⟨b2, o2 + j * 4 + 2, none⟩ = some (.int .i64 x2) ∧ u.cell? ⟨b2, o2 + j * 4 + 3, none⟩ = some (.int .i64 x3)) ∧ u.cell? ⟨b4, o4 + j * 4, none⟩ = some (.int .u64 0) ∧ u.cell? ⟨b4, o4 + j * 4 + 1, none⟩ = some (.int .u8 x1) ∧ u.cell? ⟨b4, o4 + j * 4 + 2, none⟩ = some (.int .i64 x2) ∧ u.cell? ⟨b4, o4 + j * 4 + 3, none⟩ = some (.int .i64 x3)) (exact HF.out _ (Below.refl _ _).drew) (fail)
          go_wp2
          go_roundw
          case rel => exact ⟨j + 1, by omega, by go_num, HX.out.below (Below.refl _ _).drew, HB0.out.drew⟩
          case measure => simp [intOf]; omega
        · obtain rfl : j = q := by omega
          go_wp2
          go_ret
          exact ⟨rfl, hb⟩
end Go.Proofs.Ytkjgplcfoihohaa
