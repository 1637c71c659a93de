/-
  Contracts of the disk's Read, Write and Spoil, and of bytes.Clone.
-/
import Derived.Test.YtcpoppfifadbiaaNewest
import Derived.Deep.RegionHeld
import Derived.Lib.Hide
import Derived.OwnWalk
import Derived.Lib.AppendZerosOnto
import Derived.Lib.Overlaps
namespace Go.Proofs.Ytcpoppfifadbiaa
open Go.RowKit

theorem bclone_any (l : List UInt8) (B : Nat) (A : Option Addr) (m c : Nat) (w : World) (hs : Sees w B A (bv l)) (hm : l.length = m) (h0 : 0 < m) (hB : B ≤ w.heap.size) (hl : m ≤ 1000000) :
    Calls Try.prog 54 #[.slice A m c] w fun e w' => ∃ g cp, e = .returned (.slice (some ⟨g, 0, none⟩) m cp) ∧ w.heap.size ≤ g ∧ RowIs w' g l ∧ m ≤ cp ∧ Below w.heap.size w w' := by
  obtain ⟨ad, rfl, _, _⟩ := hs (by rw [bv_length]; omega)
  have HS := hide_ (hs.more hB)
  have HM := hide_ hm
  have H0 := hide_ h0
  clear hs hm h0
  have hnil := fun u : World => Lib.run_eql_slice_nil (P := Try.prog) u 38 _ (some ad) m c 0 0 Try.underlying38
  have h1 := own_empty9 (w := w) (base := w.heap.size) (s := 1) 5 (Nat.le_refl _)
  have H1 := hide_ h1
  clear h1
  go_enter Try.func54, Try.ntmps54
  go_wp2_with (at_builtin; refine wpList_append_bytes _ rfl _ _ 38 rfl w.heap.size 5 u8_info Try.underlying38 _ 0 [] l l rfl rfl H1.out w.heap.size (some ad) m c rfl HM.out (HS.out.below ((Below.refl _ _).alloc (Nat.le_refl _) _)) (by omega) (by simp) ?_; intro A' c' w1 hown hb)
  go_ret
  have hm := HM.out
  obtain ⟨g, rfl, hg, hc, hr⟩ := own_row hown rfl (by rw [hm]; exact H0.out)
  exact ⟨g, c', by rw [hm]; rfl, hg, hr, by omega, ((Below.refl w.heap.size w).alloc (Nat.le_refl _) _).trans hb⟩

/-- what is read -/
def rdB (D : Dk) (i : Int) : List UInt8 := if reachD D i = 0 then newD D i.toNat else []
def ReadR (w : World) (D : Dk) (i : Int) (e : Ending) (w' : World) : Prop :=
  ∃ A c, e = .returned (.tuple #[.slice A (rdB D i).length c, .int .i64 (reachD D i)]) ∧ w'.ownsRow w.heap.size 5 1 (.slice A (rdB D i).length c) (rdB D i).length (bv (rdB D i)) ∧ Below w.heap.size w w'

section
variable {w : World} {L : Lay} {D : Dk}
set_option maxRecDepth 100000 in
theorem Read_any (h : DiskAt w L D) (i : Int) : Calls Try.prog 17 #[.pointer (some ⟨L.b, 0, none⟩), .int .i64 i] w (ReadR w D i) := by
  have H := hide_ h
  have c0 := h.c0
  by_cases hr : reachD D i = 0
  · have HR := hide_ (show Calls Try.prog 41 #[.pointer (some ⟨L.b, 0, none⟩), .int .i64 i] w fun e w' => e = .returned (.int .i64 0) ∧ w = w' from by
      have := reaches_any h i
      rwa [hr] at this)
    have hb : 0 ≤ i ∧ i < D.c := by
      unfold reachD at hr
      split at hr
      · split at hr
        · assumption
        · cases hr
      · cases hr
    obtain ⟨k, rfl⟩ : ∃ k : Nat, i = (k : Int) := ⟨i.toNat, by omega⟩
    have HK := hide_ (show k < D.c by omega)
    have hmk := make12 D.n (by have := h.ok.n2; omega) w
    have hn2 := h.ok.n2
    have hd1 : DiskAt (w.alloc (.cells (zs12 D.n) 5)) L D := h.below ((Below.refl _ _).alloc (Nat.le_refl _) _)
    have HN := hide_ (newest_any hd1 k HK.out)
    have HZ := hide_ (row_new12 w D.n)
    have HL := hide_ (newD_len h.ok k)
    have HRR := hide_ hr
    clear h hb hd1 hr
    go_enter Try.func17, Try.ntmps17
    go_wp2_with (first | (go_at_call 41; refine HR.out.mono ?_; rintro e w1 ⟨rfl, rfl⟩) | (go_at_call 42; refine HN.out.mono ?_; rintro e w1 ⟨A, cp, l, rfl, hl, hs, hnew, hb1⟩; have hz : w1.heap[w.heap.size]? = some (.cells (zs12 D.n) 5 (0, 0)) := (hb1.block _ (by simp)).trans (heap_alloc_new w _); obtain ⟨w2, hcp, hrow2, hg2, hs2⟩ := run_copy_start (P := Try.prog) w1 38 38 3 5 Try.underlying38 u8_one w.heap.size D.n D.n _ A l.length cp (zs12 D.n) 5 hz (bv l) (bv_length l) hl (by rw [zs12_size]; exact hl) (bv_oneCell l) (hs.below hb1); have HZ1 := hide_ hz; have HR2 := hide_ hrow2; have HG2 := hide_ hg2; have HS2 := hide_ hs2; have HW := hide_ hnew; have HB1 := hide_ hb1; clear hz hrow2 hg2 hs2 hnew hb1 hs))
    go_ret2
    have e : rdB D (k : Int) = l ++ (List.replicate D.n 0).drop l.length := by
      rw [rdB, if_pos HRR.out, Int.toNat_natCast]
      exact HW.out
    have el : (rdB D (k : Int)).length = D.n := by
      rw [rdB, if_pos HRR.out, Int.toNat_natCast]
      exact HL.out
    have ec : (bv l ++ (zs12 D.n).toList.drop l.length) = bv (rdB D (k : Int)) := by rw [e, bv_append, bv_drop, zs12_bv]
    refine ⟨some ⟨w.heap.size, 0, none⟩, D.n, by rw [el, HRR.out]; rfl, ?_, ?_⟩
    · rw [el]
      refine ⟨by rw [bv_length, el, Nat.mul_one], .inr ⟨w.heap.size, D.n, _, rfl, Nat.le_refl _, HR2.out, Nat.le_refl _, by unfold maxLen; omega, ?_, ?_⟩⟩
      · rw [ec]
        simp [bv_length, el]
      · rw [ec, List.take_of_length_le]
        simp [bv_length, el]
    · exact (((Below.refl w.heap.size w).alloc (Nat.le_refl _) _).trans (HB1.out.mono (by simp))).grown HG2.out (by have := HB1.out.size; simp at this; omega) (fun k e => by cases e; exact Nat.le_refl _)
  · have HR := hide_ (reaches_any h i)
    have hne : (reachD D i == 0) = false := beq_eq_false_iff_ne.2 hr
    have HRR := hide_ hr
    obtain ⟨r, hrr⟩ : ∃ r, reachD D i = r := ⟨_, rfl⟩
    have HE := hide_ hrr
    rw [hrr] at HR hne HRR
    clear h hr hrr
    go_enter Try.func17, Try.ntmps17
    go_wp2_with (go_at_call 41; refine HR.out.mono ?_; rintro e w1 ⟨rfl, rfl⟩)
    go_ret2
    have e : rdB D i = [] := by rw [rdB, if_neg (by rw [HE.out]; exact HRR.out)]
    exact ⟨none, 0, by rw [e, HE.out]; rfl, by rw [e]; exact World.ownsRow_nil _ _ _ _, Below.refl _ _⟩
end
end Go.Proofs.Ytcpoppfifadbiaa
