/-
  The contract of ring's Build.
-/
import Derived.Test.YtlcgihdphdkhpaaRing2
import Derived.Test.YtlcgihdphdkhpaaSort9
namespace Go.Proofs.Ytlcgihdphdkhpaa
open Go.RowKit

/-- who was met, as cells -/
def metC (S : List UInt8) : Array Value := ((List.range 256).map fun i => Value.bool (S.contains (UInt8.ofNat i))).toArray
theorem metC_size (S : List UInt8) : (metC S).size = 256 := by simp [metC]
theorem metC_get (S : List UInt8) (n : Nat) (h : n < 256) : (metC S)[n]? = some (.bool (S.contains (UInt8.ofNat n))) := by simp [metC, h]
theorem metC_set (S : List UInt8) (n : UInt8) : (metC S).setIfInBounds n.toNat (.bool true) = metC (nubStep S n) := by
  apply Array.ext_getElem?
  intro j
  have hn := n.toNat_lt
  rw [Array.getElem?_setIfInBounds, metC_size]
  by_cases hj : j < 256
  · rw [metC_get _ j hj, metC_get _ j hj]
    have hm : (nubStep S n).contains (UInt8.ofNat j) = (S.contains (UInt8.ofNat j) || (UInt8.ofNat j == n)) := by
      rw [Bool.eq_iff_iff, List.contains_iff_mem, mem_nubStep, Bool.or_eq_true, List.contains_iff_mem, beq_iff_eq]
    rw [hm]
    by_cases hjn : n.toNat = j
    · subst hjn
      simp [hn]
    · rw [if_neg hjn]
      have : (UInt8.ofNat j == n) = false := by
        rw [beq_eq_false_iff_ne]
        rintro rfl
        apply hjn
        rw [UInt8.toNat_ofNat']
        omega
      rw [this, Bool.or_false]
  · rw [Array.getElem?_eq_none (by rw [metC_size]; omega), Array.getElem?_eq_none (by rw [metC_size]; omega)]
    split
    · simp; omega
    · rfl

theorem met_zero : Try.zeroCells69 = metC [] := by kernel_rfl

set_option maxRecDepth 100000 in
theorem Build_any (l : List UInt8) (B : Nat) (A : Option Addr) (n c : Nat) (w : World) (hn : l.length = n) (hm : n ≤ 100) (h : Sees w B A (bv l)) (hB : B ≤ w.heap.size) :
    Calls Try.prog 43 #[.slice A n c] w fun e w' => ∃ A' n' c', e = .returned (.slice A' n' c') ∧ (ringM l).length = n' ∧ w'.ownsRow w.heap.size 65 2 (.slice A' n' c') n' (pv (ringM l)) ∧ Below w.heap.size w w' := by
  subst hn
  have HS := hide_ h
  have hZ := hide_ (BoxAt.new w (metC []) 69)
  have hO := hide_ (show (w.alloc (.cells (metC []) 69)).ownsRow (w.heap.size + 1) 65 2 (.slice none 0 0) 0 (pv (rawM (l.take 0))) from ⟨rfl, .inl ⟨rfl, rfl⟩⟩)
  have hW := hide_ ((Below.refl w.heap.size w).alloc (Nat.le_refl _) (.cells (metC []) 69))
  have HSTEP := hide_ (fun k (hk : k < l.length) (hin : (nubs (l.take k)).contains l[k] = true) => rawM_take_in l k hk (List.contains_iff_mem.1 hin))
  have HSTEQ := hide_ (fun k (hk : k < l.length) (hin : (nubs (l.take k)).contains l[k] = true) => (show nubs (l.take (k + 1)) = nubs (l.take k) by rw [nubs_take l k hk, nubStep_in (List.contains_iff_mem.1 hin)]))
  have HSTEO := hide_ (fun k (hk : k < l.length) (hin : (nubs (l.take k)).contains l[k] = false) => rawM_take_out l k hk (fun h => by rw [List.contains_iff_mem.2 h] at hin; cases hin))
  have HNUB := hide_ (fun k (hk : k < l.length) => nubs_take l k hk)
  have HLEN := hide_ (show ∀ k, (rawM (l.take k)).length ≤ 8 * l.length from fun k => by
    rw [rawM_len]
    have h1 := nubs_len_le (l.take k)
    rw [List.length_take] at h1
    omega)
  have HFIN := hide_ (show rawM (l.take l.length) = rawM l by rw [List.take_length])
  have HRL := hide_ (show (ringM l).length = (rawM l).length from (ringM_perm l).length_eq)
  have HSR := hide_ (show srt (rawM l) = ringM l from rfl)
  clear h
  go_enter Try.func43, Try.ntmps43
  go_wp2
  rw [met_zero]
  go_loopw [4, 9] (fun r i wx => ∃ (k : Nat) (A' : Option Addr) (n' c' : Nat), k ≤ l.length ∧ i = .int .i64 k ∧ r = .slice A' n' c' ∧ Hid ((rawM (l.take k)).length = n') ∧ Hid (wx.ownsRow (w.heap.size + 1) 65 2 (.slice A' n' c') n' (pv (rawM (l.take k)))) ∧ Hid (BoxAt wx w.heap.size (metC (nubs (l.take k))) 69) ∧ Hid (Below w.heap.size w wx)) (fun _ i _ => l.length - (intOf i).toNat)
  case atStart => exact ⟨0, none, 0, 0, by omega, rfl, rfl, hide_ rfl, hO, hZ, hW⟩
  case round =>
    obtain ⟨k, A', n', c', hk, rfl, rfl, HN, HO, HZ, HB⟩ := hrel
    by_cases hlt : k < l.length
    · obtain ⟨b, o, rfl, hbB, hck⟩ := (HS.out.below (HB.out.mono hB)).u8 hlt
      have hx := l[k].toNat_lt
      have hn' : n' ≤ 800 := by have := HLEN.out k; have := HN.out; omega
      have hzz : w.heap.size < wr.heap.size := HZ.out.lt
      have HF := hide_ (fun (b : Bool) (hb : (nubs (l.take k)).contains l[k] = b) => first_any w.heap.size l[k].toNat _ _ b wr hx HZ.out (by rw [metC_get _ _ hx, ← hb]; simp))
      obtain ⟨wq, hwq⟩ : ∃ wq, wr.setCell ⟨w.heap.size, l[k].toNat, none⟩ (.bool true) = wq := ⟨_, rfl⟩
      have HZ1 := hide_ (show BoxAt wq w.heap.size (metC (nubs (l.take (k + 1)))) 69 by rw [← hwq, HNUB.out k hlt, ← metC_set]; exact HZ.out.set9 _ _)
      have HG1 := hide_ (show wr.grownBy wq (some w.heap.size) by rw [← hwq]; exact grown_cell9 _ _ _ _)
      have HO1 := hide_ (own_other9 HO.out (fun e => by have := (HO.out.lt _ e.symm).1; omega) HG1.out)
      have HB1 := hide_ (HB.out.grown HG1.out HB.out.size (fun j hj => by injection hj with hj; omega))
      have hzq : wr.heap.size ≤ wq.heap.size := HG1.out.size
      simp only [hwq] at HF
      clear hwq
      cases hin : (nubs (l.take k)).contains l[k] with
      | true =>
        have HF1 := hide_ (HF.out true hin)
        have HR1 := hide_ (HSTEP.out k hlt hin)
        clear hin
        go_wp2_with fail
        refine HF1.out.mono ?_
        rintro e w1 ⟨rfl, rfl⟩
        go_wp2
        go_roundw
        case rel => exact ⟨k + 1, A', n', c', by omega, by go_num, rfl, hide_ (by rw [HR1.out]; exact HN.out), hide_ (by rw [HR1.out]; exact HO1.out), HZ1, HB1⟩
        case measure => simp [intOf]; omega
      | false =>
        have HF1 := hide_ (HF.out false hin)
        have HR1 := hide_ (HSTEO.out k hlt hin)
        have HP := hide_ (fun u => points_any l[k] u)
        clear hin
        go_wp2_with fail
        refine HF1.out.mono ?_
        rintro e w1 ⟨rfl, rfl⟩
        go_wp2_with fail
        refine (HP.out _).mono ?_
        rintro e w2 ⟨A1, c1, rfl, hown1, hb2⟩
        have HO2 := hide_ (own_below HO1.out hb2)
        have HZ2 := hide_ (HZ1.out.below hb2)
        have HS2 := hide_ (Sees.ownRow9 hown1)
        have HB2 := hide_ (HB1.out.trans (hb2.mono HB1.out.size))
        have HPL := hide_ (show (pv (ptsOf l[k])).length = 8 * 2 by rw [pv_length, ptsOf_len])
        have HCV := hide_ (show pv (rawM (l.take k)) ++ pv (ptsOf l[k]) = pv (rawM (l.take (k + 1))) by rw [HR1.out, pv_append])
        have HNN := hide_ (show (rawM (l.take (k + 1))).length = n' + 8 by rw [HR1.out, List.length_append, ptsOf_len, HN.out])
        have hz2 : w.heap.size + 1 ≤ w2.heap.size := HZ2.out.lt
        clear hown1 hb2
        go_wp2_with (at_builtin; refine wpList_append_cells _ rfl _ _ 58 rfl (w.heap.size + 1) 65 _ 2 16 pt_info rfl (by omega) Try.underlying58 _ n' (pv (rawM (l.take k))) rfl HO2.out w2.heap.size A1 8 c1 (pv (ptsOf l[k])) rfl HPL.out HS2.out (pv_one _) (by omega) (by omega) hz2 (n' + 8) rfl _ HCV.out ?_; intro A2 c2 w3 hown hb3; have HO3 := hide_ hown; have HB3 := hide_ hb3; clear hown hb3)
        go_roundw
        case rel => exact ⟨k + 1, A2, n' + 8, c2, by omega, by go_num, rfl, HNN, HO3, hide_ ((HB3.out.block w.heap.size (by omega)).trans HZ2.out), hide_ (HB2.out.trans (HB3.out.mono (by omega)))⟩
        case measure => simp [intOf]; omega
    · obtain rfl : k = l.length := by omega
      rw [HFIN.out] at HN HO
      have hn' : n' ≤ 800 := by have := HLEN.out l.length; rw [HFIN.out] at this; have := HN.out; omega
      have HSORT := hide_ (sortPts_any (rawM l) (w.heap.size + 1) n' c' A' wr HN.out HO.out HZ.out.lt (by omega))
      rw [HSR.out] at HSORT
      go_wp2_with fail
      refine HSORT.out.mono ?_
      rintro e w1 ⟨rfl, hown, hb1⟩
      go_wp2
      go_ret
      exact ⟨_, _, _, rfl, HRL.out.trans HN.out, own_mono hown (by omega), HB.out.trans (hb1.mono (by omega))⟩
end Go.Proofs.Ytlcgihdphdkhpaa
