/-
  Contracts of the reference's Of, and of the law's own awake and same.
-/
import Derived.Test.YtlcgihdphdkhpaaRing8
namespace Go.Proofs.Ytlcgihdphdkhpaa
open Go.RowKit

theorem listed_len (l : List UInt8) : ∀ k, (listed l k).length ≤ k := by
  intro k
  induction k with
  | zero => simp [listed]
  | succ k ih =>
    rw [listed_succ]
    split
    · simp; omega
    · omega

set_option maxRecDepth 100000 in
set_option maxHeartbeats 1600000 in
theorem refOf9_any (l : List UInt8) (key : UInt8) (B : Nat) (A : Option Addr) (n c : Nat) (w : World) (hn : l.length = n) (hm : n ≤ 100) (h : Sees w B A (bv l)) (hB : B ≤ w.heap.size) :
    Calls Try.prog 29 #[.slice A n c, .int .u8 (key.toNat : Int)] w fun e w' => ∃ A' c', e = .returned (.slice A' (ofM l key).length c') ∧
      w'.ownsRow w.heap.size 5 1 (.slice A' (ofM l key).length c') (ofM l key).length (bv (ofM l key)) ∧ Below w.heap.size w w' := by
  have HB := hide_ (refBuild_any l B A n c w hn hm h hB)
  have HRL := hide_ (show (ringM l).length ≤ 1000 by
    rw [ringM_len]
    have := nubs_len_le l
    omega)
  have h3 := keepM_len_le (ringM l) (keyN key) 3
  have hof : ofM l key = listed (keepM (ringM l) (keyN key) 3) 256 := upB_listed (keepM_nodup _ _ _)
  rw [hof]
  have HK := hide_ (fun R m rc u hm2 hs hb => refKeepers_any (ringM l) key 3 u.heap.size R m rc u hm2 (by rw [← hm2]; exact HRL.out) hs hb)
  obtain ⟨r, hr⟩ : ∃ r, ringM l = r := ⟨_, rfl⟩
  obtain ⟨kp, hkp⟩ : ∃ kp, keepM r (keyN key) 3 = kp := ⟨_, rfl⟩
  simp only [hr, hkp] at HB HK h3 HRL ⊢
  have HLS := hide_ (fun k => listed_succ kp k)
  have HLL := hide_ (fun k => listed_len kp k)
  have hk3 : kp.length ≤ 3 := by omega
  clear hof hr hkp h h3
  go_enter Try.func29, Try.ntmps29
  go_wp2_with fail
  refine HB.out.mono ?_
  rintro e w1 ⟨A1, n1, c1, rfl, hl1, ho1, hb1⟩
  have HO1 := hide_ ho1
  have HB1 := hide_ hb1
  have HL1 := hide_ hl1
  clear ho1 hb1 hl1
  go_wp2_with fail
  refine (HK.out A1 n1 c1 w1 HL1.out (Sees.ownRow9 HO1.out) (Nat.le_refl _)).mono ?_
  rintro e w2 ⟨A2, c2, rfl, ho2, hb2⟩
  have HB2 := hide_ (HB1.out.trans (hb2.mono HB1.out.size))
  have HS2 := hide_ (Sees.ownRow9 ho2)
  have HO3 := hide_ (show (w2.alloc (.cells #[] 5)).ownsRow w2.heap.size 5 1 (.slice (some ⟨w2.heap.size, 0, none⟩) 0 0) 0 (bv (listed kp 0)) from own_empty9 5 (Nat.le_refl _))
  have HB3 := hide_ ((Below.refl w2.heap.size w2).alloc (Nat.le_refl _) (.cells #[] 5))
  clear ho2 hb2
  obtain ⟨kn, hkn⟩ : ∃ kn, kp.length = kn := ⟨_, rfl⟩
  have HKN := hide_ hkn
  rw [hkn] at hk3 ⊢
  clear hkn
  go_wp2
  go_loopw [6, 7] (fun o i wx => ∃ (k : Nat) (A4 : Option Addr) (n4 c4 : Nat), k ≤ 256 ∧ i = .int .i64 k ∧ o = .slice A4 n4 c4 ∧ Hid ((listed kp k).length = n4) ∧ Hid (wx.ownsRow w2.heap.size 5 1 (.slice A4 n4 c4) n4 (bv (listed kp k))) ∧ Hid (Below w2.heap.size w2 wx)) (fun _ i _ => 256 - (intOf i).toNat)
  case atStart => exact ⟨0, _, 0, 0, by omega, rfl, rfl, hide_ rfl, HO3, HB3⟩
  case round =>
    obtain ⟨k, A4, n4, c4, hk, rfl, rfl, HN4, HO4, HB4⟩ := hrel
    by_cases hlt : k < 256
    · have hw8 : IntKind.u8.wrap (k : Int) = (k : Int) := by simp [IntKind.wrap, IntKind.bits, IntKind.signed]; omega
      have hn4 : n4 ≤ k := by have := HLL.out k; have := HN4.out; omega
      have hws : w2.heap.size ≤ wr.heap.size := HB4.out.size
      have HH := hide_ (has9_any kp (UInt8.ofNat k) w2.heap.size A2 kn c2 wr HKN.out (by unfold maxLen; omega) (HS2.out.below HB4.out))
      rw [byte_of hlt] at HH
      have hst := HLS.out k
      cases hin : kp.contains (UInt8.ofNat k) with
      | true =>
        rw [hin] at HH hst
        rw [if_pos rfl] at hst
        have HST := hide_ hst
        have HOA := hide_ (HO4.out.alloc (.cells #[.int .u8 (k : Int)] 5))
        have HBA := hide_ (HB4.out.alloc hws (.cells #[.int .u8 (k : Int)] 5))
        have HSN := hide_ (show Sees (wr.alloc (.cells #[.int .u8 (k : Int)] 5)) (wr.heap.size + 1) (some ⟨wr.heap.size, 0, none⟩) (bv [UInt8.ofNat k]) from sees_box wr _ _ _ (by rw [bv_one, byte_of hlt]))
        have HCV := hide_ (show bv (listed kp k) ++ bv [UInt8.ofNat k] = bv (listed kp (k + 1)) by rw [HST.out, bv_append])
        have HNL := hide_ (show (listed kp (k + 1)).length = n4 + 1 by rw [HST.out, List.length_append, HN4.out]; rfl)
        clear hin hst
        go_wp2_with fail
        refine HH.out.mono ?_
        rintro e w5 ⟨rfl, rfl⟩
        go_wp2_with (at_builtin; refine wpList_append_cells _ rfl _ _ 23 rfl w2.heap.size 5 _ 1 1 u8_info rfl (by omega) Try.underlying23 _ n4 (bv (listed kp k)) rfl HOA.out (wr.heap.size + 1) (some ⟨wr.heap.size, 0, none⟩) 1 1 (bv [UInt8.ofNat k]) rfl rfl HSN.out (bv_oneCell _) (by omega) (by omega) (by simp; omega) (n4 + 1) rfl _ HCV.out ?_; intro A6 c6 w6 hown hb6; have HO6 := hide_ hown; have HB6 := hide_ hb6; clear hown hb6)
        go_roundw
        case rel => exact ⟨k + 1, A6, n4 + 1, c6, by omega, by go_num, rfl, HNL, HO6, hide_ (HBA.out.trans HB6.out)⟩
        case measure => simp [intOf]; omega
      | false =>
        rw [hin] at HH hst
        rw [if_neg (by simp)] at hst
        have HST := hide_ hst
        clear hin hst
        go_wp2_with fail
        refine HH.out.mono ?_
        rintro e w5 ⟨rfl, rfl⟩
        go_wp2
        go_roundw
        case rel => exact ⟨k + 1, A4, n4, c4, by omega, by go_num, rfl, hide_ (by rw [HST.out]; exact HN4.out), hide_ (by rw [HST.out]; exact HO4.out), HB4⟩
        case measure => simp [intOf]; omega
    · obtain rfl : k = 256 := by omega
      have HN := HN4.out
      subst HN
      go_wp2
      go_ret
      exact ⟨_, _, rfl, own_mono HO4.out HB2.out.size, HB2.out.trans (HB4.out.mono HB2.out.size)⟩

/-! the law's own -/
theorem keepM_none (place : Nat) (many : Int) : keepM [] place many = [] := rfl
theorem ofM_one : (ofM [7] 1).length = 1 := by
  have h : (allK (ringM [7]) (keyN 1)).Perm [7] := nub_perm (nodup_allK _ _) (by simp) fun x => by
    rw [mem_allK, mem_ringM]
  rw [ofM, upB_len, keepM_eq, List.length_take, h.length_eq]
  rfl

end Go.Proofs.Ytlcgihdphdkhpaa