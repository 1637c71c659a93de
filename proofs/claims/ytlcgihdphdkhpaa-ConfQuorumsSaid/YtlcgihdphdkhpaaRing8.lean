/-
  Contracts of the reference's Keepers and Of.
-/
import Derived.Test.YtlcgihdphdkhpaaRing7
import Derived.Test.YtlcgihdphdkhpaaRing6
namespace Go.Proofs.Ytlcgihdphdkhpaa
open Go.RowKit

set_option maxRecDepth 100000 in
set_option maxHeartbeats 3200000 in
theorem refKeepers_any (ring : List Pt) (key : UInt8) (many : Int) (B : Nat) (R : Option Addr) (m rc : Nat) (w : World) (hm : ring.length = m) (hm2 : m ≤ 1000) (hR : Sees w B R (pv ring)) (hB : B ≤ w.heap.size) :
    Calls Try.prog 38 #[.slice R m rc, .int .u8 (key.toNat : Int), .int .i64 many] w fun e w' => ∃ A' c', e = .returned (.slice A' (keepM ring (keyN key) many).length c') ∧
      w'.ownsRow w.heap.size 5 1 (.slice A' (keepM ring (keyN key) many).length c') (keepM ring (keyN key) many).length (bv (keepM ring (keyN key) many)) ∧ Below w.heap.size w w' := by
  have HR := hide_ hR
  have HM := hide_ hm
  have HK := hide_ (fun u => refKey_any key u)
  have HKL := hide_ (show ∀ q, (walkK many q [] ring).length ≤ 1000 from fun q => by
    have h := walkK_nubs many q ring []
    rw [List.take_nil] at h
    rw [h, List.length_take]
    have h2 := nubs_len_le ((ring.filter q).map (·.2))
    unfold nubs at h2
    have h3 := List.length_filter_le q ring
    simp only [List.length_map] at h2
    omega)
  have hkn : keyN key = stirN (fnv [107, key]) := rfl
  rw [← hkn] at HK
  obtain ⟨pl, hpl⟩ : ∃ pl, keyN key = pl := ⟨_, rfl⟩
  rw [hpl] at HK ⊢
  obtain ⟨a1, ha1⟩ : ∃ a1, walkK many (fromP pl) [] ring = a1 := ⟨_, rfl⟩
  have hl1 := HKL.out (fromP pl)
  rw [ha1] at hl1
  have hkm : keepM ring pl many = walkK many (underP pl) a1 ring := by rw [← ha1]; rfl
  obtain ⟨a2, ha2⟩ : ∃ a2, walkK many (underP pl) a1 ring = a2 := ⟨_, rfl⟩
  rw [hkm, ha2]
  have HA1 := hide_ ha1
  have HA2 := hide_ ha2
  have HT1 := hide_ (show walkK many (fromP pl) [] (ring.take m) = a1 by rw [← hm, List.take_length]; exact ha1)
  have HT2 := hide_ (show walkK many (underP pl) a1 (ring.take m) = a2 by rw [← hm, List.take_length]; exact ha2)
  have HS1 := hide_ (fun j (hj : j < ring.length) => walkK_take many (fromP pl) [] ring j hj)
  have HS2 := hide_ (fun j (hj : j < ring.length) => walkK_take many (underP pl) a1 ring j hj)
  clear hR hkn hpl hkm ha1 ha2 hm
  go_enter Try.func38, Try.ntmps38
  go_wp2_with fail
  refine (HK.out _).mono ?_
  rintro e w1 ⟨rfl, hb1⟩
  have HB1 := hide_ (hb1.alloc hb1.size (.cells #[] 5))
  have HO1 := hide_ (show (w1.alloc (.cells #[] 5)).ownsRow w.heap.size 5 1 (.slice (some ⟨w1.heap.size, 0, none⟩) 0 0) 0 (bv []) from own_empty9 5 hb1.size)
  clear hb1
  go_wp2
  go_loopw [8, 9] (fun o t wx => ∃ (τ : Nat) (ti : Int) (A1 : Option Addr) (n1 c1 : Nat), τ ≤ 2 ∧ ti = (τ : Int) ∧ t = .int .i64 ti ∧ o = .slice A1 n1 c1 ∧ n1 ≤ 1000 * τ ∧ Hid ((if τ = 0 then [] else if τ = 1 then a1 else a2).length = n1) ∧ Hid (wx.ownsRow w.heap.size 5 1 (.slice A1 n1 c1) n1 (bv (if τ = 0 then [] else if τ = 1 then a1 else a2))) ∧ Hid (Below w.heap.size w wx)) (fun _ t _ => 2 - (intOf t).toNat)
  case atStart => exact ⟨0, 0, _, 0, 0, by omega, rfl, rfl, rfl, by omega, hide_ rfl, HO1, HB1⟩
  case round =>
    obtain ⟨τ, ti, A1, n1, c1, hτ, hti, rfl, rfl, hn1, HN, HO, HB⟩ := hrel
    rcases (show τ = 0 ∨ τ = 1 ∨ τ = 2 by omega) with rfl | rfl | rfl
    · obtain rfl : ti = 0 := hti
      rw [if_pos rfl] at HN HO
      obtain ⟨wo, hwo⟩ : ∃ wo, wo = wr := ⟨_, rfl⟩
      subst hwo
      go_wp2
      go_loopw [8, 20] (fun o i wx => ∃ (j : Nat) (A2 : Option Addr) (n2 c2 : Nat), j ≤ m ∧ i = .int .i64 j ∧ o = .slice A2 n2 c2 ∧ n2 ≤ 0 + j ∧ Hid ((walkK many (fromP pl) [] (ring.take j)).length = n2) ∧ Hid (wx.ownsRow w.heap.size 5 1 (.slice A2 n2 c2) n2 (bv (walkK many (fromP pl) [] (ring.take j)))) ∧ Hid (Below w.heap.size w wx)) (fun _ i _ => m - (intOf i).toNat)
      case atStart => exact ⟨0, A1, n1, c1, by omega, rfl, rfl, by omega, HN, HO, HB⟩
      case round =>
        obtain ⟨j, A2, n2, c2, hj, rfl, rfl, hn2, HN2, HO2, HB2⟩ := hrel
        by_cases hlj : j < m
        · have hjl : j < ring.length := by rw [HM.out]; exact hlj
          obtain ⟨rb, ro, rfl, hrb, hr0, hr1⟩ := (HR.out.below (HB2.out.mono hB)).pt hjl
          have hst := HS1.out j hjl
          obtain ⟨p, hp⟩ : ∃ p, ring[j] = p := ⟨_, rfl⟩
          obtain ⟨ac, hac⟩ : ∃ ac, walkK many (fromP pl) [] (ring.take j) = ac := ⟨_, rfl⟩
          rw [hp] at hst hr0 hr1
          rw [hac] at hst HN2 HO2
          have HST := hide_ hst
          clear hp hac hst
          obtain ⟨rh, rn⟩ := p
          simp only at hr0 hr1
          have hws : w.heap.size ≤ wr.heap.size := HB2.out.size
          have hrw : rb < wr.heap.size := by omega
          by_cases hq : pl ≤ rh
          · by_cases hf : (n2 : Int) < many
            · have HH := hide_ (has9_any ac rn wr.heap.size A2 n2 c2 wr HN2.out (by unfold maxLen; omega) (Sees.ownRow9 HO2.out))
              cases hin : ac.contains rn with
              | true =>
                have HSAME := hide_ (show stepK many (fromP pl) ac (rh, rn) = ac by simp only [stepK]; rw [hin]; simp)
                rw [hin] at HH
                clear hin
                go_wp2_with fail
                refine HH.out.mono ?_
                rintro e w3 ⟨rfl, rfl⟩
                go_wp2
                go_roundw
                case rel => exact ⟨j + 1, A2, n2, c2, by omega, by go_num, rfl, by omega, hide_ (by rw [HST.out, HSAME.out]; exact HN2.out), hide_ (by rw [HST.out, HSAME.out]; exact HO2.out), HB2⟩
                case measure => simp [intOf]; omega
              | false =>
                have HADD := hide_ (show stepK many (fromP pl) ac (rh, rn) = ac ++ [rn] by
                  have h1 : fromP pl (rh, rn) = true := by simp [fromP]; omega
                  have h2 : decide ((ac.length : Int) < many) = true := by rw [HN2.out]; simp [hf]
                  simp only [stepK]
                  rw [h1, h2, hin]
                  rfl)
                rw [hin] at HH
                clear hin
                have HOA := hide_ (HO2.out.alloc (.cells #[.int .u8 (rn.toNat : Int)] 5))
                have HBA := hide_ (HB2.out.alloc hws (.cells #[.int .u8 (rn.toNat : Int)] 5))
                have HSN := hide_ (sees_box wr #[.int .u8 (rn.toNat : Int)] 5 (bv [rn]) rfl)
                have HCV := hide_ (show bv ac ++ bv [rn] = bv (ac ++ [rn]) by rw [bv_append])
                have HNL := hide_ (show (ac ++ [rn]).length = n2 + 1 by rw [List.length_append, HN2.out]; rfl)
                go_wp2_with fail
                refine HH.out.mono ?_
                rintro e w3 ⟨rfl, rfl⟩
                go_wp2_with (at_builtin; refine wpList_append_cells _ rfl _ _ 23 rfl w.heap.size 5 _ 1 1 u8_info rfl (by omega) Try.underlying23 _ n2 (bv ac) rfl HOA.out (wr.heap.size + 1) (some ⟨wr.heap.size, 0, none⟩) 1 1 (bv [rn]) rfl rfl HSN.out (bv_oneCell _) (by omega) (by omega) (by simp; omega) (n2 + 1) rfl _ HCV.out ?_; intro A4 c4 w4 hown hb4; have HO4 := hide_ hown; have HB4 := hide_ hb4; clear hown hb4)
                go_roundw
                case rel => exact ⟨j + 1, A4, n2 + 1, c4, by omega, by go_num, rfl, by omega, hide_ (by rw [HST.out, HADD.out]; exact HNL.out), hide_ (by rw [HST.out, HADD.out]; exact HO4.out), hide_ (HBA.out.trans HB4.out)⟩
                case measure => simp [intOf]; omega
            · have HSAME := hide_ (show stepK many (fromP pl) ac (rh, rn) = ac from stepK_full (by rw [HN2.out]; exact hf) _)
              go_wp2
              go_roundw
              case rel => exact ⟨j + 1, A2, n2, c2, by omega, by go_num, rfl, by omega, hide_ (by rw [HST.out, HSAME.out]; exact HN2.out), hide_ (by rw [HST.out, HSAME.out]; exact HO2.out), HB2⟩
              case measure => simp [intOf]; omega
          · have HSAME := hide_ (show stepK many (fromP pl) ac (rh, rn) = ac by simp [stepK, fromP]; omega)
            go_wp2
            go_roundw
            case rel => exact ⟨j + 1, A2, n2, c2, by omega, by go_num, rfl, by omega, hide_ (by rw [HST.out, HSAME.out]; exact HN2.out), hide_ (by rw [HST.out, HSAME.out]; exact HO2.out), HB2⟩
            case measure => simp [intOf]; omega
        · obtain rfl : j = m := by omega
          rw [HT1.out] at HN2 HO2
          go_wp2
          go_roundw
          case rel => exact ⟨1, 1, A2, n2, c2, by omega, rfl, by first | rfl | go_num, rfl, by omega, hide_ HN2.out, hide_ HO2.out, HB2⟩
          case measure => simp [intOf]
    · obtain rfl : ti = 1 := hti
      rw [if_neg (by omega), if_pos rfl] at HN HO
      obtain ⟨wo, hwo⟩ : ∃ wo, wo = wr := ⟨_, rfl⟩
      subst hwo
      go_wp2
      go_loopw [8, 20] (fun o i wx => ∃ (j : Nat) (A2 : Option Addr) (n2 c2 : Nat), j ≤ m ∧ i = .int .i64 j ∧ o = .slice A2 n2 c2 ∧ n2 ≤ 1000 + j ∧ Hid ((walkK many (underP pl) a1 (ring.take j)).length = n2) ∧ Hid (wx.ownsRow w.heap.size 5 1 (.slice A2 n2 c2) n2 (bv (walkK many (underP pl) a1 (ring.take j)))) ∧ Hid (Below w.heap.size w wx)) (fun _ i _ => m - (intOf i).toNat)
      case atStart => exact ⟨0, A1, n1, c1, by omega, rfl, rfl, by omega, HN, HO, HB⟩
      case round =>
        obtain ⟨j, A2, n2, c2, hj, rfl, rfl, hn2, HN2, HO2, HB2⟩ := hrel
        by_cases hlj : j < m
        · have hjl : j < ring.length := by rw [HM.out]; exact hlj
          obtain ⟨rb, ro, rfl, hrb, hr0, hr1⟩ := (HR.out.below (HB2.out.mono hB)).pt hjl
          have hst := HS2.out j hjl
          obtain ⟨p, hp⟩ : ∃ p, ring[j] = p := ⟨_, rfl⟩
          obtain ⟨ac, hac⟩ : ∃ ac, walkK many (underP pl) a1 (ring.take j) = ac := ⟨_, rfl⟩
          rw [hp] at hst hr0 hr1
          rw [hac] at hst HN2 HO2
          have HST := hide_ hst
          clear hp hac hst
          obtain ⟨rh, rn⟩ := p
          simp only at hr0 hr1
          have hws : w.heap.size ≤ wr.heap.size := HB2.out.size
          have hrw : rb < wr.heap.size := by omega
          by_cases hq : pl ≤ rh
          · have HSAME := hide_ (show stepK many (underP pl) ac (rh, rn) = ac by simp [stepK, underP]; omega)
            go_wp2
            go_roundw
            case rel => exact ⟨j + 1, A2, n2, c2, by omega, by go_num, rfl, by omega, hide_ (by rw [HST.out, HSAME.out]; exact HN2.out), hide_ (by rw [HST.out, HSAME.out]; exact HO2.out), HB2⟩
            case measure => simp [intOf]; omega
          · by_cases hf : (n2 : Int) < many
            · have HH := hide_ (has9_any ac rn wr.heap.size A2 n2 c2 wr HN2.out (by unfold maxLen; omega) (Sees.ownRow9 HO2.out))
              cases hin : ac.contains rn with
              | true =>
                have HSAME := hide_ (show stepK many (underP pl) ac (rh, rn) = ac by simp only [stepK]; rw [hin]; simp)
                rw [hin] at HH
                clear hin
                go_wp2_with fail
                refine HH.out.mono ?_
                rintro e w3 ⟨rfl, rfl⟩
                go_wp2
                go_roundw
                case rel => exact ⟨j + 1, A2, n2, c2, by omega, by go_num, rfl, by omega, hide_ (by rw [HST.out, HSAME.out]; exact HN2.out), hide_ (by rw [HST.out, HSAME.out]; exact HO2.out), HB2⟩
                case measure => simp [intOf]; omega
              | false =>
                have HADD := hide_ (show stepK many (underP pl) ac (rh, rn) = ac ++ [rn] by
                  have h1 : underP pl (rh, rn) = true := by simp [underP]; omega
                  have h2 : decide ((ac.length : Int) < many) = true := by rw [HN2.out]; simp [hf]
                  simp only [stepK]
                  rw [h1, h2, hin]
                  rfl)
                rw [hin] at HH
                clear hin
                have HOA := hide_ (HO2.out.alloc (.cells #[.int .u8 (rn.toNat : Int)] 5))
                have HBA := hide_ (HB2.out.alloc hws (.cells #[.int .u8 (rn.toNat : Int)] 5))
                have HSN := hide_ (sees_box wr #[.int .u8 (rn.toNat : Int)] 5 (bv [rn]) rfl)
                have HCV := hide_ (show bv ac ++ bv [rn] = bv (ac ++ [rn]) by rw [bv_append])
                have HNL := hide_ (show (ac ++ [rn]).length = n2 + 1 by rw [List.length_append, HN2.out]; rfl)
                go_wp2_with fail
                refine HH.out.mono ?_
                rintro e w3 ⟨rfl, rfl⟩
                go_wp2_with (at_builtin; refine wpList_append_cells _ rfl _ _ 23 rfl w.heap.size 5 _ 1 1 u8_info rfl (by omega) Try.underlying23 _ n2 (bv ac) rfl HOA.out (wr.heap.size + 1) (some ⟨wr.heap.size, 0, none⟩) 1 1 (bv [rn]) rfl rfl HSN.out (bv_oneCell _) (by omega) (by omega) (by simp; omega) (n2 + 1) rfl _ HCV.out ?_; intro A4 c4 w4 hown hb4; have HO4 := hide_ hown; have HB4 := hide_ hb4; clear hown hb4)
                go_roundw
                case rel => exact ⟨j + 1, A4, n2 + 1, c4, by omega, by go_num, rfl, by omega, hide_ (by rw [HST.out, HADD.out]; exact HNL.out), hide_ (by rw [HST.out, HADD.out]; exact HO4.out), hide_ (HBA.out.trans HB4.out)⟩
                case measure => simp [intOf]; omega
            · have HSAME := hide_ (show stepK many (underP pl) ac (rh, rn) = ac from stepK_full (by rw [HN2.out]; exact hf) _)
              go_wp2
              go_roundw
              case rel => exact ⟨j + 1, A2, n2, c2, by omega, by go_num, rfl, by omega, hide_ (by rw [HST.out, HSAME.out]; exact HN2.out), hide_ (by rw [HST.out, HSAME.out]; exact HO2.out), HB2⟩
              case measure => simp [intOf]; omega
        · obtain rfl : j = m := by omega
          rw [HT2.out] at HN2 HO2
          go_wp2
          go_roundw
          case rel => exact ⟨2, 2, A2, n2, c2, by omega, rfl, by first | rfl | go_num, rfl, by omega, hide_ HN2.out, hide_ HO2.out, HB2⟩
          case measure => simp [intOf]
    · obtain rfl : ti = 2 := hti
      rw [if_neg (by omega), if_neg (by omega)] at HN HO
      have hn := HN.out
      subst hn
      go_wp2
      go_ret
      exact ⟨_, _, rfl, HO.out, HB.out⟩
end Go.Proofs.Ytlcgihdphdkhpaa
