/-
  The contract of conf's Keepers.
-/
import Derived.Test.YtlcgihdphdkhpaaCmp8
import Derived.Test.YtlcgihdphdkhpaaConf5
namespace Go.Proofs.Ytlcgihdphdkhpaa
open Go.RowKit

/-- of the first rings: their keepers, one behind the other -/
def catK (rs : List NdM) (key : UInt8) (k : Nat) : List UInt8 := (rs.take k).flatMap fun z => ofM z.l key
theorem catK_succ {rs : List NdM} (key : UInt8) {k : Nat} {z : NdM} (h : rs[k]? = some z) : catK rs key (k + 1) = catK rs key k ++ ofM z.l key := by
  obtain ⟨hk, rfl⟩ := List.getElem?_eq_some_iff.1 h
  rw [catK, catK, List.take_succ_eq_append_getElem hk, List.flatMap_append]
  simp
theorem catK_len (rs : List NdM) (key : UInt8) : ∀ k, k ≤ rs.length → (catK rs key k).length ≤ 3 * k
  | 0, _ => by simp [catK]
  | k + 1, h => by
    have h1 := catK_len rs key k (by omega)
    have h2 := ofM_len rs[k].l key
    rw [catK_succ key (List.getElem?_eq_getElem (show k < rs.length by omega)), List.length_append]
    omega
theorem listed_congr {l m : List UInt8} (h : ∀ x, x ∈ l ↔ x ∈ m) : listed l 256 = listed m 256 := by
  unfold listed
  congr 1
  funext x
  rw [Bool.eq_iff_iff, List.contains_iff_mem, List.contains_iff_mem, h]
theorem catK_keep (C : Nat) (x y : NdM) (key : UInt8) : ddU (upB (catK (ringsN C x y) key (ringsN C x y).length)) (upB (catK (ringsN C x y) key (ringsN C x y).length)).length = keepC C x.l y.l key := by
  rw [ddU_listed (upB_rises _), keepC]
  refine listed_congr fun z => ?_
  rw [(upB_perm _).mem_iff, catK, List.take_length, List.mem_flatMap, List.mem_flatMap, rings_map (fun m : NdM => ofM m.l key) C x y]
  constructor
  · rintro ⟨a, ha, hz⟩
    exact ⟨_, List.mem_map.2 ⟨a, ha, rfl⟩, hz⟩
  · rintro ⟨b, hb, hz⟩
    obtain ⟨a, ha, rfl⟩ := List.mem_map.1 hb
    exact ⟨a, ha, hz⟩

set_option maxRecDepth 100000 in
set_option maxHeartbeats 1600000 in
theorem Keepers10_any (C : Nat) (x y : NdM) (key : UInt8) (B : Nat) (w : World) (hx : NdM.ok w B x) (hy : NdM.ok w B y) (hB : B ≤ w.heap.size) :
    Calls Try.prog 16 #[cfV C x y, .int .u8 (key.toNat : Int)] w fun e w' => ∃ A' c', e = .returned (.slice A' (keepC C x.l y.l key).length c') ∧ Sees w' w'.heap.size A' (bv (keepC C x.l y.l key)) ∧ Below w.heap.size w w' := by
  have HR := hide_ (fun u => rings_any C x y u)
  have HALL := hide_ (fun (u : World) (hu : Below w.heap.size w u) z (hz : z ∈ ringsN C x y) => show NdM.ok u w.heap.size z from by
    rcases rings_two hz with rfl | rfl
    · exact (hx.more hB).below hu
    · exact (hy.more hB).below hu)
  have hrl := rings_len C x y
  have HKP := hide_ (catK_keep C x y key)
  obtain ⟨rs, hrs⟩ : ∃ rs, ringsN C x y = rs := ⟨_, rfl⟩
  obtain ⟨kp, hkp⟩ : ∃ kp, keepC C x.l y.l key = kp := ⟨_, rfl⟩
  rw [hrs] at hrl
  simp only [hrs, hkp] at HR HALL HKP ⊢
  have HCS := hide_ (fun k z (h : rs[k]? = some z) => catK_succ key h)
  have HCL := hide_ (catK_len rs key)
  clear hrs hkp hx hy
  obtain ⟨A1, c1, l1⟩ := x
  obtain ⟨A2, c2, l2⟩ := y
  simp only [cfV, NdM.v] at HR ⊢
  have HB0 := hide_ ((Below.refl w.heap.size w).alloc (Nat.le_refl _) (.cells #[.int .u64 C, .slice A1 l1.length c1, .slice A2 l2.length c2] 25))
  have HX0 := hide_ (BoxAt.new w #[.int .u64 C, .slice A1 l1.length c1, .slice A2 l2.length c2] 25)
  obtain ⟨W0, hW0⟩ : ∃ W0, w.alloc (.cells #[.int .u64 C, .slice A1 l1.length c1, .slice A2 l2.length c2] 25) = W0 := ⟨_, rfl⟩
  rw [hW0] at HB0 HX0
  have HW0 := hide_ hW0
  have hs0 : w.heap.size < W0.heap.size := HX0.out.lt
  clear hW0
  go_enter Try.func16, Try.ntmps16
  go_upto_region 2 with fail
  rw [HW0.out]
  have c0 := HX0.out.cell 0
  have c1' := HX0.out.cell 1
  have c2' := HX0.out.cell 2
  simp at c0 c1' c2'
  go_wp2_with fail
  refine (HR.out _).mono ?_
  rintro e w1 ⟨g, o, k, rfl, hk, hg, hg1, hc, hb1⟩
  have HB1 := hide_ (HB0.out.trans (hb1.mono HB0.out.size))
  have HC := hide_ (fun (u : World) (hu : Below w1.heap.size w1 u) j z (hz : rs[j]? = some z) => show u.cell? ⟨g, o + j, none⟩ = some z.v from by rw [hu.cell (p := ⟨g, o + j, none⟩) hg1]; exact hc j z hz)
  have HK := hide_ hk
  have hk2 : k ≤ 2 := by omega
  clear hrl hb1 c0 c1' c2' hc hk
  have HD0 := hide_ (Below.refl w1.heap.size w1)
  have HO0 := hide_ (show w1.ownsRow w1.heap.size 5 1 (.slice none 0 0) 0 (bv (catK rs key 0)) from ⟨rfl, .inl ⟨rfl, rfl⟩⟩)
  go_wp2_with fail
  go_loopw [5, 11] (fun kv i wx => ∃ (m : Nat) (A4 : Option Addr) (n4 c4 : Nat), m ≤ k ∧ i = .int .i64 m ∧ kv = .slice A4 n4 c4 ∧ Hid ((catK rs key m).length = n4) ∧ Hid (wx.ownsRow w1.heap.size 5 1 (.slice A4 n4 c4) n4 (bv (catK rs key m))) ∧ Hid (Below w1.heap.size w1 wx)) (fun _ i _ => k - (intOf i).toNat)
  case atStart => exact ⟨0, none, 0, 0, by omega, rfl, rfl, hide_ rfl, HO0, HD0⟩
  case round =>
    obtain ⟨m, A4, n4, c4, hm, rfl, rfl, HN4, HO4, HD⟩ := hrel
    have HBX := hide_ (HB1.out.trans (HD.out.mono HB1.out.size))
    have hn4 : n4 ≤ 3 * m := by have h1 := HCL.out m (by rw [HK.out]; exact hm); have h2 := HN4.out; omega
    by_cases hlt : m < k
    · obtain ⟨z, hz⟩ : ∃ z, rs[m]? = some z := ⟨_, List.getElem?_eq_getElem (by rw [HK.out]; exact hlt)⟩
      have hcz := HC.out wr HD.out m z hz
      have HZO := hide_ (HALL.out wr HBX.out z (List.mem_of_getElem? hz))
      have HCC := hide_ (HCS.out m z hz)
      clear hz
      have hgw : g < wr.heap.size := by have := HD.out.size; omega
      have hwz : w1.heap.size ≤ wr.heap.size := HD.out.size
      obtain ⟨zA, zc, zl⟩ := z
      simp only [NdM.v] at hcz HZO HCC
      have HOF := hide_ (Of9_any zl key w.heap.size zA zl.length zc wr rfl HZO.out.len HZO.out.2 HBX.out.size)
      have hl3 := ofM_len zl key
      obtain ⟨ko, hko⟩ : ∃ ko, ofM zl key = ko := ⟨_, rfl⟩
      rw [hko] at hl3 HCC
      simp only [hko] at HOF
      clear hko
      have HCV := hide_ (show bv (catK rs key m) ++ bv ko = bv (catK rs key (m + 1)) by rw [HCC.out, bv_append])
      have HNL := hide_ (show (catK rs key (m + 1)).length = n4 + ko.length by rw [HCC.out, List.length_append, HN4.out])
      obtain ⟨kl, hkl⟩ : ∃ kl, ko.length = kl := ⟨_, rfl⟩
      have HKL := hide_ hkl
      rw [hkl] at hl3 HNL HOF
      clear hkl
      go_wp2_with fail
      refine HOF.out.mono ?_
      rintro e w3 ⟨A3, c3, rfl, ho3, hb3⟩
      have HO5 := hide_ (own_below HO4.out hb3)
      have HS3 := hide_ (Sees.ownRow9 ho3)
      have HD3 := hide_ (HD.out.trans (hb3.mono HD.out.size))
      have hw3 : w1.heap.size ≤ w3.heap.size := HD3.out.size
      clear ho3 hb3
      go_wp2_with (at_builtin; refine wpList_append_cells _ rfl _ _ 23 rfl w1.heap.size 5 _ 1 1 u8_info rfl (by omega) Try.underlying23 _ n4 (bv (catK rs key m)) rfl HO5.out w3.heap.size A3 kl c3 (bv ko) rfl (by rw [bv_length, HKL.out, Nat.mul_one]) HS3.out (bv_oneCell _) (by omega) (by omega) hw3 (n4 + kl) rfl _ HCV.out ?_; intro A7 c7 w6 hown hb6; have HO7 := hide_ hown; have HB7 := hide_ hb6; clear hown hb6)
      go_roundw
      case rel => exact ⟨m + 1, A7, n4 + kl, c7, by omega, by go_num, rfl, HNL, HO7, hide_ (HD3.out.trans HB7.out)⟩
      case measure => simp [intOf]; omega
    · obtain rfl : k = m := by omega
      rw [HK.out] at HKP
      obtain ⟨L, hL⟩ : ∃ L, catK rs key k = L := ⟨_, rfl⟩
      rw [hL] at HKP HN4 HO4
      clear hL
      have hn6 : n4 ≤ 6 := by omega
      have HNN := hide_ (show (upB L).length = n4 by rw [upB_len, HN4.out])
      rw [HNN.out] at HKP
      have HSO := hide_ (sort8_any L w1.heap.size n4 c4 A4 wr HN4.out (by omega) HD.out.size HO4.out)
      go_wp2_with fail
      refine HSO.out.mono ?_
      rintro e w4 ⟨rfl, ho4, hb4⟩
      have HCM := hide_ (compact8_any (upB L) w1.heap.size n4 c4 A4 w4 HNN.out (by omega) (Nat.le_trans HD.out.size hb4.size) ho4)
      rw [HKP.out] at HCM
      have HD4 := hide_ (HD.out.trans hb4)
      clear ho4 hb4
      go_wp2_with fail
      refine HCM.out.mono ?_
      rintro e w5 ⟨A5, c5, rfl, hs5, hb5⟩
      go_wp2
      go_ret
      exact ⟨_, _, rfl, hs5, HB1.out.trans ((HD4.out.trans hb5).mono HB1.out.size)⟩
end Go.Proofs.Ytlcgihdphdkhpaa
