/-
  scrutineerlaw09.RingBuilds answers true for every input and leaves its input as it was; no condition.
-/
import Derived.Test.YtpiikdinphnjbaaRing9
import Derived.Test.YtpiikdinphnjbaaHeld
import Derived.Test.YtpiikdinphnjbaaLaw
namespace Go.Proofs.Ytpiikdinphnjbaa.ringBuilds
open Go.ChangeShapes Go.WideShapes Go.ChangeAt Go.RowKit

theorem walk_long (A : Option Addr) (n c : Nat) (k m : Int) (w : World) (h : 80 < n) (hm : n ≤ maxLen) :
    Calls Try.prog 3 #[.slice A n c, .int .u8 k, .int .i64 m] w fun e w' => e = .returned (.bool true) ∧ Below w.heap.size w w' := by
  unfold maxLen at hm
  go_enter Try.func3, Try.ntmps3
  go_wp2_with fail
  refine (awake09_any _).mono ?_
  rintro e w1 ⟨rfl, hb1⟩
  go_wp2
  go_ret
  exact ⟨rfl, hb1⟩

set_option maxRecDepth 100000 in
set_option maxHeartbeats 3200000 in
theorem walk_short (l : List UInt8) (key : UInt8) (many : Int) (A : Option Addr) (n c : Nat) (w : World) (hn : l.length = n) (h1 : n ≤ 80) (hs : Sees w w.heap.size A (bv l)) :
    Calls Try.prog 3 #[.slice A n c, .int .u8 (key.toNat : Int), .int .i64 many] w fun e w' => e = .returned (.bool true) ∧ Below w.heap.size w w' := by
  have HS := hide_ hs
  have HB := hide_ (Build_any l w.heap.size A n c w hn (by omega) hs (Nat.le_refl _))
  have HRB := hide_ (fun (u : World) (hu : Below w.heap.size w u) => refBuild_any l w.heap.size A n c u hn (by omega) (hs.below hu) hu.size)
  have HRL := hide_ (show (ringM l).length ≤ 1000 by
    rw [ringM_len]
    have := nubs_len_le l
    omega)
  have HOF := hide_ (fun (u : World) (hu : Below w.heap.size w u) => Of9_any l key w.heap.size A n c u hn (by omega) (hs.below hu) hu.size)
  have HROF := hide_ (fun (u : World) (hu : Below w.heap.size w u) => refOf9_any l key w.heap.size A n c u hn (by omega) (hs.below hu) hu.size)
  have HMAY := hide_ (fun (u : World) (hu : Below w.heap.size w u) => may9_any l w.heap.size A n c u hn (by unfold maxLen; omega) (hs.below hu))
  have HRMAY := hide_ (fun (u : World) (hu : Below w.heap.size w u) => refMay9_any l w.heap.size A n c u hn (by unfold maxLen; omega) (hs.below hu) hu.size)
  have HKE := hide_ (fun (u : World) (R : Option Addr) (m rc : Nat) (hm : (ringM l).length = m) (hm2 : m ≤ 1000) (hR : Sees u u.heap.size R (pv (ringM l))) => Keepers_any (ringM l) key many u.heap.size R m rc u hm hm2 hR (Nat.le_refl _))
  have HRKE := hide_ (fun (u : World) (R : Option Addr) (m rc : Nat) (hm : (ringM l).length = m) (hm2 : m ≤ 1000) (hR : Sees u u.heap.size R (pv (ringM l))) => refKeepers_any (ringM l) key many u.heap.size R m rc u hm hm2 hR (Nat.le_refl _))
  obtain ⟨r, hr⟩ : ∃ r, ringM l = r := ⟨_, rfl⟩
  obtain ⟨kp, hkp⟩ : ∃ kp, keepM r (keyN key) many = kp := ⟨_, rfl⟩
  obtain ⟨ok, hok⟩ : ∃ ok, ofM l key = ok := ⟨_, rfl⟩
  obtain ⟨my, hmy⟩ : ∃ b, mayN l = b := ⟨_, rfl⟩
  simp only [hr, hkp, hok, hmy] at HB HRB HRL HOF HROF HMAY HRMAY HKE HRKE
  clear hr hkp hok hmy hs
  go_enter Try.func3, Try.ntmps3
  go_wp2_with fail
  refine HB.out.mono ?_
  rintro e w1 ⟨A1, n1, c1, rfl, hl1, ho1, hb1⟩
  have HO1 := hide_ ho1
  have HB1 := hide_ hb1
  have HL1 := hide_ hl1
  clear ho1 hb1 hl1
  go_wp2_with fail
  refine (HRB.out _ HB1.out).mono ?_
  rintro e w2 ⟨A2, n2, c2, rfl, hl2, ho2, hb2⟩
  obtain rfl : n2 = n1 := hl2.symm.trans HL1.out
  have hn2 : n2 ≤ 1000 := by have := HRL.out; omega
  have HW2 := hide_ (HB1.out.trans (hb2.mono HB1.out.size))
  have HSA := hide_ ((Sees.ownRow9 (own_below HO1.out hb2)).more (Nat.le_refl w2.heap.size))
  have HSB := hide_ (Sees.ownRow9 ho2)
  have HSAME := hide_ (fun (u : World) (hu : Below w2.heap.size w2 u) => same9_any r A1 A2 n2 c1 c2 u hl2 hn2 ((HSA.out.below hu).more hu.size) ((HSB.out.below hu).more hu.size))
  have HK := hide_ (fun (u : World) (hu : Below w2.heap.size w2 u) => HKE.out u A1 n2 c1 hl2 hn2 ((HSA.out.below hu).more hu.size))
  have HRK := hide_ (fun (u : World) (hu : Below w2.heap.size w2 u) => HRKE.out u A2 n2 c2 hl2 hn2 ((HSB.out.below hu).more hu.size))
  have HWU := hide_ (fun (u : World) (hu : Below w2.heap.size w2 u) => HW2.out.trans (hu.mono HW2.out.size))
  have HO := hide_ (fun (u : World) (hu : Below w2.heap.size w2 u) => HOF.out u (HWU.out u hu))
  have HRO := hide_ (fun (u : World) (hu : Below w2.heap.size w2 u) => HROF.out u (HWU.out u hu))
  have HM := hide_ (fun (u : World) (hu : Below w2.heap.size w2 u) => show Calls Try.prog 15 #[.slice A n c] u (fun e w' => e = .returned (.bool my) ∧ Below u.heap.size u w') from (HMAY.out u (HWU.out u hu)).mono (by rintro e w' ⟨rfl, rfl⟩; exact ⟨rfl, Below.refl _ _⟩))
  have HRM := hide_ (fun (u : World) (hu : Below w2.heap.size w2 u) => HRMAY.out u (HWU.out u hu))
  have HA := hide_ (fun (u : World) (_ : Below w2.heap.size w2 u) => awake09_any u)
  have HQ_w2 := hide_ (Below.refl w2.heap.size w2)
  clear ho2 hb2 hl2 HB HRB HOF HROF HMAY HRMAY HKE HRKE HO1 HB1 HL1
  go_upto_region 4 with fail
  refine wp_region_held_drew (S := fun u => Below w2.heap.size w2 u) (by kernel_rfl) ((Below.refl _ _).drew) (fun hHeld => ?_)
  refine wpAnyH_take (i := 0) (oi := ⟨some 17, _, _, _, _, _⟩) (v := ?hv1) rfl (by kernel_rfl) (by kernel_rfl) (by kernel_rfl) (fun _ _ _ h => h) (Or.inl ⟨by rfl, ?hyy1⟩) (by assumption) ?hrest1
  case hyy1 => intro w hSw; (try dsimp only at hSw); go_simp <;> with_reducible rfl
  simp only [Act.put, List.setIfInBounds_toArray, List.set_cons_zero, List.set_cons_succ]
  refine wpAnyH_take (i := 1) (oi := ⟨some 18, _, _, _, _, _⟩) (v := ?hv2) rfl (by kernel_rfl) (by kernel_rfl) (by kernel_rfl) (fun _ _ _ h => h) (Or.inl ⟨by rfl, ?hyy2⟩) (by assumption) ?hrest2
  case hyy2 => intro w hSw; (try dsimp only at hSw); go_simp <;> with_reducible rfl
  simp only [Act.put, List.setIfInBounds_toArray, List.set_cons_zero, List.set_cons_succ]
  refine wpAnyH_ready (rs := [2]) (by kernel_rfl) (by simp) ?_
  refine AllReadyH.cons rfl (fun K hK => ?_) AllReadyH.nil
  go_simp
  go_wp2_with fail
  refine (HSAME.out _ (HQ_w2.out.trans (hHeld.mono HQ_w2.out.size))).mono ?_
  rintro e v1 ⟨rfl, hb_⟩
  have HP_v1 := hide_ (hHeld.trans (hb_.mono hHeld.size))
  have HQ_v1 := hide_ (HQ_w2.out.trans (HP_v1.out.mono HQ_w2.out.size))
  clear hb_
  refine hK.out _ _ (HP_v1.out) (fun hHeld => ?_)
  clear hK K hHeld
  refine wpAnyH_more (S' := fun u => Below v1.heap.size v1 u) (fun u hu => HP_v1.out.trans (hu.mono HP_v1.out.size)) _ _ _ _ ?_
  have hHeld := Below.refl v1.heap.size v1
  refine wpAnyH_take (i := 3) (oi := ⟨some 20, _, _, _, _, _⟩) (v := ?hv3) rfl (by kernel_rfl) (by kernel_rfl) (by kernel_rfl) (fun _ _ _ h => h) (Or.inl ⟨by rfl, ?hyy3⟩) (by assumption) ?hrest3
  case hyy3 => intro w hSw; (try dsimp only at hSw); go_simp <;> with_reducible rfl
  simp only [Act.put, List.setIfInBounds_toArray, List.set_cons_zero, List.set_cons_succ]
  refine wpAnyH_take (i := 4) (oi := ⟨some 21, _, _, _, _, _⟩) (v := ?hv4) rfl (by kernel_rfl) (by kernel_rfl) (by kernel_rfl) (fun _ _ _ h => h) (Or.inl ⟨by rfl, ?hyy4⟩) (by assumption) ?hrest4
  case hyy4 => intro w hSw; (try dsimp only at hSw); go_simp <;> with_reducible rfl
  simp only [Act.put, List.setIfInBounds_toArray, List.set_cons_zero, List.set_cons_succ]
  refine wpAnyH_take (i := 5) (oi := ⟨some 22, _, _, _, _, _⟩) (v := ?hv5) rfl (by kernel_rfl) (by kernel_rfl) (by kernel_rfl) (fun _ _ _ h => h) (Or.inl ⟨by rfl, ?hyy5⟩) (by assumption) ?hrest5
  case hyy5 => intro w hSw; (try dsimp only at hSw); go_simp <;> with_reducible rfl
  simp only [Act.put, List.setIfInBounds_toArray, List.set_cons_zero, List.set_cons_succ]
  refine wpAnyH_take (i := 6) (oi := ⟨some 23, _, _, _, _, _⟩) (v := ?hv6) rfl (by kernel_rfl) (by kernel_rfl) (by kernel_rfl) (fun _ _ _ h => h) (Or.inl ⟨by rfl, ?hyy6⟩) (by assumption) ?hrest6
  case hyy6 => intro w hSw; (try dsimp only at hSw); go_simp <;> with_reducible rfl
  simp only [Act.put, List.setIfInBounds_toArray, List.set_cons_zero, List.set_cons_succ]
  refine wpAnyH_take (i := 9) (oi := ⟨some 26, _, _, _, _, _⟩) (v := ?hv7) rfl (by kernel_rfl) (by kernel_rfl) (by kernel_rfl) (fun _ _ _ h => h) (Or.inl ⟨by rfl, ?hyy7⟩) (by assumption) ?hrest7
  case hyy7 => intro w hSw; (try dsimp only at hSw); go_simp <;> with_reducible rfl
  simp only [Act.put, List.setIfInBounds_toArray, List.set_cons_zero, List.set_cons_succ]
  refine wpAnyH_take (i := 10) (oi := ⟨some 27, _, _, _, _, _⟩) (v := ?hv8) rfl (by kernel_rfl) (by kernel_rfl) (by kernel_rfl) (fun _ _ _ h => h) (Or.inl ⟨by rfl, ?hyy8⟩) (by assumption) ?hrest8
  case hyy8 => intro w hSw; (try dsimp only at hSw); go_simp <;> with_reducible rfl
  simp only [Act.put, List.setIfInBounds_toArray, List.set_cons_zero, List.set_cons_succ]
  refine wpAnyH_take (i := 11) (oi := ⟨some 28, _, _, _, _, _⟩) (v := ?hv9) rfl (by kernel_rfl) (by kernel_rfl) (by kernel_rfl) (fun _ _ _ h => h) (Or.inl ⟨by rfl, ?hyy9⟩) (by assumption) ?hrest9
  case hyy9 => intro w hSw; (try dsimp only at hSw); go_simp <;> with_reducible rfl
  simp only [Act.put, List.setIfInBounds_toArray, List.set_cons_zero, List.set_cons_succ]
  refine wpAnyH_ready (rs := [7]) (by kernel_rfl) (by simp) ?_
  refine AllReadyH.cons rfl (fun K hK => ?_) AllReadyH.nil
  go_simp
  go_wp2_with fail
  refine (HK.out _ (HQ_v1.out.trans (hHeld.mono HQ_v1.out.size))).mono ?_
  rintro e v2 ⟨A5, c5, rfl, ho_, hb_⟩
  have HP_v2 := hide_ (hHeld.trans (hb_.mono hHeld.size))
  have HQ_v2 := hide_ (HQ_v1.out.trans (HP_v2.out.mono HQ_v1.out.size))
  have HC_v2 := hide_ (fun (u : World) (hu : Below v2.heap.size v2 u) => run_str (P := Try.prog) u 22 9 5 Try.underlying22 Try.underlying5 Try.underlying9 _ v2.heap.size _ _ c5 rfl ((Sees.ownRow9 ho_).below hu))
  clear ho_
  clear hb_
  refine hK.out _ _ (HP_v2.out) (fun hHeld => ?_)
  clear hK K hHeld
  refine wpAnyH_more (S' := fun u => Below v2.heap.size v2 u) (fun u hu => HP_v2.out.trans (hu.mono HP_v2.out.size)) _ _ _ _ ?_
  have hHeld := Below.refl v2.heap.size v2
  refine wpAnyH_take (i := 8) (oi := ⟨some 25, _, _, _, _, _⟩) (v := ?hv10) rfl (by kernel_rfl) (by kernel_rfl) (by kernel_rfl) (fun _ _ _ h => h) (Or.inl ⟨by rfl, ?hyy10⟩) (by assumption) ?hrest10
  case hyy10 => intro w hSw; (try dsimp only at hSw); have hcv := HC_v2.out _ hSw; go_simp <;> with_reducible rfl
  simp only [Act.put, List.setIfInBounds_toArray, List.set_cons_zero, List.set_cons_succ]
  refine wpAnyH_ready (rs := [12]) (by kernel_rfl) (by simp) ?_
  refine AllReadyH.cons rfl (fun K hK => ?_) AllReadyH.nil
  go_simp
  go_wp2_with fail
  refine (HRK.out _ (HQ_v2.out.trans (hHeld.mono HQ_v2.out.size))).mono ?_
  rintro e v3 ⟨A6, c6, rfl, ho_, hb_⟩
  have HP_v3 := hide_ (hHeld.trans (hb_.mono hHeld.size))
  have HQ_v3 := hide_ (HQ_v2.out.trans (HP_v3.out.mono HQ_v2.out.size))
  have HC_v3 := hide_ (fun (u : World) (hu : Below v3.heap.size v3 u) => run_str (P := Try.prog) u 22 9 5 Try.underlying22 Try.underlying5 Try.underlying9 _ v3.heap.size _ _ c6 rfl ((Sees.ownRow9 ho_).below hu))
  clear ho_
  clear hb_
  refine hK.out _ _ (HP_v3.out) (fun hHeld => ?_)
  clear hK K hHeld
  refine wpAnyH_more (S' := fun u => Below v3.heap.size v3 u) (fun u hu => HP_v3.out.trans (hu.mono HP_v3.out.size)) _ _ _ _ ?_
  have hHeld := Below.refl v3.heap.size v3
  refine wpAnyH_take (i := 13) (oi := ⟨some 30, _, _, _, _, _⟩) (v := ?hv11) rfl (by kernel_rfl) (by kernel_rfl) (by kernel_rfl) (fun _ _ _ h => h) (Or.inl ⟨by rfl, ?hyy11⟩) (by assumption) ?hrest11
  case hyy11 => intro w hSw; (try dsimp only at hSw); have hcv := HC_v3.out _ hSw; go_simp <;> with_reducible rfl
  simp only [Act.put, List.setIfInBounds_toArray, List.set_cons_zero, List.set_cons_succ]
  refine wpAnyH_take (i := 14) (oi := ⟨some 31, _, _, _, _, _⟩) (v := ?hv12) rfl (by kernel_rfl) (by kernel_rfl) (by kernel_rfl) (fun _ _ _ h => h) (Or.inl ⟨by rfl, ?hyy12⟩) (by assumption) ?hrest12
  case hyy12 => intro w hSw; (try dsimp only at hSw); go_simp <;> with_reducible rfl
  simp only [Act.put, List.setIfInBounds_toArray, List.set_cons_zero, List.set_cons_succ]
  refine wpAnyH_take (i := 15) (oi := ⟨some 32, _, _, _, _, _⟩) (v := ?hv13) rfl (by kernel_rfl) (by kernel_rfl) (by kernel_rfl) (fun _ _ _ h => h) (Or.inl ⟨by rfl, ?hyy13⟩) (by assumption) ?hrest13
  case hyy13 => intro w hSw; (try dsimp only at hSw); go_simp <;> with_reducible rfl
  simp only [Act.put, List.setIfInBounds_toArray, List.set_cons_zero, List.set_cons_succ]
  refine wpAnyH_take (i := 16) (oi := ⟨some 33, _, _, _, _, _⟩) (v := ?hv14) rfl (by kernel_rfl) (by kernel_rfl) (by kernel_rfl) (fun _ _ _ h => h) (Or.inl ⟨by rfl, ?hyy14⟩) (by assumption) ?hrest14
  case hyy14 => intro w hSw; (try dsimp only at hSw); go_simp <;> with_reducible rfl
  simp only [Act.put, List.setIfInBounds_toArray, List.set_cons_zero, List.set_cons_succ]
  refine wpAnyH_take (i := 17) (oi := ⟨some 34, _, _, _, _, _⟩) (v := ?hv15) rfl (by kernel_rfl) (by kernel_rfl) (by kernel_rfl) (fun _ _ _ h => h) (Or.inl ⟨by rfl, ?hyy15⟩) (by assumption) ?hrest15
  case hyy15 => intro w hSw; (try dsimp only at hSw); go_simp <;> with_reducible rfl
  simp only [Act.put, List.setIfInBounds_toArray, List.set_cons_zero, List.set_cons_succ]
  refine wpAnyH_take (i := 18) (oi := ⟨some 35, _, _, _, _, _⟩) (v := ?hv16) rfl (by kernel_rfl) (by kernel_rfl) (by kernel_rfl) (fun _ _ _ h => h) (Or.inl ⟨by rfl, ?hyy16⟩) (by assumption) ?hrest16
  case hyy16 => intro w hSw; (try dsimp only at hSw); go_simp <;> with_reducible rfl
  simp only [Act.put, List.setIfInBounds_toArray, List.set_cons_zero, List.set_cons_succ]
  refine wpAnyH_take (i := 21) (oi := ⟨some 38, _, _, _, _, _⟩) (v := ?hv17) rfl (by kernel_rfl) (by kernel_rfl) (by kernel_rfl) (fun _ _ _ h => h) (Or.inl ⟨by rfl, ?hyy17⟩) (by assumption) ?hrest17
  case hyy17 => intro w hSw; (try dsimp only at hSw); go_simp <;> with_reducible rfl
  simp only [Act.put, List.setIfInBounds_toArray, List.set_cons_zero, List.set_cons_succ]
  refine wpAnyH_take (i := 22) (oi := ⟨some 39, _, _, _, _, _⟩) (v := ?hv18) rfl (by kernel_rfl) (by kernel_rfl) (by kernel_rfl) (fun _ _ _ h => h) (Or.inl ⟨by rfl, ?hyy18⟩) (by assumption) ?hrest18
  case hyy18 => intro w hSw; (try dsimp only at hSw); go_simp <;> with_reducible rfl
  simp only [Act.put, List.setIfInBounds_toArray, List.set_cons_zero, List.set_cons_succ]
  refine wpAnyH_ready (rs := [19]) (by kernel_rfl) (by simp) ?_
  refine AllReadyH.cons rfl (fun K hK => ?_) AllReadyH.nil
  go_simp
  go_wp2_with fail
  refine (HO.out _ (HQ_v3.out.trans (hHeld.mono HQ_v3.out.size))).mono ?_
  rintro e v4 ⟨A7, c7, rfl, ho_, hb_⟩
  have HP_v4 := hide_ (hHeld.trans (hb_.mono hHeld.size))
  have HQ_v4 := hide_ (HQ_v3.out.trans (HP_v4.out.mono HQ_v3.out.size))
  have HC_v4 := hide_ (fun (u : World) (hu : Below v4.heap.size v4 u) => run_str (P := Try.prog) u 22 9 5 Try.underlying22 Try.underlying5 Try.underlying9 _ v4.heap.size _ _ c7 rfl ((Sees.ownRow9 ho_).below hu))
  clear ho_
  clear hb_
  refine hK.out _ _ (HP_v4.out) (fun hHeld => ?_)
  clear hK K hHeld
  refine wpAnyH_more (S' := fun u => Below v4.heap.size v4 u) (fun u hu => HP_v4.out.trans (hu.mono HP_v4.out.size)) _ _ _ _ ?_
  have hHeld := Below.refl v4.heap.size v4
  refine wpAnyH_take (i := 20) (oi := ⟨some 37, _, _, _, _, _⟩) (v := ?hv19) rfl (by kernel_rfl) (by kernel_rfl) (by kernel_rfl) (fun _ _ _ h => h) (Or.inl ⟨by rfl, ?hyy19⟩) (by assumption) ?hrest19
  case hyy19 => intro w hSw; (try dsimp only at hSw); have hcv := HC_v4.out _ hSw; go_simp <;> with_reducible rfl
  simp only [Act.put, List.setIfInBounds_toArray, List.set_cons_zero, List.set_cons_succ]
  refine wpAnyH_ready (rs := [23]) (by kernel_rfl) (by simp) ?_
  refine AllReadyH.cons rfl (fun K hK => ?_) AllReadyH.nil
  go_simp
  go_wp2_with fail
  refine (HRO.out _ (HQ_v4.out.trans (hHeld.mono HQ_v4.out.size))).mono ?_
  rintro e v5 ⟨A8, c8, rfl, ho_, hb_⟩
  have HP_v5 := hide_ (hHeld.trans (hb_.mono hHeld.size))
  have HQ_v5 := hide_ (HQ_v4.out.trans (HP_v5.out.mono HQ_v4.out.size))
  have HC_v5 := hide_ (fun (u : World) (hu : Below v5.heap.size v5 u) => run_str (P := Try.prog) u 22 9 5 Try.underlying22 Try.underlying5 Try.underlying9 _ v5.heap.size _ _ c8 rfl ((Sees.ownRow9 ho_).below hu))
  clear ho_
  clear hb_
  refine hK.out _ _ (HP_v5.out) (fun hHeld => ?_)
  clear hK K hHeld
  refine wpAnyH_more (S' := fun u => Below v5.heap.size v5 u) (fun u hu => HP_v5.out.trans (hu.mono HP_v5.out.size)) _ _ _ _ ?_
  have hHeld := Below.refl v5.heap.size v5
  refine wpAnyH_take (i := 24) (oi := ⟨some 41, _, _, _, _, _⟩) (v := ?hv20) rfl (by kernel_rfl) (by kernel_rfl) (by kernel_rfl) (fun _ _ _ h => h) (Or.inl ⟨by rfl, ?hyy20⟩) (by assumption) ?hrest20
  case hyy20 => intro w hSw; (try dsimp only at hSw); have hcv := HC_v5.out _ hSw; go_simp <;> with_reducible rfl
  simp only [Act.put, List.setIfInBounds_toArray, List.set_cons_zero, List.set_cons_succ]
  refine wpAnyH_take (i := 25) (oi := ⟨some 42, _, _, _, _, _⟩) (v := ?hv21) rfl (by kernel_rfl) (by kernel_rfl) (by kernel_rfl) (fun _ _ _ h => h) (Or.inl ⟨by rfl, ?hyy21⟩) (by assumption) ?hrest21
  case hyy21 => intro w hSw; (try dsimp only at hSw); go_simp <;> with_reducible rfl
  simp only [Act.put, List.setIfInBounds_toArray, List.set_cons_zero, List.set_cons_succ]
  refine wpAnyH_take (i := 26) (oi := ⟨some 43, _, _, _, _, _⟩) (v := ?hv22) rfl (by kernel_rfl) (by kernel_rfl) (by kernel_rfl) (fun _ _ _ h => h) (Or.inl ⟨by rfl, ?hyy22⟩) (by assumption) ?hrest22
  case hyy22 => intro w hSw; (try dsimp only at hSw); go_simp <;> with_reducible rfl
  simp only [Act.put, List.setIfInBounds_toArray, List.set_cons_zero, List.set_cons_succ]
  refine wpAnyH_take (i := 27) (oi := ⟨some 44, _, _, _, _, _⟩) (v := ?hv23) rfl (by kernel_rfl) (by kernel_rfl) (by kernel_rfl) (fun _ _ _ h => h) (Or.inl ⟨by rfl, ?hyy23⟩) (by assumption) ?hrest23
  case hyy23 => intro w hSw; (try dsimp only at hSw); go_simp <;> with_reducible rfl
  simp only [Act.put, List.setIfInBounds_toArray, List.set_cons_zero, List.set_cons_succ]
  refine wpAnyH_take (i := 28) (oi := ⟨some 45, _, _, _, _, _⟩) (v := ?hv24) rfl (by kernel_rfl) (by kernel_rfl) (by kernel_rfl) (fun _ _ _ h => h) (Or.inl ⟨by rfl, ?hyy24⟩) (by assumption) ?hrest24
  case hyy24 => intro w hSw; (try dsimp only at hSw); go_simp <;> with_reducible rfl
  simp only [Act.put, List.setIfInBounds_toArray, List.set_cons_zero, List.set_cons_succ]
  refine wpAnyH_take (i := 30) (oi := ⟨some 47, _, _, _, _, _⟩) (v := ?hv25) rfl (by kernel_rfl) (by kernel_rfl) (by kernel_rfl) (fun _ _ _ h => h) (Or.inl ⟨by rfl, ?hyy25⟩) (by assumption) ?hrest25
  case hyy25 => intro w hSw; (try dsimp only at hSw); go_simp <;> with_reducible rfl
  simp only [Act.put, List.setIfInBounds_toArray, List.set_cons_zero, List.set_cons_succ]
  refine wpAnyH_ready (rs := [29]) (by kernel_rfl) (by simp) ?_
  refine AllReadyH.cons rfl (fun K hK => ?_) AllReadyH.nil
  go_simp
  go_wp2_with fail
  refine (HM.out _ (HQ_v5.out.trans (hHeld.mono HQ_v5.out.size))).mono ?_
  rintro e v6 ⟨rfl, hb_⟩
  have HP_v6 := hide_ (hHeld.trans (hb_.mono hHeld.size))
  have HQ_v6 := hide_ (HQ_v5.out.trans (HP_v6.out.mono HQ_v5.out.size))
  clear hb_
  refine hK.out _ _ (HP_v6.out) (fun hHeld => ?_)
  clear hK K hHeld
  refine wpAnyH_more (S' := fun u => Below v6.heap.size v6 u) (fun u hu => HP_v6.out.trans (hu.mono HP_v6.out.size)) _ _ _ _ ?_
  have hHeld := Below.refl v6.heap.size v6
  refine wpAnyH_ready (rs := [31]) (by kernel_rfl) (by simp) ?_
  refine AllReadyH.cons rfl (fun K hK => ?_) AllReadyH.nil
  go_simp
  go_wp2_with fail
  refine (HRM.out _ (HQ_v6.out.trans (hHeld.mono HQ_v6.out.size))).mono ?_
  rintro e v7 ⟨rfl, hb_⟩
  have HP_v7 := hide_ (hHeld.trans (hb_.mono hHeld.size))
  have HQ_v7 := hide_ (HQ_v6.out.trans (HP_v7.out.mono HQ_v6.out.size))
  clear hb_
  refine hK.out _ _ (HP_v7.out) (fun hHeld => ?_)
  clear hK K hHeld
  refine wpAnyH_more (S' := fun u => Below v7.heap.size v7 u) (fun u hu => HP_v7.out.trans (hu.mono HP_v7.out.size)) _ _ _ _ ?_
  have hHeld := Below.refl v7.heap.size v7
  refine wpAnyH_take (i := 32) (oi := ⟨some 49, _, _, _, _, _⟩) (v := ?hv26) rfl (by kernel_rfl) (by kernel_rfl) (by kernel_rfl) (fun _ _ _ h => h) (Or.inl ⟨by rfl, ?hyy26⟩) (by assumption) ?hrest26
  case hyy26 => intro w hSw; (try dsimp only at hSw); go_simp <;> with_reducible rfl
  simp only [Act.put, List.setIfInBounds_toArray, List.set_cons_zero, List.set_cons_succ]
  refine wpAnyH_take (i := 33) (oi := ⟨some 50, _, _, _, _, _⟩) (v := ?hv27) rfl (by kernel_rfl) (by kernel_rfl) (by kernel_rfl) (fun _ _ _ h => h) (Or.inl ⟨by rfl, ?hyy27⟩) (by assumption) ?hrest27
  case hyy27 => intro w hSw; (try dsimp only at hSw); go_simp <;> with_reducible rfl
  simp only [Act.put, List.setIfInBounds_toArray, List.set_cons_zero, List.set_cons_succ]
  refine wpAnyH_take (i := 34) (oi := ⟨some 51, _, _, _, _, _⟩) (v := ?hv28) rfl (by kernel_rfl) (by kernel_rfl) (by kernel_rfl) (fun _ _ _ h => h) (Or.inl ⟨by rfl, ?hyy28⟩) (by assumption) ?hrest28
  case hyy28 => intro w hSw; (try dsimp only at hSw); go_simp <;> with_reducible rfl
  simp only [Act.put, List.setIfInBounds_toArray, List.set_cons_zero, List.set_cons_succ]
  refine wpAnyH_ready (rs := [35]) (by kernel_rfl) (by simp) ?_
  refine AllReadyH.cons rfl (fun K hK => ?_) AllReadyH.nil
  go_simp
  go_wp2_with fail
  refine (HA.out _ (HQ_v7.out.trans (hHeld.mono HQ_v7.out.size))).mono ?_
  rintro e v8 ⟨rfl, hb_⟩
  have HP_v8 := hide_ (hHeld.trans (hb_.mono hHeld.size))
  have HQ_v8 := hide_ (HQ_v7.out.trans (HP_v8.out.mono HQ_v7.out.size))
  clear hb_
  refine hK.out _ _ (HP_v8.out) (fun hHeld => ?_)
  clear hK K hHeld
  refine wpAnyH_more (S' := fun u => Below v8.heap.size v8 u) (fun u hu => HP_v8.out.trans (hu.mono HP_v8.out.size)) _ _ _ _ ?_
  have hHeld := Below.refl v8.heap.size v8
  refine wpAnyH_take (i := 36) (oi := ⟨some 53, _, _, _, _, _⟩) (v := ?hv29) rfl (by kernel_rfl) (by kernel_rfl) (by kernel_rfl) (fun _ _ _ h => h) (Or.inl ⟨by rfl, ?hyy29⟩) (by assumption) ?hrest29
  case hyy29 => intro w hSw; (try dsimp only at hSw); go_simp <;> with_reducible rfl
  simp only [Act.put, List.setIfInBounds_toArray, List.set_cons_zero, List.set_cons_succ]
  refine wpAnyH_take (i := 37) (oi := ⟨some 6, _, _, _, _, _⟩) (v := ?hv30) rfl (by kernel_rfl) (by kernel_rfl) (by kernel_rfl) (fun _ _ _ h => h) (Or.inl ⟨by rfl, ?hyy30⟩) (by assumption) ?hrest30
  case hyy30 => intro w hSw; (try dsimp only at hSw); go_simp <;> with_reducible rfl
  simp only [Act.put, List.setIfInBounds_toArray, List.set_cons_zero, List.set_cons_succ]
  refine wpAnyH_done (by kernel_rfl) ?_ _
  go_wp2
  go_ret
  exact ⟨rfl, HWU.out _ HQ_v8.out⟩

theorem own : ownKnob Try.prog.godebug = none := by kernel_rfl
theorem laid : laidOutB Try.prog = true := by kernel_rfl
theorem cells8 : Try.prog.cellsOf 5 = 1 := by kernel_rfl

set_option maxRecDepth 100000 in
theorem contract (H : Type) (enc : TypeId × Value → H) (W : World) (base : Nat) (args : Array Value) (ds gs : List (DataW H)) (before : List MemPlace)
    (hval : ∀ (j : Nat) t v, Try.f3.params[j]? = some t → args[j]? = some v → Value.okWide Try.prog W .any base t v)
    (hW : DataW.Whole enc Try.prog Try.f3.params.toList Rows.ringBuildsSpec.vars false W args.toList ds gs before) :
    Calls Try.prog 3 args W fun e W' => ∃ v, e = .returned v ∧ Rows.ringBuildsSpec.post enc Try.prog Try.f3 false true false false W args v W' := by
  have hW' := hW
  obtain ⟨p, q, hA0, hV, rfl, hfz, hnd⟩ := hW
  have hA : DataW.TrodAll enc Try.prog W 0 (fun _ => true) true Try.f3.params.toList args.toList ds p := hA0
  rw [Try.params3] at hA hval
  obtain ⟨v0, vs0, d0, ds0, p0, q0, hargs, rfl, rfl, h0, r0⟩ := trodAll_cons hA
  obtain ⟨v1, vs1, d1, ds1, p1, q1, rfl, rfl, rfl, h1, r1⟩ := trodAll_cons r0
  obtain ⟨v2, vs2, d2, ds2, p2, q2, rfl, rfl, rfl, h2, r2⟩ := trodAll_cons r1
  obtain ⟨rfl, rfl, rfl⟩ := trodAll_nil r2
  obtain rfl : args = #[v0, v1, v2] := by cases args; simp_all
  obtain ⟨rfl, rfl⟩ := trodVars_none hV
  obtain ⟨A0, n0, c0, l0, rfl, e0, m0, M0, s0⟩ := open_bytes Try.underlying22 Try.underlying5 cells8 (hval 0 22 v0 rfl rfl) h0
  obtain ⟨a1, rfl, rfl, rfl, w1⟩ := open_int Try.underlying5 (hval 1 5 v1 rfl rfl) h1
  have b1 : 0 ≤ a1 ∧ a1 ≤ 255 := by simpa [Lit.wf, IntKind.min, IntKind.max, IntKind.signed, IntKind.bits] using w1
  obtain ⟨a2, rfl, rfl, rfl, w2⟩ := open_int Try.underlying3 (hval 2 3 v2 rfl rfl) h2
  have b2 : -9223372036854775808 ≤ a2 ∧ a2 ≤ 9223372036854775807 := by simpa [Lit.wf, IntKind.min, IntKind.max, IntKind.signed, IntKind.bits] using w2
  have fin : ∀ (e : Ending) (W' : World), e = .returned (.bool true) ∧ Below W.heap.size W W' → ∃ v, e = .returned v ∧ Rows.ringBuildsSpec.post enc Try.prog Try.f3 false true false false W #[.slice A0 n0 c0, .int .u8 a1, .int .i64 a2] v W' :=
    fun e W' ⟨he, hb⟩ => ⟨_, he, law_post laid (by kernel_rfl) rfl rfl rfl Try.underlying4 hW' hb⟩
  obtain ⟨key, rfl⟩ : ∃ x : UInt8, a1 = (x.toNat : Int) := ⟨UInt8.ofNat a1.toNat, by rw [UInt8.toNat_ofNat']; omega⟩
  by_cases hlong : 80 < n0
  · exact (walk_long A0 n0 c0 _ _ W hlong (Nat.le_trans m0 M0)).mono fin
  · exact (walk_short l0 key a2 A0 n0 c0 W e0 (by omega) s0).mono fin

set_option maxRecDepth 100000 in
theorem lifted (os : Os) (started : os.Started) (H : Type) (enc : TypeId × Value → H) :
    ReturnsInHanded {} Try.checked os 3 .any (Rows.ringBuildsSpec.pre6 enc Try.prog Try.f3 Rows.ringBuildsRow.domain false) (Rows.ringBuildsSpec.post enc Try.prog Try.f3 false true false false) := by
  refine returnsInHanded_of_change (C := Try.checked) (s := Rows.ringBuildsSpec) own started (by kernel_rfl) Try.func3
    (ChangeSpec.witness6 (enc := enc) (C := Try.checked) false ⟨#[], #[.slice none 0 0, .int .u8 0, .int .i64 0], []⟩ 8 (by kernel_rfl) (by kernel_rfl) (by kernel_rfl) (by kernel_rfl)) ?_
  intro W base args ds gs before hval hW _ _
  exact contract H enc W base args ds gs before hval hW

theorem proved : Rows.RingBuildsSaid :=
  OpenClaim.holds_of_wide 3 Try.f3 rfl rfl rfl rfl rfl rfl rfl ⟨rfl, rfl, rfl, rfl, rfl⟩ rfl rfl rfl rfl rfl (by kernel_rfl) Try.func3 (by kernel_rfl)
    (of_decide_eq_true (by kernel_rfl)) (by unfold Func.isWrapper; first | (rw [if_pos (by decide +kernel)]; kernel_rfl) | (rw [if_neg (by decide +kernel)]; exact ⟨rfl, rfl⟩))
    (fun os started H enc _ => lifted os started H enc)
end Go.Proofs.Ytpiikdinphnjbaa.ringBuilds
